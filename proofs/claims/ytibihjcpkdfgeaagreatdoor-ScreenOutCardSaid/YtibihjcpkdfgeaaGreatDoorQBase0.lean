/-
  Words for memory: a slice whose cells are a list; what stands below a block; small facts on lists. Nothing of the program but its number kinds.
  The reference's Sign and Put: a sign as bytes.
  The reference's Write, and the model's own bytes of a list of signs.
  The package-level table of width: what the row's list gives of its cells; how wide a sign is, as a plain chain of bounds.
  Numbers of seven bits a byte in plain words: what a number becomes, what is read at the beginning of bytes; that the one is the other's way back. Runs of alike things. Rows as bytes in plain words: what a row becomes; what is read at the beginning of bytes; that the one is the other's way back. Runs of alike things, built up from the front: what becomes of them when one thing more comes.
  width.Of and width.Text: what they answer, for every sign and every list of signs.
  The functions of package cell that look at one cell: Blank, Pad, IsBlank, IsPad, hasSign, May.
  The machine of package utf in plain words: states, steps, what a text becomes.
  The methods of utf.Reader: each step of the machine, whatever it holds.
  More of utf.Reader: begin, goOn, read, and the methods of its face; All. More of utf.Reader: goOn, read, and the methods of its face; All. The face of utf: Put, End, Waits, All, of a Reader and of none.
  The functions of package cell: hasSign, May, Of, Line.
  cell.May of any cell.
  pack.May of any row.
  pack.follows: does a cell go on with the run at the end of a list of cells? Are two lists of cells the same, are two rows? slices.Equal at cells, the reference's EqCells; pack.Eq, the reference's EqRow.
  A list of bytes in a row of the call's own; the reference's Uint; pack.appendUint, pack.Uint.
  DERIVED: THE SHELF's CONTRACTS AT THIS DUMP, IN PLAIN WORDS (tools/lay-plain.mjs out of 'TryzShelf.lean', which tools/lay-shelf.mjs wrote): THE SAME DECLARATIONS UNDER THE SAME NAMES: 'import', 'namespace', 'open', 'def', 'theorem' AND NOTHING ELSE: no command of the shelf's: FOR A HAND-IN. Each laying: the table of numbers ('.._ren') and one theorem, a field a fact of the dump's own or the kernel's comparison; each contract: ONE APPLICATION.
  strings.Builder.WriteRune, whatever the Builder that a call has made holds.
  cell.Text and cell.Line.
  cell.Trim: what is left, for every list of cells; utf.Write. What begun's functions tell; what memory holds while begun goes on.
  append of a slice that reads as a list, nil or not; eq of equal lists of signs.
-/
import Derived.Test.YtibihjcpkdfgeaaGreatDoorRows
import Derived.WalkKit
import Derived.ProofKit
import Derived.OpenShut
import Derived.Lib.Hide
import Derived.Laws.BytesString
import Derived.Laws.Cover4
import Derived.Lib.RuneBytes
import Derived.Outline
import Derived.Deep.DeepHandedRow
import Derived.Lib.LaidTab
import Derived.Deep.RegionWith
import Derived.RegionCalls
import Derived.RegionTactic
import Derived.ChangeAlike
import Derived.Maps.AppendAt
import Derived.Laws.BitsLemmas
import Derived.Deep.DeepMust
import Derived.Deep.QuietTactic
import Derived.BigQuiet
import Derived.IntWalk
import Derived.Shelf.Strings.Builder1
import Derived.Shelf.Small.Utf8
import Derived.Shelf.Small.Strs
import Derived.Shelf.Strings.BuilderF
import Derived.Shelf.Strings.BuilderK
import Derived.Shelf.Strings.BuilderRune
import Derived.Shelf.Utf8.AppendRunePlain
import Derived.Shelf.Strings.Search1
import Derived.Shelf.Strings.Runes
import Derived.Shelf.Bits.Mul64
import Derived.Ground.SlbCloneProg
import Derived.Shelf.Bytes.SlClone
import Derived.Test.YtibihjcpkdfgeaaGreatDoorProg
import Derived.Laws.AppendOwnNone
namespace Go.Proofs.YtibihjcpkdfgeaaGreatDoor
open Go.ChangeShapes Go.WideShapes Go.ChangeAt Go.RowKit

theorem ret_int {k : IntKind} {a b : Int} (h : a = b) : Ending.returned (.int k a) = .returned (.int k b) := by rw [h]
theorem ret_bool {a b : Bool} (h : a = b) : Ending.returned (.bool a) = .returned (.bool b) := by rw [h]
theorem ret_str {a b : ByteArray} (h : a = b) : Ending.returned (.string a) = .returned (.string b) := by rw [h]

/-- The slice at A, of n elements of so many cells each, holds the cells xs, in a block below B. -/
structure Sq (w : World) (B size n : Nat) (A : Option Addr) (xs : List Value) : Prop where
  len : xs.length = n * size
  spot : 0 < n → ∃ b off, A = some ⟨b, off, none⟩ ∧ b < B ∧ ∀ j u, xs[j]? = some u → w.cell? ⟨b, off + j, none⟩ = some u

/-- The integer at place k (0 behind the end). -/
def nth (l : List Int) (k : Nat) : Int := l.getD k 0
theorem nth_get {l : List Int} {k : Nat} (h : k < l.length) : nth l k = l[k] := by simp [nth, List.getD, h]

namespace Sq
variable {w w' : World} {B B' size n : Nat} {A : Option Addr} {xs : List Value}
theorem nothing (w : World) (B size : Nat) (A : Option Addr) : Sq w B size 0 A [] := ⟨by simp, fun h => absurd h (Nat.lt_irrefl 0)⟩
theorem carry (h : Sq w B size n A xs) (k : ∀ p : Addr, p.block < B → w'.cell? p = w.cell? p) : Sq w' B size n A xs :=
  ⟨h.len, fun hn => let ⟨b, off, e, hb, hc⟩ := h.spot hn; ⟨b, off, e, hb, fun j u hu => (k ⟨b, off + j, none⟩ hb).trans (hc j u hu)⟩⟩
theorem below (h : Sq w B size n A xs) (hb : Below B w w') : Sq w' B size n A xs := h.carry fun _ hp => hb.cell hp
theorem up (h : Sq w B size n A xs) (hB : B ≤ B') : Sq w B' size n A xs :=
  ⟨h.len, fun hn => let ⟨b, off, e, hb, hc⟩ := h.spot hn; ⟨b, off, e, Nat.lt_of_lt_of_le hb hB, hc⟩⟩
theorem alloc (h : Sq w B size n A xs) (hB : B ≤ w.heap.size) (o : Obj) : Sq (w.alloc o) B size n A xs := h.below ((Below.refl _ _).alloc hB o)
theorem setCell (h : Sq w B size n A xs) {p : Addr} (hp : B ≤ p.block) (u : Value) : Sq (w.setCell p u) B size n A xs := h.below ((Below.refl _ _).setCell hp u)
theorem own {base : Nat} {e : TypeId} {c : Nat} (h : w.ownsRow base e size (.slice A n c) n xs) : Sq w w.heap.size size n A xs := by
  refine ⟨h.1, fun hn => ?_⟩
  rcases h.2 with ⟨hv, h0⟩ | ⟨g, cap, cur, hv, _, hg, _, _, _, htake⟩
  · omega
  · have hA : A = some ⟨g, 0, none⟩ := by injection hv
    subst hA
    refine ⟨g, 0, rfl, (Array.getElem?_eq_some_iff.1 hg).1, fun j u hu => ?_⟩
    rw [cell_of_row w g (0 + j) cur e (0, 0) hg, Nat.zero_add]
    rw [← htake, List.getElem?_take] at hu
    split at hu
    · simpa using hu
    · cases hu
/-- one integer of it -/
theorem int_at {k : IntKind} {l : List Int} (h : Sq w B 1 n A (l.map (Value.int k))) {i : Nat} (hi : i < n) : ∃ b off, A = some ⟨b, off, none⟩ ∧ b < B ∧ w.cell? ⟨b, off + i, none⟩ = some (.int k (nth l i)) := by
  obtain ⟨b, off, e, hb, hc⟩ := h.spot (by omega)
  have hl : i < l.length := by have := h.len; simp at this; omega
  exact ⟨b, off, e, hb, hc i _ (by simp [nth_get hl, hl])⟩
theorem size_ints {k : IntKind} {l : List Int} (h : Sq w B 1 n A (l.map (Value.int k))) : l.length = n := by have := h.len; simpa using this
end Sq

/-- Each is an int32. -/
def Runes (l : List Int) : Prop := ∀ r ∈ l, -2147483648 ≤ r ∧ r ≤ 2147483647
theorem Runes.get {l : List Int} (h : Runes l) (i : Nat) : -2147483648 ≤ nth l i ∧ nth l i ≤ 2147483647 := by
  by_cases hi : i < l.length
  · rw [nth_get hi]; exact h _ (List.getElem_mem hi)
  · have e : nth l i = 0 := by simp [nth, List.getD, show l.length ≤ i by omega]
    rw [e]; omega
theorem take_next {l : List Int} {k : Nat} (h : k < l.length) : l.take (k + 1) = l.take k ++ [nth l k] := by
  rw [List.take_succ_eq_append_getElem h, nth_get h]
theorem take_all {α : Type} (l : List α) {k : Nat} (h : l.length ≤ k) : l.take k = l := List.take_of_length_le h
/-- A string's bytes as integers. -/
def octs (s : ByteArray) : List Int := s.data.toList.map fun c => (c.toNat : Int)
theorem octs_length (s : ByteArray) : (octs s).length = s.size := by unfold octs; rw [List.length_map, Array.length_toList]; rfl
theorem nth_octs (s : ByteArray) (k : Nat) (h : k < s.size) : nth (octs s) k = ((s[k]'h).toNat : Int) := by
  have hl : k < (octs s).length := by rw [octs_length]; exact h
  rw [nth_get hl]
  simp only [octs, List.getElem_map]
  rfl
theorem octs_range (s : ByteArray) : ∀ x ∈ octs s, 0 ≤ x ∧ x ≤ 255 := by
  intro x hx
  obtain ⟨c, _, rfl⟩ := List.mem_map.1 hx
  have := c.toNat_lt
  omega
end Go.Proofs.YtibihjcpkdfgeaaGreatDoor
namespace Go.Proofs.YtibihjcpkdfgeaaGreatDoor
open Go.ChangeShapes Go.WideShapes Go.ChangeAt Go.RowKit

set_option maxRecDepth 100000 in
set_option maxHeartbeats 400000 in
theorem refSign_yes (r : Int) (h0 : 0 ≤ r) (h1 : r ≤ 1114111) (h2 : r < 55296 ∨ 57343 < r) (w : World) : Calls Tryz.prog 30 #[.int .i32 r] w fun e w' => e = .returned (.bool true) ∧ w = w' := by
  rcases h2 with h2 | h2
  · go_enter Tryz.func30, Tryz.ntmps30
    go_wp2
    go_ret
    exact ⟨rfl, rfl⟩
  · have h3 : 55296 ≤ r := by omega
    go_enter Tryz.func30, Tryz.ntmps30
    go_wp2
    go_ret
    exact ⟨rfl, rfl⟩
set_option maxRecDepth 100000 in
set_option maxHeartbeats 400000 in
theorem refSign_no (r : Int) (h : r < 0 ∨ 1114111 < r ∨ (55296 ≤ r ∧ r ≤ 57343)) (w : World) : Calls Tryz.prog 30 #[.int .i32 r] w fun e w' => e = .returned (.bool false) ∧ w = w' := by
  rcases h with h | h | ⟨h, h'⟩
  · go_enter Tryz.func30, Tryz.ntmps30
    go_wp2
    go_ret
    exact ⟨rfl, rfl⟩
  · have h0 : 0 ≤ r := by omega
    have hd : decide (r ≤ 1114111) = false := by simp; omega
    go_enter Tryz.func30, Tryz.ntmps30
    go_wp2
    go_ret
    exact ⟨rfl, rfl⟩
  · have h0 : 0 ≤ r := by omega
    have h1 : r ≤ 1114111 := by omega
    have hd : decide (57343 < r) = false := by simp; omega
    have he : decide (r < 55296) = false := by simp; omega
    go_enter Tryz.func30, Tryz.ntmps30
    go_wp2
    go_ret
    exact ⟨rfl, rfl⟩

theorem fold_push (ns : List Int) : ∀ s : ByteArray, ns.foldl (fun r n => r.push (UInt8.ofNat n.toNat)) s = ⟨(s.data.toList ++ ns.map fun x => UInt8.ofNat x.toNat).toArray⟩ := by
  induction ns with
  | nil => intro s; simp
  | cons n ns ih =>
    intro s
    rw [List.foldl_cons, ih]
    simp [ByteArray.push]
/-- A new row of bytes as a string. -/
theorem put_conv (w : World) (ns : List Int) (cs : Array Value) (hcs : cs = (ns.map (Value.int .u8)).toArray) (n : Nat) (hn : n = ns.length) :
    (convert 27 9 (.slice (some ⟨w.heap.size, 0, none⟩) n n)).run Tryz.prog (w.alloc (.cells cs 5)) = .ok (.string ⟨(ns.map fun x => UInt8.ofNat x.toNat).toArray⟩) (w.alloc (.cells cs 5)) := by
  subst hcs hn
  rw [run_convert_bytes_string _ 27 9 5 _ _ _ Tryz.underlying27 Tryz.underlying5 Tryz.underlying9]
  rw [run_bytesToString _ ⟨w.heap.size, 0, none⟩ ns.length ns.length ns, fold_push]
  · simp [ByteArray.empty, ByteArray.emptyWithCapacity]
    rfl
  · rw [run_loadCells _ ⟨w.heap.size, 0, none⟩ ns.length (fun j => .int .u8 (ns.getD j 0)) (fun j hj => ?_), range_map_take _ ns ns.length (Nat.le_refl _), List.take_length]
    rw [show (⟨w.heap.size, 0, none⟩ : Addr).add j = ⟨w.heap.size, j, none⟩ by unfold Addr.add; split <;> simp_all]
    rw [cell_of_row _ w.heap.size j _ 5 (0, 0) (heap_alloc_new w _)]
    simp [List.getD, hj]
theorem enc_of (r : Int) (ns : List Int) (h : Lib.encodeRuneZ r = ns) : (ns.map fun x => UInt8.ofNat x.toNat).toArray = (Lib.encodeRune r).toArray := by rw [← h]; rfl

set_option maxRecDepth 100000 in
set_option maxHeartbeats 800000 in
theorem refPut_one (r : Int) (h0 : 0 ≤ r) (h1 : r < 128) (w : World) : Calls Tryz.prog 31 #[.int .i32 r] w fun e w' => e = .returned (.string ⟨(Lib.encodeRune r).toArray⟩) ∧ Below w.heap.size w w' := by
  have S := refSign_yes r (by omega) (by omega) (by omega) w
  have SH := Lib.hid S
  have K := put_conv w [r] #[.int .u8 (r)] rfl 1 rfl
  rw [enc_of r [r] (Lib.encodeRuneZ_one h0 (by omega))] at K
  clear S
  go_enter Tryz.func31, Tryz.ntmps31
  go_wp2_with (go_at_call 30; refine SH.out.mono ?_; rintro e w' ⟨rfl, rfl⟩)
  go_ret
  exact ⟨rfl, (Below.refl _ _).alloc (Nat.le_refl _) _⟩
set_option maxRecDepth 100000 in
set_option maxHeartbeats 800000 in
theorem refPut_two (r : Int) (h0 : 128 ≤ r) (h1 : r < 2048) (w : World) : Calls Tryz.prog 31 #[.int .i32 r] w fun e w' => e = .returned (.string ⟨(Lib.encodeRune r).toArray⟩) ∧ Below w.heap.size w w' := by
  have S := refSign_yes r (by omega) (by omega) (by omega) w
  have SH := Lib.hid S
  have K := put_conv w [192 + r / 64, 128 + r % 64] #[.int .u8 (192 + r / 64), .int .u8 (128 + r % 64)] rfl 2 rfl
  rw [enc_of r [192 + r / 64, 128 + r % 64] (Lib.encodeRuneZ_two h0 (by omega))] at K
  clear S
  go_enter Tryz.func31, Tryz.ntmps31
  go_wp2_with (go_at_call 30; refine SH.out.mono ?_; rintro e w' ⟨rfl, rfl⟩)
  go_ret
  exact ⟨rfl, (Below.refl _ _).alloc (Nat.le_refl _) _⟩
set_option maxRecDepth 100000 in
set_option maxHeartbeats 800000 in
theorem refPut_three (r : Int) (h0 : 2048 ≤ r) (h1 : r < 65536) (h2 : r < 55296 ∨ 57343 < r) (w : World) : Calls Tryz.prog 31 #[.int .i32 r] w fun e w' => e = .returned (.string ⟨(Lib.encodeRune r).toArray⟩) ∧ Below w.heap.size w w' := by
  have S := refSign_yes r (by omega) (by omega) (h2) w
  have SH := Lib.hid S
  have K := put_conv w [224 + r / 4096, 128 + r / 64 % 64, 128 + r % 64] #[.int .u8 (224 + r / 4096), .int .u8 (128 + r / 64 % 64), .int .u8 (128 + r % 64)] rfl 3 rfl
  rw [enc_of r [224 + r / 4096, 128 + r / 64 % 64, 128 + r % 64] (Lib.encodeRuneZ_three (by omega))] at K
  clear S
  go_enter Tryz.func31, Tryz.ntmps31
  go_wp2_with (go_at_call 30; refine SH.out.mono ?_; rintro e w' ⟨rfl, rfl⟩)
  go_ret
  exact ⟨rfl, (Below.refl _ _).alloc (Nat.le_refl _) _⟩
set_option maxRecDepth 100000 in
set_option maxHeartbeats 800000 in
theorem refPut_four (r : Int) (h0 : 65536 ≤ r) (h1 : r ≤ 1114111) (w : World) : Calls Tryz.prog 31 #[.int .i32 r] w fun e w' => e = .returned (.string ⟨(Lib.encodeRune r).toArray⟩) ∧ Below w.heap.size w w' := by
  have S := refSign_yes r (by omega) (by omega) (by omega) w
  have SH := Lib.hid S
  have K := put_conv w [240 + r / 262144, 128 + r / 4096 % 64, 128 + r / 64 % 64, 128 + r % 64] #[.int .u8 (240 + r / 262144), .int .u8 (128 + r / 4096 % 64), .int .u8 (128 + r / 64 % 64), .int .u8 (128 + r % 64)] rfl 4 rfl
  rw [enc_of r [240 + r / 262144, 128 + r / 4096 % 64, 128 + r / 64 % 64, 128 + r % 64] (Lib.encodeRuneZ_four h0 h1)] at K
  clear S
  go_enter Tryz.func31, Tryz.ntmps31
  go_wp2_with (go_at_call 30; refine SH.out.mono ?_; rintro e w' ⟨rfl, rfl⟩)
  go_ret
  exact ⟨rfl, (Below.refl _ _).alloc (Nat.le_refl _) _⟩

set_option maxRecDepth 100000 in
set_option maxHeartbeats 800000 in
theorem refPut_bad (r : Int) (h : r < 0 ∨ 1114111 < r ∨ (55296 ≤ r ∧ r ≤ 57343)) (w : World) : Calls Tryz.prog 31 #[.int .i32 r] w fun e w' => e = .returned (.string ⟨(Lib.encodeRune r).toArray⟩) ∧ Below w.heap.size w w' := by
  have S := refSign_no r h w
  have B := refPut_three 65533 (by omega) (by omega) (by omega) w
  rw [show Lib.encodeRune 65533 = Lib.encodeRune r by unfold Lib.encodeRune; rw [Lib.encodeRuneZ_bad (r := r) (by omega)]; rfl] at B
  have SH := Lib.hid S
  have BH := Lib.hid B
  clear S B h
  go_enter Tryz.func31, Tryz.ntmps31
  go_wp2_with (first
    | (go_at_call 30; refine SH.out.mono ?_; rintro e w' ⟨rfl, rfl⟩)
    | (go_at_call 31; refine BH.out.mono ?_; rintro e w' ⟨rfl, hb⟩))
  go_ret
  exact ⟨rfl, hb⟩

/-- The reference's Put, of any sign. -/
theorem refPut_any (r : Int) (_ : -2147483648 ≤ r) (_ : r ≤ 2147483647) (w : World) : Calls Tryz.prog 31 #[.int .i32 r] w fun e w' => e = .returned (.string ⟨(Lib.encodeRune r).toArray⟩) ∧ Below w.heap.size w w' := by
  by_cases h0 : r < 0 ∨ 1114111 < r ∨ (55296 ≤ r ∧ r ≤ 57343)
  · exact refPut_bad r h0 w
  · by_cases h1 : r < 128
    · exact refPut_one r (by omega) h1 w
    · by_cases h2 : r < 2048
      · exact refPut_two r (by omega) h2 w
      · by_cases h3 : r < 65536
        · exact refPut_three r (by omega) h3 (by omega) w
        · exact refPut_four r (by omega) (by omega) w
end Go.Proofs.YtibihjcpkdfgeaaGreatDoor
namespace Go.Proofs.YtibihjcpkdfgeaaGreatDoor
open Go.ChangeShapes Go.WideShapes Go.ChangeAt Go.RowKit

/-- The bytes of a list of signs. -/
def encL (l : List Int) : List UInt8 := l.flatMap Lib.encodeRune
theorem encL_append (a b : List Int) : encL (a ++ b) = encL a ++ encL b := by simp [encL]
theorem encL_one (r : Int) : encL [r] = Lib.encodeRune r := by simp [encL]
theorem encode_len (r : Int) : (Lib.encodeRune r).length ≤ 4 := by
  have := (Lib.encodeRuneZ_length r).2
  simpa [Lib.encodeRune] using this
theorem encL_length (l : List Int) : (encL l).length ≤ 4 * l.length := by
  induction l with
  | nil => simp [encL]
  | cons r l ih =>
    have e : encL (r :: l) = Lib.encodeRune r ++ encL l := by simp [encL]
    have := encode_len r
    rw [e, List.length_append, List.length_cons]
    omega
theorem bytes_ext {a : ByteArray} {l : List UInt8} (h : a.data.toList = l) : a = ⟨l.toArray⟩ := by
  subst h
  rfl
theorem encode_model (r : Int) : Utf8.encode r = ⟨(Lib.encodeRune r).toArray⟩ := by
  by_cases h0 : r < 0 ∨ 1114111 < r ∨ (55296 ≤ r ∧ r ≤ 57343)
  · have hv : Utf8.valid r = false := by
      unfold Utf8.valid
      simp
      omega
    have e : Lib.encodeRune r = [239, 191, 189] := by unfold Lib.encodeRune; rw [Lib.encodeRuneZ_bad (by omega)]; rfl
    rw [e]
    unfold Utf8.encode
    rw [hv]
    simp only [Bool.false_eq_true, if_false]
    decide +kernel
  · obtain ⟨n, rfl⟩ := Int.eq_ofNat_of_zero_le (show 0 ≤ r by omega)
    have hv : Utf8.valid (n : Int) = true := by
      unfold Utf8.valid
      simp
      omega
    unfold Utf8.encode
    simp only [hv, if_true, Int.toNat_natCast]
    have cast : ∀ (a : Nat) (b : Int), b = (a : Int) → b.toNat.toUInt8 = UInt8.ofNat a := by rintro a b rfl; rfl
    unfold Lib.encodeRune
    by_cases h1 : n < 128
    · rw [if_pos h1, Lib.encodeRuneZ_one (by omega) (by omega)]; rfl
    · by_cases h2 : n < 2048
      · rw [if_neg h1, if_pos h2, Lib.encodeRuneZ_two (by omega) (by omega)]
        simp only [List.map_cons, List.map_nil]
        rw [cast (192 + n / 64) _ (by omega), cast (128 + n % 64) _ (by omega)]
      · by_cases h3 : n < 65536
        · rw [if_neg h1, if_neg h2, if_pos h3, Lib.encodeRuneZ_three (by omega)]
          simp only [List.map_cons, List.map_nil]
          rw [cast (224 + n / 4096) _ (by omega), cast (128 + n / 64 % 64) _ (by omega), cast (128 + n % 64) _ (by omega)]
        · rw [if_neg h1, if_neg h2, if_neg h3, Lib.encodeRuneZ_four (by omega) (by omega)]
          simp only [List.map_cons, List.map_nil]
          rw [cast (240 + n / 262144) _ (by omega), cast (128 + n / 4096 % 64) _ (by omega), cast (128 + n / 64 % 64) _ (by omega), cast (128 + n % 64) _ (by omega)]
theorem fold_model (l : List Int) : ∀ s : ByteArray, l.foldl (fun r n => r ++ Utf8.encode n) s = ⟨(s.data.toList ++ encL l).toArray⟩ := by
  induction l with
  | nil => intro s; simp [encL]
  | cons r l ih =>
    intro s
    have e : encL (r :: l) = Lib.encodeRune r ++ encL l := by simp [encL]
    rw [List.foldl_cons, ih, encode_model, e]
    simp
/-- The model's bytes of a list of signs are these. -/
theorem runes_model (l : List Int) : runesBytes l = ⟨(encL l).toArray⟩ := by
  unfold runesBytes
  rw [fold_model]
  rfl

set_option maxRecDepth 100000 in
set_option maxHeartbeats 800000 in
theorem refWrite_walk (A : Option Addr) (n c : Nat) (l : List Int) (w : World) (hr : Runes l) (hn : n ≤ 1073741824) (hq : Sq w w.heap.size 1 n A (l.map (Value.int .i32))) :
    Calls Tryz.prog 100 #[.slice A n c] w fun e w' => e = .returned (.string ⟨(encL l).toArray⟩) ∧ Below w.heap.size w w' := by
  have LN := Lib.hid hq.size_ints
  have Q := Lib.hid hq
  have HR := Lib.hid hr
  clear hq hr
  go_enter Tryz.func100, Tryz.ntmps100
  go_wp2
  go_loopw [3, 4] (fun v i wr => ∃ (k : Nat) (s : ByteArray), v = .string s ∧ i = .int .i64 k ∧ k ≤ n ∧ s.data.toList = encL (l.take k) ∧ Below w.heap.size w wr) (fun _ i _ => n - (intOf i).toNat)
  case atStart => exact ⟨0, _, rfl, rfl, Nat.zero_le _, by simp [encL], Below.refl _ _⟩
  case round =>
    obtain ⟨k, s, rfl, rfl, hk, hs, hb⟩ := hrel
    have hsz := hb.size
    by_cases hlt : k < n
    · obtain ⟨b, off, rfl, _, hc⟩ := (Q.out.below hb).int_at hlt
      have hx := HR.out.get k
      have hs4 : s.size ≤ 4294967296 := by
        have h1 := encL_length (l.take k)
        have h2 := List.length_take_le k l
        have h3 : s.size = s.data.toList.length := by rw [Array.length_toList]; rfl
        rw [hs] at h3
        omega
      have he4 := encode_len (nth l k)
      have HB := Lib.hid hb
      have HS := Lib.hid hs
      clear hb hs
      go_wp2_with (go_at_call 31; refine (refPut_any _ hx.1 hx.2 _).mono ?_; rintro e w' ⟨rfl, b2⟩)
      go_roundw
      case rel =>
        refine ⟨k + 1, _, rfl, by go_num, by omega, ?_, HB.out.trans (b2.mono hsz)⟩
        rw [take_next (by have := LN.out; omega), encL_append, encL_one, ← HS.out]
        simp
      case measure => simp [intOf]; omega
    · have E := Lib.hid (take_all l (k := k) (by have := LN.out; omega))
      rw [E.out] at hs
      obtain rfl := bytes_ext hs
      clear hs
      go_wp2
      go_ret
      exact ⟨rfl, hb⟩
end Go.Proofs.YtibihjcpkdfgeaaGreatDoor
namespace Go.Proofs.YtibihjcpkdfgeaaGreatDoor
open Go.ChangeShapes Go.WideShapes Go.ChangeAt Go.RowKit

/-- The table, row by row: first, last, wide. -/
def spanRows : List (Int × Int × Int) :=
  [(-2147483648, 31, 0), (127, 159, 0), (768, 879, 0), (4352, 4447, 2), (8203, 8207, 0), (11904, 12350, 2), (12353, 13311, 2), (13312, 19903, 2), (19968, 40959, 2), (40960, 42191, 2), (44032, 55203, 2), (55296, 57343, 0), (63744, 64255, 2), (65024, 65039, 0), (65072, 65135, 2), (65280, 65376, 2), (65504, 65510, 2), (127744, 128591, 2), (129280, 129535, 2), (131072, 262141, 2), (1114112, 2147483647, 0)]
def sFirst (i : Nat) : Int := (spanRows.getD i (0, 0, 0)).1
def sLast (i : Nat) : Int := (spanRows.getD i (0, 0, 0)).2.1
def sWide (i : Nat) : Int := (spanRows.getD i (0, 0, 0)).2.2

/-- The table's cells hold its numbers. -/
structure Spans (w : World) : Prop where
  size : 0 < w.heap.size
  first : ∀ i, i < 21 → w.cell? ⟨0, i * 3, none⟩ = some (.int .i32 (sFirst i))
  last : ∀ i, i < 21 → w.cell? ⟨0, i * 3 + 1, none⟩ = some (.int .i32 (sLast i))
  wide : ∀ i, i < 21 → w.cell? ⟨0, i * 3 + 2, none⟩ = some (.int .i64 (sWide i))

/-- The table stands over whatever is done above it. -/
theorem Spans.below {w w' : World} {B : Nat} (h : Spans w) (hb : Below B w w') (hB : 0 < B) : Spans w' :=
  ⟨Nat.lt_of_lt_of_le h.size hb.size, fun i hi => (hb.cell (p := ⟨0, i * 3, none⟩) hB).trans (h.first i hi), fun i hi => (hb.cell (p := ⟨0, i * 3 + 1, none⟩) hB).trans (h.last i hi), fun i hi => (hb.cell (p := ⟨0, i * 3 + 2, none⟩) hB).trans (h.wide i hi)⟩

theorem Spans.drew {w : World} (h : Spans w) : Spans w.drew := ⟨h.size, h.first, h.last, h.wide⟩

theorem gSpans : Tryz.prog.globalNamed "rotulus/width.spans" = some 0 := by kernel_rfl
theorem gSpansType : (Tryz.prog.globals[0]?).map (·.type) = some 161 := by kernel_rfl
theorem cellsSpans : Tryz.prog.cellsOf 161 = 63 := by kernel_rfl
theorem cellsSpan : Tryz.prog.cellsOf 160 = 3 := by kernel_rfl
theorem cellsRune : Tryz.prog.cellsOf 21 = 1 := by kernel_rfl
theorem cellsInt : Tryz.prog.cellsOf 3 = 1 := by kernel_rfl

set_option maxRecDepth 100000 in
/-- One row's three cells out of its reading. -/
theorem span_cells {H : Type} {enc : TypeId × Value → H} {w : World} {base : Nat} {sp : Nat → Bool} {held : Bool} {fuel : Nat} {cs : List Value} {a b c : Int} {x : DataW H × List MemPlace}
    (h : DataW.trod enc Tryz.prog w base sp held fuel 160 cs = some x) (hx : x.1 = .agg [.lit (.int .i32 a), .lit (.int .i32 b), .lit (.int .i64 c)]) : cs = [.int .i32 a, .int .i32 b, .int .i64 c] := by
  obtain ⟨xs, m, rfl, rfl, hl, hn, hf⟩ := DataW.trod_struct Tryz.underlying160 h
  rw [cellsSpan] at hl
  match cs, hl with
  | [c0, c1, c2], _ =>
    have f0 : DataW.trod enc Tryz.prog w base sp held m 21 [c0] = xs[0]? := by have := hf 0 _ rfl; simpa [cellsRune] using this
    have f1 : DataW.trod enc Tryz.prog w base sp held m 21 [c1] = xs[1]? := by have := hf 1 _ rfl; simpa [cellsRune] using this
    have f2 : DataW.trod enc Tryz.prog w base sp held m 3 [c2] = xs[2]? := by have := hf 2 _ rfl; simpa [cellsInt] using this
    match xs, hn with
    | [x0, x1, x2], _ =>
      simp only [List.getElem?_cons_zero, List.getElem?_cons_succ] at f0 f1 f2
      obtain ⟨z0, e0, rfl, _⟩ := DataW.trod_int Tryz.underlying21 f0
      obtain ⟨z1, e1, rfl, _⟩ := DataW.trod_int Tryz.underlying21 f1
      obtain ⟨z2, e2, rfl, _⟩ := DataW.trod_int Tryz.underlying3 f2
      simp at e0 e1 e2 hx
      obtain ⟨rfl, rfl, rfl⟩ := hx
      rw [e0, e1, e2]

/-- The row's list as data, row by row. -/
theorem laid_rows {H : Type} : Rows.laid_rotulus_width_spans (H := H) = .agg (spanRows.map fun x => .agg [.lit (.int .i32 x.1), .lit (.int .i32 x.2.1), .lit (.int .i64 x.2.2)]) := rfl

/-- WHAT THE ROW's LIST GIVES. -/
theorem spans_of {W : World} (h : laidMetH Tryz.prog [("rotulus/width.spans", Rows.laid_rotulus_width_spans)] W) : Spans W := by
  have h' : laidMet Tryz.prog [("rotulus/width.spans", Rows.laid_rotulus_width_spans)] W := h
  obtain ⟨ps, ⟨g', t', cs, fuel, p, q, hg', ht', hvar, hd, _, _⟩, _⟩ := h'
  obtain rfl := Option.some.inj (gSpans.symm.trans hg')
  obtain rfl := Option.some.inj (gSpansType.symm.trans ht')
  obtain ⟨xs, m, rfl, hx, hl, hn, hf⟩ := DataW.trod_array Tryz.underlying161 hd
  rw [cellsSpan] at hf
  rw [cellsSpans] at hl
  have hxs : xs.map (·.1) = spanRows.map fun x => (DataW.agg [.lit (.int .i32 x.1), .lit (.int .i32 x.2.1), .lit (.int .i64 x.2.2)] : DataW Unit) := by
    have := congrArg Prod.fst hx
    rw [laid_rows] at this
    exact (DataW.agg.inj this).symm
  have key : ∀ i, i < 21 → (cs.toList.drop (i * 3)).take 3 = [.int .i32 (sFirst i), .int .i32 (sLast i), .int .i64 (sWide i)] := by
    intro i hi
    have hr : spanRows[i]? = some (spanRows.getD i (0, 0, 0)) := by
      have : i < spanRows.length := hi
      simp [List.getD, this]
    have h1 : (xs.map (·.1))[i]? = some (DataW.agg [.lit (.int .i32 (sFirst i)), .lit (.int .i32 (sLast i)), .lit (.int .i64 (sWide i))] : DataW Unit) := by
      rw [hxs, List.getElem?_map, hr]; rfl
    have h2 := hf i hi
    rw [List.getElem?_map, Option.map_eq_some_iff] at h1
    obtain ⟨x, hx1, hx2⟩ := h1
    rw [hx1] at h2
    exact span_cells h2 hx2
  have cell : ∀ i j v, i < 21 → [Value.int .i32 (sFirst i), .int .i32 (sLast i), .int .i64 (sWide i)][j]? = some v → W.cell? ⟨0, i * 3 + j, none⟩ = some v := by
    intro i j v hi hv
    rw [World.var?_cell gSpans hvar, ← hv, ← key i hi, List.getElem?_take, ← Array.getElem?_toList]
    have hj : j < 3 := by
      by_cases hj : j < 3
      · exact hj
      · rw [List.getElem?_eq_none (by simp; omega)] at hv; cases hv
    rw [if_pos hj, List.getElem?_drop]
  refine ⟨World.block_lt_of_cell? W _ (cell 0 0 _ (by omega) rfl), fun i hi => cell i 0 _ hi rfl, fun i hi => cell i 1 _ hi rfl, fun i hi => cell i 2 _ hi rfl⟩

/-- HOW WIDE A SIGN IS. -/
def wof (r : Int) : Int :=
  if r ≤ 31 then 0 else
  if 127 ≤ r ∧ r ≤ 159 then 0 else
  if 768 ≤ r ∧ r ≤ 879 then 0 else
  if 4352 ≤ r ∧ r ≤ 4447 then 2 else
  if 8203 ≤ r ∧ r ≤ 8207 then 0 else
  if 11904 ≤ r ∧ r ≤ 12350 then 2 else
  if 12353 ≤ r ∧ r ≤ 13311 then 2 else
  if 13312 ≤ r ∧ r ≤ 19903 then 2 else
  if 19968 ≤ r ∧ r ≤ 40959 then 2 else
  if 40960 ≤ r ∧ r ≤ 42191 then 2 else
  if 44032 ≤ r ∧ r ≤ 55203 then 2 else
  if 55296 ≤ r ∧ r ≤ 57343 then 0 else
  if 63744 ≤ r ∧ r ≤ 64255 then 2 else
  if 65024 ≤ r ∧ r ≤ 65039 then 0 else
  if 65072 ≤ r ∧ r ≤ 65135 then 2 else
  if 65280 ≤ r ∧ r ≤ 65376 then 2 else
  if 65504 ≤ r ∧ r ≤ 65510 then 2 else
  if 127744 ≤ r ∧ r ≤ 128591 then 2 else
  if 129280 ≤ r ∧ r ≤ 129535 then 2 else
  if 131072 ≤ r ∧ r ≤ 262141 then 2 else
  if 1114112 ≤ r then 0 else
  1


theorem wof_range (r : Int) : 0 ≤ wof r ∧ wof r ≤ 2 := by
  unfold wof
  repeat' split
  all_goals omega
theorem wof_miss (r : Int) (h0 : -2147483648 ≤ r) (h1 : r ≤ 2147483647) (h : ∀ i, i < 21 → sLast i < r ∨ r < sFirst i) : wof r = 1 := by
  have k : ∀ i, i < 21 → ¬ (sFirst i ≤ r ∧ r ≤ sLast i) := fun i hi e => by have := h i hi; omega
  have k0 := k 0 (by omega); have k1 := k 1 (by omega); have k2 := k 2 (by omega); have k3 := k 3 (by omega); have k4 := k 4 (by omega); have k5 := k 5 (by omega); have k6 := k 6 (by omega)
  have k7 := k 7 (by omega); have k8 := k 8 (by omega); have k9 := k 9 (by omega); have k10 := k 10 (by omega); have k11 := k 11 (by omega); have k12 := k 12 (by omega); have k13 := k 13 (by omega)
  have k14 := k 14 (by omega); have k15 := k 15 (by omega); have k16 := k 16 (by omega); have k17 := k 17 (by omega); have k18 := k 18 (by omega); have k19 := k 19 (by omega); have k20 := k 20 (by omega)
  simp only [sFirst, sLast, spanRows, List.getD_cons_zero, List.getD_cons_succ] at k0 k1 k2 k3 k4 k5 k6 k7 k8 k9 k10 k11 k12 k13 k14 k15 k16 k17 k18 k19 k20
  unfold wof
  repeat rw [if_neg (by omega)]
theorem wof_hit (r : Int) (i : Nat) (hi : i < 21) (h0 : sFirst i ≤ r) (h1 : r ≤ sLast i) : wof r = sWide i := by
  unfold wof
  match i, hi with
  | 0, _ => simp only [sFirst, sLast, spanRows, List.getD_cons_zero] at h0 h1; (repeat rw [if_neg (by omega)]); rw [if_pos (by omega)]; rfl
  | 1, _ => simp only [sFirst, sLast, spanRows, List.getD_cons_zero, List.getD_cons_succ] at h0 h1; (repeat rw [if_neg (by omega)]); rw [if_pos (by omega)]; rfl
  | 2, _ => simp only [sFirst, sLast, spanRows, List.getD_cons_zero, List.getD_cons_succ] at h0 h1; (repeat rw [if_neg (by omega)]); rw [if_pos (by omega)]; rfl
  | 3, _ => simp only [sFirst, sLast, spanRows, List.getD_cons_zero, List.getD_cons_succ] at h0 h1; (repeat rw [if_neg (by omega)]); rw [if_pos (by omega)]; rfl
  | 4, _ => simp only [sFirst, sLast, spanRows, List.getD_cons_zero, List.getD_cons_succ] at h0 h1; (repeat rw [if_neg (by omega)]); rw [if_pos (by omega)]; rfl
  | 5, _ => simp only [sFirst, sLast, spanRows, List.getD_cons_zero, List.getD_cons_succ] at h0 h1; (repeat rw [if_neg (by omega)]); rw [if_pos (by omega)]; rfl
  | 6, _ => simp only [sFirst, sLast, spanRows, List.getD_cons_zero, List.getD_cons_succ] at h0 h1; (repeat rw [if_neg (by omega)]); rw [if_pos (by omega)]; rfl
  | 7, _ => simp only [sFirst, sLast, spanRows, List.getD_cons_zero, List.getD_cons_succ] at h0 h1; (repeat rw [if_neg (by omega)]); rw [if_pos (by omega)]; rfl
  | 8, _ => simp only [sFirst, sLast, spanRows, List.getD_cons_zero, List.getD_cons_succ] at h0 h1; (repeat rw [if_neg (by omega)]); rw [if_pos (by omega)]; rfl
  | 9, _ => simp only [sFirst, sLast, spanRows, List.getD_cons_zero, List.getD_cons_succ] at h0 h1; (repeat rw [if_neg (by omega)]); rw [if_pos (by omega)]; rfl
  | 10, _ => simp only [sFirst, sLast, spanRows, List.getD_cons_zero, List.getD_cons_succ] at h0 h1; (repeat rw [if_neg (by omega)]); rw [if_pos (by omega)]; rfl
  | 11, _ => simp only [sFirst, sLast, spanRows, List.getD_cons_zero, List.getD_cons_succ] at h0 h1; (repeat rw [if_neg (by omega)]); rw [if_pos (by omega)]; rfl
  | 12, _ => simp only [sFirst, sLast, spanRows, List.getD_cons_zero, List.getD_cons_succ] at h0 h1; (repeat rw [if_neg (by omega)]); rw [if_pos (by omega)]; rfl
  | 13, _ => simp only [sFirst, sLast, spanRows, List.getD_cons_zero, List.getD_cons_succ] at h0 h1; (repeat rw [if_neg (by omega)]); rw [if_pos (by omega)]; rfl
  | 14, _ => simp only [sFirst, sLast, spanRows, List.getD_cons_zero, List.getD_cons_succ] at h0 h1; (repeat rw [if_neg (by omega)]); rw [if_pos (by omega)]; rfl
  | 15, _ => simp only [sFirst, sLast, spanRows, List.getD_cons_zero, List.getD_cons_succ] at h0 h1; (repeat rw [if_neg (by omega)]); rw [if_pos (by omega)]; rfl
  | 16, _ => simp only [sFirst, sLast, spanRows, List.getD_cons_zero, List.getD_cons_succ] at h0 h1; (repeat rw [if_neg (by omega)]); rw [if_pos (by omega)]; rfl
  | 17, _ => simp only [sFirst, sLast, spanRows, List.getD_cons_zero, List.getD_cons_succ] at h0 h1; (repeat rw [if_neg (by omega)]); rw [if_pos (by omega)]; rfl
  | 18, _ => simp only [sFirst, sLast, spanRows, List.getD_cons_zero, List.getD_cons_succ] at h0 h1; (repeat rw [if_neg (by omega)]); rw [if_pos (by omega)]; rfl
  | 19, _ => simp only [sFirst, sLast, spanRows, List.getD_cons_zero, List.getD_cons_succ] at h0 h1; (repeat rw [if_neg (by omega)]); rw [if_pos (by omega)]; rfl
  | 20, _ => simp only [sFirst, sLast, spanRows, List.getD_cons_zero, List.getD_cons_succ] at h0 h1; (repeat rw [if_neg (by omega)]); rw [if_pos (by omega)]; rfl
  | n + 21, h => omega

theorem sFirst_mono : ∀ j, j < 21 → ∀ i, i < j → sFirst i ≤ sFirst j := by decide +kernel
theorem sLast_mono : ∀ j, j < 21 → ∀ i, i < j → sLast i ≤ sLast j := by decide +kernel
theorem sWide_range : ∀ i, i < 21 → 0 ≤ sWide i ∧ sWide i ≤ 2 := by decide +kernel

end Go.Proofs.YtibihjcpkdfgeaaGreatDoor
namespace Go.Proofs.YtibihjcpkdfgeaaGreatDoor

/-- A number as bytes, the lowest seven bits first. -/
def uintL (n : Nat) : List Int := if n < 128 then [(n : Int)] else ((n % 128 + 128 : Nat) : Int) :: uintL (n / 128)
termination_by n
decreasing_by omega
theorem uintL_small {n : Nat} (h : n < 128) : uintL n = [(n : Int)] := by rw [uintL, if_pos h]
theorem uintL_big {n : Nat} (h : ¬ n < 128) : uintL n = ((n % 128 + 128 : Nat) : Int) :: uintL (n / 128) := by rw [uintL, if_neg h]
/-- What stands at the beginning of bytes, of which so many have been read: the number, how many bytes; 0, 0: none. -/
def getGo (i acc : Nat) : List Int → Nat × Nat
  | [] => (0, 0)
  | x :: b => if 10 ≤ i then (0, 0) else if 128 ≤ x then getGo (i + 1) (acc + (x.toNat % 128) * 128 ^ i) b else if (0 < i ∧ x = 0) ∨ (i = 9 ∧ 1 < x) then (0, 0) else (acc + x.toNat * 128 ^ i, i + 1)
def getL (b : List Int) : Nat × Nat := getGo 0 0 b

theorem pow_nine {i n : Nat} (h : n * 128 ^ i < 2 ^ 64) (hn : 1 ≤ n) : i ≤ 9 := by
  rcases Nat.lt_or_ge 9 i with h9 | h9
  · have h1 : 128 ^ 10 ≤ 128 ^ i := Nat.pow_le_pow_right (by omega) h9
    have h2 : 128 ^ i ≤ n * 128 ^ i := Nat.le_mul_of_pos_left _ hn
    have h3 : (128 : Nat) ^ 10 = 1180591620717411303424 := by decide
    have h4 : (2 : Nat) ^ 64 = 18446744073709551616 := by decide
    omega
  · exact h9
theorem get_put : ∀ (n i acc : Nat) (m : List Int), (0 < i → 1 ≤ n) → n * 128 ^ i < 2 ^ 64 → getGo i acc (uintL n ++ m) = (acc + n * 128 ^ i, i + (uintL n).length) := by
  intro n
  induction n using Nat.strongRecOn with
  | ind n ih =>
    intro i acc m hi hn
    have hi9 : i ≤ 9 := by
      rcases Nat.eq_zero_or_pos i with h | h
      · omega
      · exact pow_nine hn (hi h)
    by_cases h : n < 128
    · rw [uintL_small h]
      simp only [List.cons_append, List.nil_append, getGo]
      have hlast : i = 9 → n ≤ 1 := by
        rintro rfl
        have h3 : (128 : Nat) ^ 9 = 9223372036854775808 := by decide
        have h4 : (2 : Nat) ^ 64 = 18446744073709551616 := by decide
        omega
      rw [if_neg (by omega), if_neg (by omega), if_neg (by
        rintro (⟨h1, h2⟩ | ⟨h1, h2⟩)
        · have := hi h1; omega
        · have := hlast h1; omega)]
      simp
    · rw [uintL_big h]
      simp only [List.cons_append, getGo]
      have hdiv : n / 128 * 128 + n % 128 = n := Nat.div_add_mod' n 128
      have hpow : (128 : Nat) ^ (i + 1) = 128 * 128 ^ i := by rw [Nat.pow_succ, Nat.mul_comm]
      have hle : n / 128 * 128 ^ (i + 1) ≤ n * 128 ^ i := by
        rw [hpow, ← Nat.mul_assoc]
        exact Nat.mul_le_mul_right _ (by omega)
      rw [if_neg (by omega), if_pos (by omega), ih (n / 128) (by omega) (i + 1) _ m (fun _ => by omega) (by omega)]
      have ht : (((n % 128 + 128 : Nat) : Int).toNat) % 128 = n % 128 := by
        rw [Int.toNat_natCast]; omega
      rw [ht, hpow]
      have hsum : (n % 128) * 128 ^ i + n / 128 * (128 * 128 ^ i) = n * 128 ^ i := by
        rw [← Nat.mul_assoc, ← Nat.add_mul]
        congr 1
        omega
      simp only [List.length_cons, Prod.mk.injEq]
      exact ⟨by omega, by omega⟩
theorem getL_put (n : Nat) (m : List Int) (h : n < 2 ^ 64) : getL (uintL n ++ m) = (n, (uintL n).length) := by
  unfold getL
  rw [get_put n 0 0 m (fun h => absurd h (Nat.lt_irrefl 0)) (by simpa using h)]
  simp
theorem get_some : ∀ (b : List Int) (i acc v k : Nat), (∀ x ∈ b, 0 ≤ x ∧ x ≤ 255) → getGo i acc b = (v, k) → k ≠ 0 → ∃ n, v = acc + n * 128 ^ i ∧ (0 < i → 1 ≤ n) ∧ n * 128 ^ i < 2 ^ 64 ∧ i < k ∧ k ≤ i + b.length ∧ b.take (k - i) = uintL n := by
  intro b
  induction b with
  | nil => intro i acc v k _ h hk; simp only [getGo, Prod.mk.injEq] at h; omega
  | cons x b ih =>
    intro i acc v k hb h hk
    have hx := hb x (by simp)
    unfold getGo at h
    by_cases h10 : 10 ≤ i
    · rw [if_pos h10] at h; simp only [Prod.mk.injEq] at h; omega
    · rw [if_neg h10] at h
      have hp : (128 : Nat) ^ i ≤ 128 ^ 9 := Nat.pow_le_pow_right (by omega) (by omega)
      have h9 : (128 : Nat) ^ 9 = 9223372036854775808 := by decide
      have h64 : (2 : Nat) ^ 64 = 18446744073709551616 := by decide
      by_cases h128 : 128 ≤ x
      · rw [if_pos h128] at h
        obtain ⟨n, hv, hn1, hn2, hik, hkl, ht⟩ := ih (i + 1) _ v k (fun y hy => hb y (by simp [hy])) h hk
        have hn : 1 ≤ n := hn1 (by omega)
        obtain ⟨y, rfl⟩ : ∃ y : Nat, x = ((y + 128 : Nat) : Int) := ⟨(x - 128).toNat, by omega⟩
        have hy : y < 128 := by omega
        have hpow : (128 : Nat) ^ (i + 1) = 128 * 128 ^ i := by rw [Nat.pow_succ, Nat.mul_comm]
        have hyt : (((y + 128 : Nat) : Int).toNat) % 128 = y := by rw [Int.toNat_natCast]; omega
        rw [hyt] at hv
        rw [hpow] at hv hn2
        have hsum : (n * 128 + y) * 128 ^ i = n * (128 * 128 ^ i) + y * 128 ^ i := by rw [Nat.add_mul, Nat.mul_assoc]
        refine ⟨n * 128 + y, by rw [hsum]; omega, fun _ => by omega, ?_, by omega, by simp only [List.length_cons]; omega, ?_⟩
        · rw [hsum]
          have hi9 := pow_nine (i := i + 1) (n := n) (by rw [hpow]; exact hn2) hn
          have h8 : (128 : Nat) ^ i ≤ 128 ^ 8 := Nat.pow_le_pow_right (by omega) (by omega)
          -- y stands below the seven bits that n begins at
          have hdvd : n * (128 * 128 ^ i) + 128 * 128 ^ i ≤ 2 ^ 64 := by
            have e : (2 : Nat) ^ 64 = (2 ^ (64 - 7 * (i + 1))) * (128 * 128 ^ i) := by
              have : (128 : Nat) * 128 ^ i = 2 ^ (7 * (i + 1)) := by rw [← hpow, show (128 : Nat) = 2 ^ 7 by decide, ← Nat.pow_mul]
              rw [this, ← Nat.pow_add]
              congr 1
              omega
            rw [e] at hn2 ⊢
            have hpos : 0 < 128 * 128 ^ i := by have := Nat.pow_pos (n := i) (show 0 < 128 by omega); omega
            have hlt : n < 2 ^ (64 - 7 * (i + 1)) := Nat.lt_of_mul_lt_mul_right hn2
            have := Nat.mul_le_mul_right (128 * 128 ^ i) (show n + 1 ≤ 2 ^ (64 - 7 * (i + 1)) by omega)
            rw [Nat.add_mul, Nat.one_mul] at this
            exact this
          have hyp : y * 128 ^ i < 128 * 128 ^ i := Nat.mul_lt_mul_of_pos_right hy (Nat.pow_pos (by omega))
          omega
        · have e1 : k - i = (k - (i + 1)) + 1 := by omega
          rw [e1, List.take_succ_cons, ht, uintL_big (n := n * 128 + y) (by omega)]
          congr 1
          · congr 1; omega
          · congr 1; omega
      · rw [if_neg h128] at h
        by_cases hbad : (0 < i ∧ x = 0) ∨ (i = 9 ∧ 1 < x)
        · rw [if_pos hbad] at h; simp only [Prod.mk.injEq] at h; omega
        · rw [if_neg hbad] at h
          simp only [Prod.mk.injEq] at h
          obtain ⟨rfl, rfl⟩ := h
          obtain ⟨y, rfl⟩ : ∃ y : Nat, x = (y : Int) := ⟨x.toNat, by omega⟩
          refine ⟨y, by simp, fun hi => ?_, ?_, by omega, by simp only [List.length_cons]; omega, ?_⟩
          · rcases Nat.eq_zero_or_pos y with h0 | h0
            · exact absurd (.inl ⟨hi, by omega⟩) hbad
            · exact h0
          · by_cases hi9 : i = 9
            · subst hi9
              have : y ≤ 1 := by
                rcases Nat.lt_or_ge 1 y with h1 | h1
                · exact absurd (.inr ⟨rfl, by omega⟩) hbad
                · exact h1
              have := Nat.mul_le_mul_right (128 ^ 9) this
              omega
            · have h8 : (128 : Nat) ^ i ≤ 128 ^ 8 := Nat.pow_le_pow_right (by omega) (by omega)
              have h88 : (128 : Nat) ^ 8 = 72057594037927936 := by decide
              have := Nat.mul_le_mul (show y ≤ 127 by omega) h8
              omega
          · rw [show i + 1 - i = 1 by omega, uintL_small (by omega)]
            simp
theorem getL_some {b : List Int} {v k : Nat} (hb : ∀ x ∈ b, 0 ≤ x ∧ x ≤ 255) (h : getL b = (v, k)) (hk : k ≠ 0) : v < 2 ^ 64 ∧ 1 ≤ k ∧ k ≤ b.length ∧ b.take k = uintL v := by
  obtain ⟨n, h1, _, h3, h4, h5, h6⟩ := get_some b 0 0 v k hb h hk
  simp at h1 h3 h5 h6
  subst h1
  exact ⟨h3, by omega, by omega, h6⟩

/-! How long a number is. -/
theorem uintL_pos (n : Nat) : 1 ≤ (uintL n).length := by
  by_cases h : n < 128
  · rw [uintL_small h]; simp
  · rw [uintL_big h]; simp
theorem uintL_one (n : Nat) : (uintL n).length = 1 ↔ n < 128 := by
  by_cases h : n < 128
  · rw [uintL_small h]; simp [h]
  · rw [uintL_big h]
    have := uintL_pos (n / 128)
    simp only [List.length_cons]
    omega
theorem uintL_mono : ∀ (a b : Nat), a ≤ b → (uintL a).length ≤ (uintL b).length := by
  intro a
  induction a using Nat.strongRecOn with
  | ind a ih =>
    intro b hab
    by_cases h : a < 128
    · rw [uintL_small h]; exact uintL_pos b
    · rw [uintL_big h, uintL_big (n := b) (by omega)]
      have := ih (a / 128) (by omega) (b / 128) (Nat.div_le_div_right hab)
      simp only [List.length_cons]
      omega
theorem uintL_len {n : Nat} (h : n < 2 ^ 64) : (uintL n).length ≤ 10 := by
  have e : (uintL (2 ^ 64 - 1)).length = 10 := by
    simp only [show (2 : Nat) ^ 64 - 1 = 18446744073709551615 by decide]
    rw [uintL_big (by decide), uintL_big (by decide), uintL_big (by decide), uintL_big (by decide), uintL_big (by decide), uintL_big (by decide), uintL_big (by decide), uintL_big (by decide), uintL_big (by decide), uintL_small (by decide)]
    rfl
  have := uintL_mono n (2 ^ 64 - 1) (by omega)
  omega
theorem uintL_inj {a b : Nat} (ha : a < 2 ^ 64) (hb : b < 2 ^ 64) (h : uintL a = uintL b) : a = b := by
  have h1 := getL_put a [] ha
  have h2 := getL_put b [] hb
  rw [h, h2] at h1
  simpa using h1.symm
theorem uintL_bytes : ∀ (n : Nat), ∀ x ∈ uintL n, 0 ≤ x ∧ x ≤ 255 := by
  intro n
  induction n using Nat.strongRecOn with
  | ind n ih =>
    by_cases h : n < 128
    · rw [uintL_small h]; intro x hx; simp at hx; omega
    · rw [uintL_big h]
      intro x hx
      rcases List.mem_cons.1 hx with rfl | hx
      · omega
      · exact ih (n / 128) (by omega) x hx
/-- One number behind another one: read one by one. -/
theorem uintL_cut {a b : Nat} {m m' : List Int} (ha : a < 2 ^ 64) (hb : b < 2 ^ 64) (h : uintL a ++ m = uintL b ++ m') : a = b ∧ m = m' := by
  have h1 := getL_put a m ha
  have h2 := getL_put b m' hb
  rw [h, h2] at h1
  simp only [Prod.mk.injEq] at h1
  obtain ⟨rfl, _⟩ := h1
  exact ⟨rfl, List.append_cancel_left h⟩

/-! Runs of alike things. -/
section
variable {C : Type} [DecidableEq C]
def runsOf : List C → List (Nat × C)
  | [] => []
  | c :: l => match runsOf l with
    | [] => [(1, c)]
    | (n, d) :: rs => if c = d then (n + 1, d) :: rs else (1, c) :: (n, d) :: rs
def unrun (rs : List (Nat × C)) : List C := rs.flatMap fun x => List.replicate x.1 x.2
/-- Each has one at least, neighbours are unlike. -/
def Alt : List (Nat × C) → Prop
  | [] => True
  | [x] => 1 ≤ x.1
  | x :: y :: rs => 1 ≤ x.1 ∧ x.2 ≠ y.2 ∧ Alt (y :: rs)
theorem runsOf_alt (l : List C) : Alt (runsOf l) := by
  induction l with
  | nil => trivial
  | cons c l ih =>
    unfold runsOf
    cases h : runsOf l with
    | nil => simp [Alt]
    | cons x rs =>
      obtain ⟨n, d⟩ := x
      rw [h] at ih
      simp only
      by_cases e : c = d
      · rw [if_pos e]
        cases rs with
        | nil => simp [Alt]
        | cons y rs => exact ⟨by simp, ih.2.1, ih.2.2⟩
      · rw [if_neg e]
        exact ⟨by simp, e, ih⟩
theorem unrun_runs (l : List C) : unrun (runsOf l) = l := by
  induction l with
  | nil => rfl
  | cons c l ih =>
    unfold runsOf
    cases h : runsOf l with
    | nil =>
      rw [h] at ih
      have : l = [] := by rw [← ih]; rfl
      subst this
      rfl
    | cons x rs =>
      obtain ⟨n, d⟩ := x
      rw [h] at ih
      simp only
      by_cases e : c = d
      · rw [if_pos e]
        subst e
        rw [← ih]
        simp [unrun, List.replicate_succ]
      · rw [if_neg e]
        rw [← ih]
        simp [unrun]
theorem runs_cons_same (c : C) (n : Nat) (l : List C) (rs : List (Nat × C)) (h : runsOf l = (n, c) :: rs) : runsOf (c :: l) = (n + 1, c) :: rs := by
  conv => lhs; unfold runsOf
  rw [h]
  simp
theorem runs_replicate (c : C) (n : Nat) (l : List C) (rs : List (Nat × C)) (h : runsOf l = rs) (hne : ∀ x ys, rs = x :: ys → c ≠ x.2) : runsOf (List.replicate (n + 1) c ++ l) = (n + 1, c) :: rs := by
  induction n with
  | zero =>
    simp only [Nat.zero_add, List.replicate_one, List.cons_append, List.nil_append]
    conv => lhs; unfold runsOf
    rw [h]
    cases rs with
    | nil => rfl
    | cons x ys =>
      obtain ⟨m, d⟩ := x
      simp only
      rw [if_neg (hne _ _ rfl)]
  | succ n ih =>
    rw [List.replicate_succ, List.cons_append]
    exact runs_cons_same c (n + 1) _ rs ih
theorem runs_unrun : ∀ (rs : List (Nat × C)), Alt rs → runsOf (unrun rs) = rs
  | [], _ => rfl
  | [x], h => by
    obtain ⟨n, c⟩ := x
    obtain ⟨m, rfl⟩ : ∃ m, n = m + 1 := ⟨n - 1, by have : 1 ≤ n := h; omega⟩
    have := runs_replicate c m [] [] rfl (fun x ys e => by cases e)
    simpa [unrun] using this
  | x :: y :: rs, h => by
    obtain ⟨n, c⟩ := x
    obtain ⟨h1, h2, h3⟩ := h
    obtain ⟨m, rfl⟩ : ∃ m, n = m + 1 := ⟨n - 1, by have : 1 ≤ n := h1; omega⟩
    have ih := runs_unrun (y :: rs) h3
    have := runs_replicate c m (unrun (y :: rs)) (y :: rs) ih (fun x ys e => by injection e with e1 e2; rw [← e1]; exact h2)
    have e : unrun ((m + 1, c) :: y :: rs) = List.replicate (m + 1) c ++ unrun (y :: rs) := by simp [unrun]
    rw [e]
    exact this
end
end Go.Proofs.YtibihjcpkdfgeaaGreatDoor
namespace Go.Proofs.YtibihjcpkdfgeaaGreatDoor

abbrev Cel := Int × Int × Int
/-- A cell whose numbers are not too great for a row. -/
def Small (c : Cel) : Prop := (0 ≤ c.1 ∧ c.1 ≤ 1114111) ∧ (0 ≤ c.2.1 ∧ c.2.1 ≤ 2) ∧ (0 ≤ c.2.2 ∧ c.2.2 ≤ 255)
def runBytes (x : Nat × Cel) : List Int := uintL x.1 ++ (uintL x.2.1.toNat ++ (uintL x.2.2.1.toNat ++ uintL x.2.2.2.toNat))
def headOf (wrap : Bool) (n : Nat) : Nat := 2 * n + if wrap then 1 else 0
def putL (wrap : Bool) (l : List Cel) : List Int := uintL (headOf wrap (runsOf l).length) ++ (runsOf l).flatMap runBytes

/-- The next number, so great at the most; what is left. -/
def numL (most : Nat) (b : List Int) : Option (Nat × List Int) := if (getL b).2 = 0 ∨ most < (getL b).1 then none else some ((getL b).1, b.drop (getL b).2)
/-- The next run, of so many at the most. -/
def runL (room : Nat) (b : List Int) : Option ((Nat × Cel) × List Int) :=
  (numL room b).bind fun x => if x.1 = 0 then none else (numL 1114111 x.2).bind fun r => (numL 2 r.2).bind fun w => (numL 255 w.2).bind fun a => some ((x.1, ((r.1 : Int), (w.1 : Int), (a.1 : Int))), a.2)
/-- So many runs behind what there is. -/
def runsL : Nat → List Cel → List Int → Option (List Cel × List Int)
  | 0, l, b => some (l, b)
  | k + 1, l, b => (runL (300 - l.length) b).bind fun x => if l.getLast? = some x.1.2 then none else runsL k (l ++ List.replicate x.1.1 x.1.2) x.2
/-- The row at the beginning: whether it wraps, its cells, how many bytes. -/
def getR (may : List Cel → Bool) (b : List Int) : Option (Bool × List Cel × Nat) :=
  (numL 601 b).bind fun h => (runsL (h.1 / 2) [] h.2).bind fun x => if may x.1 then some (h.1 % 2 == 1, x.1, b.length - x.2.length) else none

theorem numL_put {n most : Nat} (m : List Int) (h : n ≤ most) (hm : most < 2 ^ 64) : numL most (uintL n ++ m) = some (n, m) := by
  have e := getL_put n m (by omega)
  have hp := uintL_pos n
  unfold numL
  rw [e]
  simp only
  rw [if_neg (by omega)]
  simp
theorem runL_put {room n : Nat} {c : Cel} (m : List Int) (hc : Small c) (h1 : 1 ≤ n) (hn : n ≤ room) (hr : room ≤ 300) : runL room (runBytes (n, c) ++ m) = some ((n, c), m) := by
  obtain ⟨r, w, a⟩ := c
  obtain ⟨⟨r0, r1⟩, ⟨w0, w1⟩, a0, a1⟩ := hc
  simp only at r0 r1 w0 w1 a0 a1
  obtain ⟨r, rfl⟩ := Int.eq_ofNat_of_zero_le r0
  obtain ⟨w, rfl⟩ := Int.eq_ofNat_of_zero_le w0
  obtain ⟨a, rfl⟩ := Int.eq_ofNat_of_zero_le a0
  unfold runL runBytes
  simp only [List.append_assoc, Int.toNat_natCast]
  rw [numL_put _ hn (by omega)]
  simp only [Option.bind_some]
  rw [if_neg (by omega), numL_put _ (by omega) (by omega)]
  simp only [Option.bind_some]
  rw [numL_put _ (by omega) (by omega)]
  simp only [Option.bind_some]
  rw [numL_put _ (by omega) (by omega)]
  rfl
theorem alt_tail {x : Nat × Cel} {rs : List (Nat × Cel)} (h : Alt (x :: rs)) : 1 ≤ x.1 ∧ Alt rs ∧ ∀ y ys, rs = y :: ys → x.2 ≠ y.2 := by
  cases rs with
  | nil => exact ⟨h, trivial, fun y ys e => by cases e⟩
  | cons y ys => exact ⟨h.1, h.2.2, fun z zs e => by injection e with e1 e2; rw [← e1]; exact h.2.1⟩
theorem unrun_cons (x : Nat × Cel) (rs : List (Nat × Cel)) : unrun (x :: rs) = List.replicate x.1 x.2 ++ unrun rs := by simp [unrun]
theorem getLast_replicate {l : List Cel} {n : Nat} {c : Cel} (h : 1 ≤ n) : (l ++ List.replicate n c).getLast? = some c := by
  obtain ⟨m, rfl⟩ : ∃ m, n = m + 1 := ⟨n - 1, by omega⟩
  rw [List.replicate_succ', ← List.append_assoc]
  simp
theorem runsL_put : ∀ (rs : List (Nat × Cel)) (l : List Cel) (m : List Int), Alt rs → (∀ x ∈ rs, Small x.2) → l.length + (unrun rs).length ≤ 300 → (∀ x xs, rs = x :: xs → l.getLast? ≠ some x.2) →
    runsL rs.length l (rs.flatMap runBytes ++ m) = some (l ++ unrun rs, m)
  | [], l, m, _, _, _, _ => by simp [runsL, unrun]
  | x :: rs, l, m, ha, hs, hl, hlast => by
    obtain ⟨h1, h2, h3⟩ := alt_tail ha
    rw [unrun_cons, List.length_append, List.length_replicate] at hl
    simp only [List.length_cons, runsL, List.flatMap_cons, List.append_assoc]
    rw [show runBytes x = runBytes (x.1, x.2) from rfl, runL_put _ (hs x (by simp)) h1 (by omega) (by omega)]
    simp only [Option.bind_some]
    rw [if_neg (hlast x rs rfl), runsL_put rs (l ++ List.replicate x.1 x.2) m h2 (fun y hy => hs y (by simp [hy])) (by rw [List.length_append, List.length_replicate]; omega) (fun y ys e => by
      rw [getLast_replicate h1]
      intro k
      exact h3 y ys e (by injection k))]
    rw [unrun_cons, List.append_assoc]
theorem mem_unrun {rs : List (Nat × Cel)} (h : Alt rs) {x : Nat × Cel} (hx : x ∈ rs) : x.2 ∈ unrun rs := by
  induction rs with
  | nil => cases hx
  | cons y rs ih =>
    obtain ⟨h1, h2, _⟩ := alt_tail h
    rw [unrun_cons, List.mem_append]
    rcases List.mem_cons.1 hx with rfl | hx
    · left; rw [List.mem_replicate]; exact ⟨by omega, rfl⟩
    · right; exact ih h2 hx
theorem runs_length (l : List Cel) : (runsOf l).length ≤ l.length := by
  have key : ∀ rs : List (Nat × Cel), Alt rs → rs.length ≤ (unrun rs).length := by
    intro rs
    induction rs with
    | nil => intro _; simp [unrun]
    | cons x rs ih =>
      intro h
      obtain ⟨h1, h2, _⟩ := alt_tail h
      have := ih h2
      rw [unrun_cons, List.length_append, List.length_replicate, List.length_cons]
      omega
  have := key _ (runsOf_alt l)
  rw [unrun_runs] at this
  exact this
theorem head_two (wrap : Bool) (n : Nat) : headOf wrap n / 2 = n ∧ (headOf wrap n % 2 == 1) = wrap := by
  unfold headOf
  cases wrap
  · simp
  · simp; omega
/-- What a row has become is read back, whatever stands behind it. -/
theorem getR_put {may : List Cel → Bool} {wrap : Bool} {l : List Cel} (m : List Int) (hm : may l = true) (hs : ∀ c ∈ l, Small c) (hl : l.length ≤ 300) : getR may (putL wrap l ++ m) = some (wrap, l, (putL wrap l).length) := by
  have hrl := runs_length l
  have ha := runsOf_alt l
  have hu := unrun_runs l
  have hh : headOf wrap (runsOf l).length ≤ 601 := by unfold headOf; split <;> omega
  unfold getR putL
  rw [List.append_assoc, numL_put _ hh (by omega)]
  simp only [Option.bind_some]
  rw [(head_two wrap _).1, (head_two wrap _).2, runsL_put (runsOf l) [] m ha (fun x hx => hs _ (by rw [← hu]; exact mem_unrun ha hx)) (by rw [hu]; simpa using hl) (fun x xs _ => by simp)]
  simp only [Option.bind_some, List.nil_append, hu]
  rw [if_pos hm]
  simp only [Option.some.injEq, Prod.mk.injEq, true_and, List.length_append]
  omega

theorem numL_some {most : Nat} {b m : List Int} {n : Nat} (hb : ∀ x ∈ b, 0 ≤ x ∧ x ≤ 255) (h : numL most b = some (n, m)) : n ≤ most ∧ b = uintL n ++ m := by
  unfold numL at h
  by_cases hc : (getL b).2 = 0 ∨ most < (getL b).1
  · rw [if_pos hc] at h; cases h
  · rw [if_neg hc] at h
    simp only [Option.some.injEq, Prod.mk.injEq] at h
    obtain ⟨rfl, rfl⟩ := h
    obtain ⟨_, _, _, h4⟩ := getL_some hb (show getL b = ((getL b).1, (getL b).2) from rfl) (by omega)
    refine ⟨by omega, ?_⟩
    rw [← h4, List.take_append_drop]
theorem bytes_tail {a m : List Int} (h : ∀ x ∈ a ++ m, 0 ≤ x ∧ x ≤ 255) : ∀ x ∈ m, 0 ≤ x ∧ x ≤ 255 := fun x hx => h x (by simp [hx])
theorem runL_some {room : Nat} {b m : List Int} {x : Nat × Cel} (hb : ∀ y ∈ b, 0 ≤ y ∧ y ≤ 255) (h : runL room b = some (x, m)) : 1 ≤ x.1 ∧ x.1 ≤ room ∧ Small x.2 ∧ b = runBytes x ++ m := by
  unfold runL at h
  rw [Option.bind_eq_some_iff] at h
  obtain ⟨⟨n, b1⟩, h1, h⟩ := h
  obtain ⟨n1, rfl⟩ := numL_some hb h1
  simp only at h
  by_cases h0 : n = 0
  · rw [if_pos h0] at h; cases h
  · rw [if_neg h0, Option.bind_eq_some_iff] at h
    obtain ⟨⟨r, b2⟩, h2, h⟩ := h
    obtain ⟨r1, rfl⟩ := numL_some (bytes_tail hb) h2
    simp only at h
    rw [Option.bind_eq_some_iff] at h
    obtain ⟨⟨w, b3⟩, h3, h⟩ := h
    obtain ⟨w1, rfl⟩ := numL_some (bytes_tail (bytes_tail hb)) h3
    simp only at h
    rw [Option.bind_eq_some_iff] at h
    obtain ⟨⟨a, b4⟩, h4, h⟩ := h
    obtain ⟨a1, rfl⟩ := numL_some (bytes_tail (bytes_tail (bytes_tail hb))) h4
    simp only [Option.some.injEq, Prod.mk.injEq] at h
    obtain ⟨rfl, rfl⟩ := h
    refine ⟨by simp only; omega, n1, ⟨⟨by simp only; omega, by simp only; omega⟩, ⟨by simp only; omega, by simp only; omega⟩, by simp only; omega, by simp only; omega⟩, ?_⟩
    simp [runBytes]
theorem runsL_some : ∀ (k : Nat) (l : List Cel) (b : List Int) (l' : List Cel) (m : List Int), (∀ y ∈ b, 0 ≤ y ∧ y ≤ 255) → runsL k l b = some (l', m) →
    ∃ rs : List (Nat × Cel), rs.length = k ∧ Alt rs ∧ (∀ x ∈ rs, Small x.2) ∧ (∀ x xs, rs = x :: xs → l.getLast? ≠ some x.2) ∧ l' = l ++ unrun rs ∧ b = rs.flatMap runBytes ++ m
  | 0, l, b, l', m, _, h => by
    simp only [runsL, Option.some.injEq, Prod.mk.injEq] at h
    obtain ⟨rfl, rfl⟩ := h
    exact ⟨[], rfl, trivial, by simp, (fun x xs e => by cases e), by simp [unrun], by simp⟩
  | k + 1, l, b, l', m, hb, h => by
    simp only [runsL] at h
    rw [Option.bind_eq_some_iff] at h
    obtain ⟨⟨x, b1⟩, h1, h⟩ := h
    obtain ⟨x1, x2, x3, rfl⟩ := runL_some hb h1
    simp only at h
    by_cases hlast : l.getLast? = some x.2
    · rw [if_pos hlast] at h; cases h
    · rw [if_neg hlast] at h
      obtain ⟨rs, r1, r2, r3, r4, r5, r6⟩ := runsL_some k _ _ l' m (bytes_tail hb) h
      refine ⟨x :: rs, by simp [r1], ?_, ?_, ?_, ?_, ?_⟩
      · cases rs with
        | nil => exact x1
        | cons y ys =>
          refine ⟨x1, fun e => ?_, r2⟩
          have := r4 y ys rfl
          rw [getLast_replicate x1, e] at this
          exact this rfl
      · intro y hy
        rcases List.mem_cons.1 hy with rfl | hy
        · exact x3
        · exact r3 y hy
      · intro y ys e
        injection e with e1 e2
        rw [← e1]
        exact hlast
      · rw [r5, unrun_cons, List.append_assoc]
      · rw [r6]; simp
/-- What is read is a row that has become just these bytes. -/
theorem getR_some {may : List Cel → Bool} {b : List Int} {wrap : Bool} {l : List Cel} {n : Nat} (hb : ∀ y ∈ b, 0 ≤ y ∧ y ≤ 255) (h : getR may b = some (wrap, l, n)) : may l = true ∧ n ≤ b.length ∧ n = (putL wrap l).length ∧ b.take n = putL wrap l := by
  unfold getR at h
  rw [Option.bind_eq_some_iff] at h
  obtain ⟨⟨hd, b1⟩, h1, h⟩ := h
  obtain ⟨hd1, rfl⟩ := numL_some hb h1
  simp only at h
  rw [Option.bind_eq_some_iff] at h
  obtain ⟨⟨l', m⟩, h2, h⟩ := h
  obtain ⟨rs, r1, r2, r3, r4, r5, r6⟩ := runsL_some _ _ _ _ _ (bytes_tail hb) h2
  simp only at h
  split at h
  · rename_i hm
    simp only [Option.some.injEq, Prod.mk.injEq] at h
    obtain ⟨e1, rfl, e2⟩ := h
    have hl : l' = unrun rs := by rw [r5]; simp
    have hr : runsOf l' = rs := by rw [hl]; exact runs_unrun rs r2
    have hh : headOf wrap rs.length = hd := by
      unfold headOf
      rw [r1, ← e1]
      have := Nat.mod_two_eq_zero_or_one hd
      rcases this with e | e <;> simp [e] <;> omega
    have hp : putL wrap l' = uintL hd ++ rs.flatMap runBytes := by unfold putL; rw [hr, hh]
    have hn : n = (putL wrap l').length := by
      rw [← e2, hp, r6]
      simp only [List.length_append]
      omega
    refine ⟨hm, by rw [← e2]; omega, hn, ?_⟩
    rw [hn, hp, r6, ← List.append_assoc, List.take_left]
  · cases h
/-- Rows one behind the other are cut at one place alone. -/
theorem putL_inj {wrap wrap' : Bool} {l l' : List Cel} (hs : ∀ c ∈ l, Small c) (hl : l.length ≤ 300) (hs' : ∀ c ∈ l', Small c) (hl' : l'.length ≤ 300) (h : putL wrap l = putL wrap' l') : wrap = wrap' ∧ l = l' := by
  have e1 := getR_put (may := fun _ => true) (wrap := wrap) [] rfl hs hl
  have e2 := getR_put (may := fun _ => true) (wrap := wrap') [] rfl hs' hl'
  rw [h, e2] at e1
  simp only [Option.some.injEq, Prod.mk.injEq] at e1
  exact ⟨e1.1.symm, e1.2.1.symm⟩

/-! Which rows may be. -/
def mayB (c : Cel) : Bool := decide (0 ≤ c.2.2) && decide (c.2.2 ≤ 255) && (c == (0, 1, 0) || (c.2.1 == 0 && c.1 == 0) || (decide (0 < c.2.1) && c.2.1 == wof c.1))
def mayGo : Cel → List Cel → Bool
  | p, [] => !(p.2.1 == 2)
  | p, c :: l => mayB c && ((p.2.1 == 2) == (c.2.1 == 0)) && (!(c.2.1 == 0) || c.2.2 == p.2.2) && mayGo c l
def mayL (l : List Cel) : Bool := decide (l.length ≤ 300) && mayGo (32, 1, 0) l
theorem wof_small {r : Int} (h1 : r ≤ 2147483647) (h : 0 < wof r) : 0 ≤ r ∧ r ≤ 1114111 := by
  have h0 : ¬ r ≤ 31 := fun e => by unfold wof at h; rw [if_pos e] at h; omega
  refine ⟨by omega, ?_⟩
  by_cases hr : 1114111 < r
  · have e : wof r = 0 := wof_hit r 20 (by omega) (by show (1114112 : Int) ≤ r; omega) (by show r ≤ (2147483647 : Int); omega)
    omega
  · omega
theorem mayB_small {c : Cel} (hr : c.1 ≤ 2147483647) (h : mayB c = true) : Small c := by
  obtain ⟨r, w, a⟩ := c
  simp only [mayB, Bool.and_eq_true, Bool.or_eq_true, decide_eq_true_eq, beq_iff_eq, Prod.mk.injEq] at h hr
  obtain ⟨⟨a0, a1⟩, h⟩ := h
  have hw := wof_range r
  rcases h with (⟨rfl, rfl, rfl⟩ | ⟨rfl, rfl⟩) | ⟨hp, e⟩
  · exact ⟨⟨by simp, by simp⟩, ⟨by simp, by simp⟩, by simp, by simp⟩
  · exact ⟨⟨by simp, by simp⟩, ⟨by simp, by simp⟩, a0, a1⟩
  · have := wof_small hr (show 0 < wof r by omega)
    exact ⟨this, ⟨by simp only; omega, by simp only; omega⟩, a0, a1⟩
theorem mayGo_each : ∀ (l : List Cel) (p : Cel), mayGo p l = true → ∀ c ∈ l, mayB c = true
  | [], _, _, c, hc => by cases hc
  | d :: l, p, h, c, hc => by
    simp only [mayGo, Bool.and_eq_true] at h
    rcases List.mem_cons.1 hc with rfl | hc
    · exact h.1.1.1
    · exact mayGo_each l d h.2 c hc
theorem mayL_small {l : List Cel} (hr : ∀ c ∈ l, c.1 ≤ 2147483647) (h : mayL l = true) : l.length ≤ 300 ∧ ∀ c ∈ l, Small c := by
  simp only [mayL, Bool.and_eq_true, decide_eq_true_eq] at h
  exact ⟨h.1, fun c hc => mayB_small (hr c hc) (mayGo_each l _ h.2 c hc)⟩
end Go.Proofs.YtibihjcpkdfgeaaGreatDoor
namespace Go.Proofs.YtibihjcpkdfgeaaGreatDoor

section
variable {C : Type}
theorem alt_snoc : ∀ (rs : List (Nat × C)) (x : Nat × C), Alt rs → 1 ≤ x.1 → (∀ y, rs.getLast? = some y → y.2 ≠ x.2) → Alt (rs ++ [x])
  | [], _, _, h, _ => h
  | [y], _, h0, h, hn => ⟨h0, hn y rfl, h⟩
  | _ :: z :: rs, x, h0, h, hn => ⟨h0.1, h0.2.1, alt_snoc (z :: rs) x h0.2.2 h (fun u hu => hn u (by simpa using hu))⟩
theorem alt_bump : ∀ (rs : List (Nat × C)) (n : Nat) (c : C), Alt (rs ++ [(n, c)]) → Alt (rs ++ [(n + 1, c)])
  | [], _, _, _ => by simp [Alt]
  | [_], n, c, h => ⟨h.1, h.2.1, by simp [Alt]⟩
  | _ :: z :: rs, n, c, h => ⟨h.1, h.2.1, alt_bump (z :: rs) n c h.2.2⟩
theorem alt_last : ∀ (rs : List (Nat × C)) (x : Nat × C), Alt (rs ++ [x]) → 1 ≤ x.1
  | [], _, h => h
  | [_], _, h => h.2.2
  | _ :: z :: rs, x, h => alt_last (z :: rs) x h.2.2
theorem unrun_snoc (rs : List (Nat × C)) (x : Nat × C) : unrun (rs ++ [x]) = unrun rs ++ List.replicate x.1 x.2 := by simp [unrun]
theorem unrun_last {rs : List (Nat × C)} {x : Nat × C} (h : Alt (rs ++ [x])) : (unrun (rs ++ [x])).getLast? = some x.2 := by
  have h1 := alt_last rs x h
  obtain ⟨m, hm⟩ : ∃ m, x.1 = m + 1 := ⟨x.1 - 1, by omega⟩
  rw [unrun_snoc, hm, List.replicate_succ', ← List.append_assoc]
  simp
variable [DecidableEq C]
/-- One more like the last: its run is longer by one. -/
theorem runs_same {l : List C} {c : C} (h : l.getLast? = some c) : ∃ rs n, runsOf l = rs ++ [(n, c)] ∧ runsOf (l ++ [c]) = rs ++ [(n + 1, c)] := by
  have ha := runsOf_alt l
  have hu := unrun_runs l
  rcases List.eq_nil_or_concat (runsOf l) with e | ⟨rs, x, e⟩
  · rw [e] at hu
    have : l = [] := by rw [← hu]; rfl
    subst this
    simp at h
  · rw [List.concat_eq_append] at e
    rw [e] at ha hu
    have hx := unrun_last ha
    rw [hu, h] at hx
    obtain ⟨n, d⟩ := x
    simp only [Option.some.injEq] at hx
    subst hx
    refine ⟨rs, n, e, ?_⟩
    have h2 := runs_unrun _ (alt_bump rs n c ha)
    have h3 : unrun (rs ++ [(n + 1, c)]) = l ++ [c] := by
      rw [← hu, unrun_snoc, unrun_snoc, List.append_assoc]
      simp only
      rw [List.replicate_succ']
    rw [h3] at h2
    exact h2
/-- One more that is not like the last: a run of its own. -/
theorem runs_other {l : List C} {c : C} (h : l.getLast? ≠ some c) : runsOf (l ++ [c]) = runsOf l ++ [(1, c)] := by
  have ha := runsOf_alt l
  have hu := unrun_runs l
  have h1 : Alt (runsOf l ++ [(1, c)]) := by
    refine alt_snoc _ _ ha (Nat.le_refl _) (fun y hy e => ?_)
    rcases List.eq_nil_or_concat (runsOf l) with e' | ⟨rs, x, e'⟩
    · rw [e'] at hy; cases hy
    · rw [List.concat_eq_append] at e'
      rw [e'] at hy ha hu
      have hx := unrun_last ha
      rw [hu] at hx
      simp at hy
      subst hy
      exact h (by rw [hx, e])
  have h2 := runs_unrun _ h1
  have h3 : unrun (runsOf l ++ [(1, c)]) = l ++ [c] := by rw [unrun_snoc, hu]; rfl
  rw [h3] at h2
  exact h2
theorem runs_pos {l : List C} {x : Nat × C} (h : x ∈ runsOf l) : 1 ≤ x.1 := by
  have key : ∀ rs : List (Nat × C), Alt rs → ∀ x ∈ rs, 1 ≤ x.1 := by
    intro rs
    induction rs with
    | nil => intro _ x hx; cases hx
    | cons y rs ih =>
      intro ha x hx
      rcases List.mem_cons.1 hx with rfl | hx
      · cases rs with
        | nil => exact ha
        | cons z zs => exact ha.1
      · cases rs with
        | nil => cases hx
        | cons z zs => exact ih ha.2.2 x hx
  exact key _ (runsOf_alt l) x h
end
end Go.Proofs.YtibihjcpkdfgeaaGreatDoor
namespace Go.Proofs.YtibihjcpkdfgeaaGreatDoor
open Go.ChangeShapes Go.WideShapes Go.ChangeAt Go.RowKit

set_option maxRecDepth 100000 in
set_option maxHeartbeats 400000 in
theorem of_walk (r : Int) (hr0 : -2147483648 ≤ r) (hr1 : r ≤ 2147483647) (w : World) (hs : Spans w) :
    Calls Tryz.prog 109 #[.int .i32 r] w fun e w' => e = .returned (.int .i64 (wof r)) ∧ w = w' := by
  have hf := hs.first
  have hl := hs.last
  have hw := hs.wide
  clear hs
  go_enter Tryz.func109, Tryz.ntmps109
  go_wp2
  go_loop [3, 4] (fun lo hi => ∃ l h : Nat, l ≤ h ∧ h ≤ 21 ∧ lo = .int .i64 l ∧ hi = .int .i64 h ∧ (∀ i, i < l → sLast i < r) ∧ (∀ i, h ≤ i → i < 21 → r < sFirst i)) (fun lo hi => (intOf hi - intOf lo).toNat)
  case atStart => exact ⟨0, 21, by omega, by omega, rfl, rfl, fun i hi => by omega, fun i h1 h2 => by omega⟩
  case round =>
    obtain ⟨l, h, hlh, h21, rfl, rfl, hlo, hhi⟩ := hrel
    by_cases hlt : l < h
    · have f1 := hf ((l + h) / 2) (by omega)
      have l1 := hl ((l + h) / 2) (by omega)
      have w1 := hw ((l + h) / 2) (by omega)
      have hit := wof_hit r ((l + h) / 2) (by omega)
      have LO := Lib.hid hlo
      have HI := Lib.hid hhi
      have HIT := Lib.hid hit
      clear hlo hhi hf hl hw hit
      by_cases c1 : r < sFirst ((l + h) / 2)
      · go_wp2
        go_round
        case rel => exact ⟨l, (l + h) / 2, by omega, by omega, rfl, by go_num, LO.out, fun i h1 h2 => (Nat.lt_or_eq_of_le h1).elim (fun h3 => Int.lt_of_lt_of_le c1 (sFirst_mono i h2 _ h3)) (fun h3 => h3 ▸ c1)⟩
        case measure => simp [intOf]; omega
      · by_cases c2 : sLast ((l + h) / 2) < r
        · go_wp2
          go_round
          case rel => exact ⟨(l + h) / 2 + 1, h, by omega, by omega, by go_num, rfl, fun i h1 => (Nat.lt_or_eq_of_le (Nat.le_of_lt_succ h1)).elim (fun h3 => Int.lt_of_le_of_lt (sLast_mono _ (by omega) i h3) c2) (fun h3 => h3 ▸ c2), HI.out⟩
          case measure => simp [intOf]; omega
        · go_wp2
          go_ret
          exact ⟨ret_int (HIT.out (by omega) (by omega)).symm, rfl⟩
    · have M := Lib.hid (wof_miss r hr0 hr1 (fun i hi => by
        by_cases c : i < l
        · exact Or.inl (hlo i c)
        · exact Or.inr (hhi i (by omega) hi)))
      clear hlo hhi hf hl hw
      go_wp2
      go_ret
      exact ⟨ret_int M.out.symm, rfl⟩

/-- The sum of the widths of a list of signs. -/
def wsum (l : List Int) : Int := (l.map wof).sum
theorem wsum_append (a b : List Int) : wsum (a ++ b) = wsum a + wsum b := by simp [wsum]
theorem wsum_range (l : List Int) : 0 ≤ wsum l ∧ wsum l ≤ 2 * l.length := by
  induction l with
  | nil => simp [wsum]
  | cons x l ih =>
    have h := wof_range x
    have e : wsum (x :: l) = wof x + wsum l := by simp [wsum]
    rw [e, List.length_cons]
    omega
theorem wsum_take (l : List Int) (k : Nat) : 0 ≤ wsum (l.take k) ∧ wsum (l.take k) ≤ 2 * (k : Int) := by
  have h := wsum_range (l.take k)
  have hl : (l.take k).length ≤ k := List.length_take_le _ _
  omega
theorem wsum_next (l : List Int) {k : Nat} (h : k < l.length) : wsum (l.take (k + 1)) = wsum (l.take k) + wof (nth l k) := by
  rw [take_next h, wsum_append]; simp [wsum]

end Go.Proofs.YtibihjcpkdfgeaaGreatDoor
namespace Go.Proofs.YtibihjcpkdfgeaaGreatDoor
open Go.ChangeShapes Go.WideShapes Go.ChangeAt Go.RowKit

/-- A cell as a value. -/
abbrev cellV (r w a : Int) : Value := .agg #[.int .i32 r, .int .i64 w, .int .i64 a]

set_option maxRecDepth 100000 in
theorem blank_walk (w : World) : Calls Tryz.prog 102 #[] w fun e w' => e = .returned (cellV 32 1 0) ∧ Below w.heap.size w w' := by
  go_enter Tryz.func102, Tryz.ntmps102
  go_wp2
  exact bodyPost_ret (v := cellV 32 1 0) (by simp [results, Tryz.results102, go_sem]) rfl ⟨rfl, (Below.refl _ _).alloc (Nat.le_refl _) _⟩
set_option maxRecDepth 100000 in
theorem pad_walk (w : World) : Calls Tryz.prog 139 #[] w fun e w' => e = .returned (cellV 0 1 0) ∧ Below w.heap.size w w' := by
  go_enter Tryz.func139, Tryz.ntmps139
  go_wp2
  exact bodyPost_ret (v := cellV 0 1 0) (by simp [results, Tryz.results139, go_sem]) rfl ⟨rfl, (Below.refl _ _).alloc (Nat.le_refl _) _⟩

/-- Is it just the cell of this sign, one wide, without an attribute? -/
def isB (c r n a : Int) : Bool := r == c && n == 1 && a == 0

set_option maxRecDepth 100000 in
set_option maxHeartbeats 1600000 in
theorem isBlank_walk (r n a : Int) (w : World) : Calls Tryz.prog 108 #[cellV r n a] w fun e w' => e = .returned (.bool (isB 32 r n a)) ∧ Below w.heap.size w w' := by
  cases h1 : (r == 32) <;> cases h2 : (n == 1) <;> cases h3 : (a == 0)
  all_goals
    obtain ⟨B, hB⟩ : ∃ B, isB 32 r n a = B := ⟨_, rfl⟩
    rw [hB]
    unfold isB at hB
    rw [h1, h2, h3] at hB
    obtain rfl := hB
    go_enter Tryz.func108, Tryz.ntmps108
    go_wp2
    go_region_with ((go_at_call 102; refine (blank_walk _).mono ?_; rintro e w' ⟨rfl, hb⟩; have k0 : w'.cell? ⟨w.heap.size, 0, none⟩ = some (.int .i32 r) := (hb.cell (p := ⟨w.heap.size, 0, none⟩) (by simp)).trans (by simp); have k1 : w'.cell? ⟨w.heap.size, 1, none⟩ = some (.int .i64 n) := (hb.cell (p := ⟨w.heap.size, 1, none⟩) (by simp)).trans (by simp); have k2 : w'.cell? ⟨w.heap.size, 2, none⟩ = some (.int .i64 a) := (hb.cell (p := ⟨w.heap.size, 2, none⟩) (by simp)).trans (by simp)))
    all_goals go_wp2
    all_goals go_ret
    all_goals
      have hb' := hb.mono (B' := w.heap.size) (by simp)
      first
        | exact ⟨rfl, (((Below.refl _ _).alloc (Nat.le_refl _) _).drew).trans hb'⟩
        | exact ⟨rfl, ((((Below.refl _ _).alloc (Nat.le_refl _) _).drew).trans hb').drew⟩
        | exact ⟨rfl, ((Below.refl _ _).alloc (Nat.le_refl _) _).trans hb'⟩
set_option maxRecDepth 100000 in
set_option maxHeartbeats 1600000 in
theorem isPad_walk (r n a : Int) (w : World) : Calls Tryz.prog 104 #[cellV r n a] w fun e w' => e = .returned (.bool (isB 0 r n a)) ∧ Below w.heap.size w w' := by
  cases h1 : (r == 0) <;> cases h2 : (n == 1) <;> cases h3 : (a == 0)
  all_goals
    obtain ⟨B, hB⟩ : ∃ B, isB 0 r n a = B := ⟨_, rfl⟩
    rw [hB]
    unfold isB at hB
    rw [h1, h2, h3] at hB
    obtain rfl := hB
    go_enter Tryz.func104, Tryz.ntmps104
    go_wp2
    go_region_with ((go_at_call 139; refine (pad_walk _).mono ?_; rintro e w' ⟨rfl, hb⟩; have k0 : w'.cell? ⟨w.heap.size, 0, none⟩ = some (.int .i32 r) := (hb.cell (p := ⟨w.heap.size, 0, none⟩) (by simp)).trans (by simp); have k1 : w'.cell? ⟨w.heap.size, 1, none⟩ = some (.int .i64 n) := (hb.cell (p := ⟨w.heap.size, 1, none⟩) (by simp)).trans (by simp); have k2 : w'.cell? ⟨w.heap.size, 2, none⟩ = some (.int .i64 a) := (hb.cell (p := ⟨w.heap.size, 2, none⟩) (by simp)).trans (by simp)))
    all_goals go_wp2
    all_goals go_ret
    all_goals
      have hb' := hb.mono (B' := w.heap.size) (by simp)
      first
        | exact ⟨rfl, (((Below.refl _ _).alloc (Nat.le_refl _) _).drew).trans hb'⟩
        | exact ⟨rfl, ((((Below.refl _ _).alloc (Nat.le_refl _) _).drew).trans hb').drew⟩
        | exact ⟨rfl, ((Below.refl _ _).alloc (Nat.le_refl _) _).trans hb'⟩
end Go.Proofs.YtibihjcpkdfgeaaGreatDoor
namespace Go.Proofs.YtibihjcpkdfgeaaGreatDoor

/-- What a Reader holds. -/
structure St where
  sign : Int
  waits : Int
  missing : Int
  low : Int
  high : Int
def st0 : St := ⟨0, 0, 0, 0, 0⟩
def brk (st : St) : List Int := if st.waits = 0 then [] else [65533]
/-- How many bytes follow the first one, and where the second one lies. -/
def fol (b : Int) : Int × Int × Int :=
  if b < 194 then (0, 0, 0) else if b < 224 then (1, 128, 191) else if b = 224 then (2, 160, 191) else if b = 237 then (2, 128, 159)
  else if b < 240 then (2, 128, 191) else if b = 240 then (3, 144, 191) else if b < 244 then (3, 128, 191) else if b = 244 then (3, 128, 143) else (0, 0, 0)
/-- The bits of a first byte that are the sign's. -/
def lead (b m : Int) : Int := if m = 1 then b % 32 else if m = 2 then b % 16 else b % 8
def begS (b : Int) : St := if b < 128 then st0 else if (fol b).1 = 0 then st0 else ⟨lead b (fol b).1, 1, (fol b).1, (fol b).2.1, (fol b).2.2⟩
def begO (b : Int) : List Int := if b < 128 then [b] else if (fol b).1 = 0 then [65533] else []
def onS (st : St) (b : Int) : St := if st.missing = 1 then st0 else ⟨st.sign * 64 + b % 64, st.waits + 1, st.missing - 1, 128, 191⟩
def onO (st : St) (b : Int) : List Int := if st.missing = 1 then [st.sign * 64 + b % 64] else []
def goes (st : St) (b : Int) : Prop := 0 < st.waits ∧ st.low ≤ b ∧ b ≤ st.high
instance (st : St) (b : Int) : Decidable (goes st b) := by unfold goes; exact inferInstance
def stS (st : St) (b : Int) : St := if goes st b then onS st b else begS b
def stO (st : St) (b : Int) : List Int := if goes st b then onO st b else brk st ++ begO b

/-- A state that can be. -/
structure St.ok (st : St) : Prop where
  zero : st.waits = 0 → st = st0
  waits : 0 ≤ st.waits ∧ st.waits ≤ 3
  missing : 0 ≤ st.missing ∧ st.missing ≤ 3
  pos : 0 < st.waits → 0 < st.missing
  sum : st.waits + st.missing ≤ 4
  sign : 0 ≤ st.sign ∧ (st.waits = 1 → st.sign < 32) ∧ (st.waits = 2 → st.sign < 2048) ∧ (st.waits = 3 → st.sign < 131072)
  low : 0 ≤ st.low ∧ st.low ≤ 255
  high : 0 ≤ st.high ∧ st.high ≤ 191

theorem fol_cases (b : Int) : ((b < 194 ∨ 244 < b) ∧ fol b = (0, 0, 0)) ∨ (194 ≤ b ∧ b < 224 ∧ fol b = (1, 128, 191)) ∨ (b = 224 ∧ fol b = (2, 160, 191)) ∨ (b = 237 ∧ fol b = (2, 128, 159)) ∨ (224 < b ∧ b < 240 ∧ b ≠ 237 ∧ fol b = (2, 128, 191)) ∨ (b = 240 ∧ fol b = (3, 144, 191)) ∨ (240 < b ∧ b < 244 ∧ fol b = (3, 128, 191)) ∨ (b = 244 ∧ fol b = (3, 128, 143)) := by
  unfold fol
  by_cases h1 : b < 194
  · left; exact ⟨.inl h1, by simp [h1]⟩
  · by_cases h2 : b < 224
    · right; left; exact ⟨by omega, h2, by simp [h1, h2]⟩
    · by_cases h3 : b = 224
      · right; right; left; exact ⟨h3, by simp [h3]⟩
      · by_cases h4 : b = 237
        · right; right; right; left; exact ⟨h4, by simp [h4]⟩
        · by_cases h5 : b < 240
          · right; right; right; right; left; exact ⟨by omega, h5, h4, by simp [h1, h2, h3, h4, h5]⟩
          · by_cases h6 : b = 240
            · right; right; right; right; right; left; exact ⟨h6, by simp [h6]⟩
            · by_cases h7 : b < 244
              · right; right; right; right; right; right; left; exact ⟨by omega, h7, by simp [h1, h2, h3, h4, h5, h6, h7]⟩
              · by_cases h8 : b = 244
                · right; right; right; right; right; right; right; exact ⟨h8, by simp [h8]⟩
                · left; exact ⟨.inr (by omega), by simp [h1, h2, h3, h4, h5, h6, h7, h8]⟩

theorem st0_ok : st0.ok := by constructor <;> simp [st0]
theorem begS_ok (b : Int) (_h0 : 0 ≤ b) : (begS b).ok := by
  unfold begS
  split
  · exact st0_ok
  · split
    · exact st0_ok
    · rename_i h1 h2
      rcases fol_cases b with ⟨_, e⟩ | ⟨_, _, e⟩ | ⟨_, e⟩ | ⟨_, e⟩ | ⟨_, _, _, e⟩ | ⟨_, e⟩ | ⟨_, _, e⟩ | ⟨_, e⟩ <;> rw [e] at h2 ⊢
      · exact absurd rfl h2
      all_goals constructor <;> simp [lead] <;> omega
theorem onS_ok (st : St) (b : Int) (h : st.ok) (hp : 0 < st.waits) (_h0 : 0 ≤ b) : (onS st b).ok := by
  have a1 := h.waits; have a2 := h.missing; have a3 := h.pos hp; have a4 := h.sum; have a5 := h.sign
  unfold onS
  split
  · exact st0_ok
  · constructor <;> simp <;> omega
theorem stS_ok (st : St) (b : Int) (h : st.ok) (h0 : 0 ≤ b) : (stS st b).ok := by
  unfold stS
  split
  · rename_i g; exact onS_ok st b h g.1 h0
  · exact begS_ok b h0

/-- A text read on from a state: what it becomes, and the state behind it. -/
def runS (st : St) : List Int → St
  | [] => st
  | b :: l => runS (stS st b) l
def runO (st : St) : List Int → List Int
  | [] => []
  | b :: l => stO st b ++ runO (stS st b) l
theorem runS_append (l m : List Int) : ∀ st, runS st (l ++ m) = runS (runS st l) m := by
  induction l with
  | nil => intro st; rfl
  | cons b l ih => intro st; exact ih _
theorem runO_append (l m : List Int) : ∀ st, runO st (l ++ m) = runO st l ++ runO (runS st l) m := by
  induction l with
  | nil => intro st; rfl
  | cons b l ih => intro st; simp only [List.cons_append, runO, runS, ih, List.append_assoc]
theorem runS_ok (l : List Int) : ∀ st : St, st.ok → (∀ b ∈ l, 0 ≤ b) → (runS st l).ok := by
  induction l with
  | nil => intro st h _; exact h
  | cons b l ih => intro st h hb; exact ih _ (stS_ok st b h (hb b (by simp))) fun x hx => hb x (by simp [hx])
theorem stO_length (st : St) (b : Int) : (stO st b).length ≤ 2 := by
  have h1 : (onO st b).length ≤ 1 := by unfold onO; split <;> simp
  have h2 : (brk st).length ≤ 1 := by unfold brk; split <;> simp
  have h3 : (begO b).length ≤ 1 := by unfold begO; split; · simp
                                      split <;> simp
  unfold stO
  split
  · omega
  · rw [List.length_append]; omega
theorem runO_length (l : List Int) : ∀ st, (runO st l).length ≤ 2 * l.length := by
  induction l with
  | nil => intro st; simp [runO]
  | cons b l ih =>
    intro st
    have h1 := stO_length st b
    have h2 := ih (stS st b)
    simp only [runO, List.length_append, List.length_cons]
    omega
theorem brk_length (st : St) : (brk st).length ≤ 1 := by unfold brk; split <;> simp
/-- All signs of a text. -/
def allO (l : List Int) : List Int := runO st0 l ++ brk (runS st0 l)
end Go.Proofs.YtibihjcpkdfgeaaGreatDoor
namespace Go.Proofs.YtibihjcpkdfgeaaGreatDoor
open Go.ChangeShapes Go.WideShapes Go.ChangeAt Go.RowKit

/-- All blocks stand but for two. -/
structure Kept (b r : Option Nat) (w w' : World) : Prop where
  os : w'.os = w.os
  tape : w'.tape = w.tape
  output : w'.output = w.output
  size : w.heap.size ≤ w'.heap.size
  block : ∀ k, k < w.heap.size → some k ≠ b → some k ≠ r → w'.heap[k]? = w.heap[k]?
theorem Kept.refl (b r : Option Nat) (w : World) : Kept b r w w := ⟨rfl, rfl, rfl, Nat.le_refl _, fun _ _ _ _ => rfl⟩

/-- The Reader in block b holds st. -/
structure Rd (w : World) (b : Nat) (st : St) : Prop where
  row : w.heap[b]? = some (.cells #[.int .i32 st.sign, .int .i64 st.waits, .int .i64 st.missing, .int .u8 st.low, .int .u8 st.high] 195 (0, 0))
  ok : st.ok
theorem Rd.cell {w : World} {b : Nat} {st : St} (h : Rd w b st) (i : Nat) : w.cell? ⟨b, i, none⟩ = #[Value.int .i32 st.sign, .int .i64 st.waits, .int .i64 st.missing, .int .u8 st.low, .int .u8 st.high][i]? := cell_of_row w b i _ _ (0, 0) h.row
theorem Rd.free {w : World} {b : Nat} {st : St} (h : Rd w b st) (i : Nat) : w.frozen? ⟨b, i, none⟩ = false := by simp [World.frozen?, h.row]
theorem Rd.lt {w : World} {b : Nat} {st : St} (h : Rd w b st) : b < w.heap.size := (Array.getElem?_eq_some_iff.1 h.row).1

theorem info21 : (Tryz.prog.info? 21).map (fun i => (i.zero, i.size, i.bytes)) = some (some (.int .i32 0), 1, 4) := by kernel_rfl

theorem grownBy_set (w : World) (p : Addr) (u : Value) : w.grownBy (w.setCell p u) (some p.block) :=
  ⟨rfl, rfl, rfl, by simp [World.setCell], fun k _ hne => Below.heap_setCell w p u k (fun e => hne (by rw [e]))⟩
theorem grownBy_two {a b c : World} {row : Option Nat} (h : a.grownBy b row) (k : b.grownBy c row) : a.grownBy c row :=
  ⟨k.os.trans h.os, k.tape.trans h.tape, k.output.trans h.output, Nat.le_trans h.size k.size, fun i hi hne => (k.block i (Nat.lt_of_lt_of_le hi h.size) hne).trans (h.block i hi hne)⟩

/-- The five cells of a Reader written anew. -/
abbrev put5 (w : World) (b : Nat) (st : St) : World :=
  ((((w.setCell ⟨b, 0, none⟩ (.int .i32 st.sign)).setCell ⟨b, 1, none⟩ (.int .i64 st.waits)).setCell ⟨b, 2, none⟩ (.int .i64 st.missing)).setCell ⟨b, 3, none⟩ (.int .u8 st.low)).setCell ⟨b, 4, none⟩ (.int .u8 st.high)
theorem put5_grown (w : World) (b : Nat) (st : St) : w.grownBy (put5 w b st) (some b) :=
  grownBy_two (grownBy_two (grownBy_two (grownBy_two (grownBy_set w ⟨b, 0, none⟩ _) (grownBy_set _ ⟨b, 1, none⟩ _)) (grownBy_set _ ⟨b, 2, none⟩ _)) (grownBy_set _ ⟨b, 3, none⟩ _)) (grownBy_set _ ⟨b, 4, none⟩ _)
theorem put5_rd {w : World} {b : Nat} {st st' : St} (h : Rd w b st) (hok : st'.ok) : Rd (put5 w b st') b st' := by
  have h0 := heap_setCell_same w b 0 _ _ (.int .i32 st'.sign) h.row
  have h1 := heap_setCell_same _ b 1 _ _ (.int .i64 st'.waits) h0
  have h2 := heap_setCell_same _ b 2 _ _ (.int .i64 st'.missing) h1
  have h3 := heap_setCell_same _ b 3 _ _ (.int .u8 st'.low) h2
  have h4 := heap_setCell_same _ b 4 _ _ (.int .u8 st'.high) h3
  exact ⟨h4, hok⟩
theorem put5_size (w : World) (b : Nat) (st : St) : (put5 w b st).heap.size = w.heap.size := by simp [put5, World.setCell]

/-- A list of signs in a row of the call's own. -/
def Has (w : World) (base : Nat) (v : Value) (xs : List Int) : Prop := w.ownsRow base 21 1 v xs.length (xs.map (Value.int .i32))
theorem Has.nothing (w : World) (base : Nat) : Has w base (.slice none 0 0) [] := World.ownsRow_nil w base _ _

theorem Has.shape {w : World} {base : Nat} {v : Value} {xs : List Int} (h : Has w base v xs) : ∃ A c, v = .slice A xs.length c := by
  rcases h.2 with ⟨rfl, h0⟩ | ⟨g, cap, cur, rfl, _⟩
  · rw [h0]; exact ⟨_, _, rfl⟩
  · exact ⟨_, _, rfl⟩

/-- What a step of a Reader answers: the signs behind those that were handed in; what the Reader holds; all else stands. -/
def Told (base b : Nat) (v : Value) (xs : List Int) (st' : St) (w : World) (e : Ending) (w' : World) : Prop :=
  ∃ v', e = .returned v' ∧ Has w' base v' xs ∧ Rd w' b st' ∧ Kept (some b) v.ownBlock w w' ∧ (v'.ownBlock = v.ownBlock ∨ ∃ k, v'.ownBlock = some k ∧ w.heap.size ≤ k)

/-- How a step ends that writes the Reader and appends one sign. -/
theorem told_put {base b : Nat} {v v' : Value} {xs : List Int} {x : Int} {st st' : St} {w w' : World} (h : Rd w b st) (hok : st'.ok)
    (hown : w'.ownsRow base 21 1 v' (xs.length + 1) (xs.map (Value.int .i32) ++ [.int .i32 x])) (hvb : v.ownBlock ≠ some b)
    (hg : ((put5 w b st').alloc (.cells #[.int .i32 x] 21)).grownBy w' v.ownBlock) (hat : v'.ownBlock = v.ownBlock ∨ v'.ownBlock = some ((put5 w b st').alloc (.cells #[.int .i32 x] 21)).heap.size) :
    Told base b v (xs ++ [x]) st' w (.returned v') w' := by
  have hr := put5_rd h hok
  have hp := put5_grown w b st'
  have hs := put5_size w b st'
  have hlt := h.lt
  have ha := Below.heap_alloc (put5 w b st') (.cells #[.int .i32 x] 21) b (by omega)
  refine ⟨v', rfl, by simpa [Has] using hown, ⟨?_, hok⟩, ⟨hg.os.trans hp.os, hg.tape.trans hp.tape, hg.output.trans hp.output, Nat.le_trans (by simp [hs]) hg.size, fun k hk h1 h2 => ?_⟩, ?_⟩
  · rw [hg.block b (by simp [hs]; omega) (fun e => hvb e.symm), ha]; exact hr.row
  · rw [hg.block k (by simp [hs]; omega) h2, Below.heap_alloc _ _ _ (by omega), hp.block k hk h1]
  · rcases hat with e | e
    · exact .inl e
    · exact .inr ⟨_, e, by simp⟩
/-- How a step ends that appends one sign and writes no Reader. -/
theorem told_app {base b : Nat} {v v' : Value} {xs : List Int} {x : Int} {st : St} {w w' : World} (h : Rd w b st)
    (hown : w'.ownsRow base 21 1 v' (xs.length + 1) (xs.map (Value.int .i32) ++ [.int .i32 x])) (hvb : v.ownBlock ≠ some b)
    (hg : (w.alloc (.cells #[.int .i32 x] 21)).grownBy w' v.ownBlock) (hat : v'.ownBlock = v.ownBlock ∨ v'.ownBlock = some (w.alloc (.cells #[.int .i32 x] 21)).heap.size) :
    Told base b v (xs ++ [x]) st w (.returned v') w' := by
  have hlt := h.lt
  refine ⟨v', rfl, by simpa [Has] using hown, ⟨?_, h.ok⟩, ⟨hg.os, hg.tape, hg.output, Nat.le_trans (by simp) hg.size, fun k hk _ h2 => ?_⟩, ?_⟩
  · rw [hg.block b (by simp; omega) (fun e => hvb e.symm), Below.heap_alloc _ _ _ hlt]; exact h.row
  · rw [hg.block k (by simp; omega) h2, Below.heap_alloc _ _ _ hk]
  · rcases hat with e | e
    · exact .inl e
    · exact .inr ⟨_, e, by simp⟩
/-- How a step ends that only writes the Reader. -/
theorem told_set {base b : Nat} {v : Value} {xs : List Int} {st st' : St} {w : World} (h : Rd w b st) (hok : st'.ok) (hv : Has w base v xs) (hvb : v.ownBlock ≠ some b) :
    Told base b v xs st' w (.returned v) (put5 w b st') :=
  ⟨v, rfl, World.ownsRow.kept hv (put5_grown w b st') (.inr hvb), put5_rd h hok, ⟨(put5_grown w b st').os, (put5_grown w b st').tape, (put5_grown w b st').output, (put5_grown w b st').size, fun k hk h1 _ => (put5_grown w b st').block k hk h1⟩, .inl rfl⟩
theorem told_same {base b : Nat} {v : Value} {xs : List Int} {st : St} {w : World} (h : Rd w b st) (hv : Has w base v xs) : Told base b v xs st w (.returned v) w :=
  ⟨v, rfl, hv, h, Kept.refl _ _ _, .inl rfl⟩
theorem own_put {base b : Nat} {v : Value} {xs : List Int} {w : World} (st' : St) (h : Has w base v xs) (hvb : v.ownBlock ≠ some b) : (put5 w b st').ownsRow base 21 1 v xs.length (xs.map (Value.int .i32)) :=
  World.ownsRow.kept h (put5_grown w b st') (.inr hvb)

theorem cell_new_at {w : World} {n : Nat} (h : w.heap.size = n) (x : Value) (t : TypeId) : ∀ j u, [x][j]? = some u → (w.alloc (.cells #[x] t)).cell? ((⟨n, 0, none⟩ : Addr).add j) = some u := by
  subst h; exact cell_one_new w x t
theorem fits1 {n : Nat} (h : n ≤ 1099511627776) : n + 1 ≤ maxLen := by unfold maxLen; omega
theorem fits4 {n : Nat} (h : n ≤ 1099511627776) : (n + 1) * 4 ≤ 140737488355328 := by omega
theorem one_rune (x : Int) : ∀ u ∈ [Value.int .i32 x], u.oneCell' = true := by intro u hu; simp at hu; subst hu; rfl
theorem put5_base {w : World} {base : Nat} (h : base ≤ w.heap.size) (b : Nat) (st : St) (o : Obj) : base ≤ ((put5 w b st).alloc o).heap.size := by simp; omega

set_option maxRecDepth 100000 in
set_option maxHeartbeats 400000 in
theorem breakOff_no (b : Nat) (v : Value) (w : World) (st : St) (h : Rd w b st) (h0 : st.waits = 0) :
    Calls Tryz.prog 174 #[.pointer (some ⟨b, 0, none⟩), v] w fun e w' => e = .returned v ∧ w = w' := by
  have c1 : w.cell? ⟨b, 1, none⟩ = some (.int .i64 0) := by rw [h.cell 1, ← h0]; rfl
  clear h h0
  go_enter Tryz.func174, Tryz.ntmps174
  go_wp2
  go_ret
  exact ⟨rfl, rfl⟩
set_option maxRecDepth 100000 in
set_option maxHeartbeats 400000 in
theorem breakOff_yes (b base : Nat) (v : Value) (xs : List Int) (w : World) (st : St) (h : Rd w b st) (h0 : 0 < st.waits) (hv : Has w base v xs) (hvb : v.ownBlock ≠ some b) (hn : xs.length ≤ 1099511627776) (hbase : base ≤ w.heap.size) :
    Calls Tryz.prog 174 #[.pointer (some ⟨b, 0, none⟩), v] w fun e w' => Told base b v (xs ++ [65533]) st0 w e w' := by
  obtain ⟨i0, hi, hz0, hz1, hz2⟩ := info_parts info21
  obtain ⟨A, c, rfl⟩ := hv.shape
  have c0 : w.cell? ⟨b, 0, none⟩ = some (.int .i32 st.sign) := h.cell 0
  have c1 : w.cell? ⟨b, 1, none⟩ = some (.int .i64 st.waits) := h.cell 1
  have c2 : w.cell? ⟨b, 2, none⟩ = some (.int .i64 st.missing) := h.cell 2
  have c3 : w.cell? ⟨b, 3, none⟩ = some (.int .u8 st.low) := h.cell 3
  have c4 : w.cell? ⟨b, 4, none⟩ = some (.int .u8 st.high) := h.cell 4
  have f0 := h.free 0
  have f1 := h.free 1
  have f2 := h.free 2
  have f3 := h.free 3
  have f4 := h.free 4
  have hb := h.lt
  have HO : (((((w.setCell ⟨b, 0, none⟩ (.int .i32 0)).setCell ⟨b, 1, none⟩ (.int .i64 0)).setCell ⟨b, 2, none⟩ (.int .i64 0)).setCell ⟨b, 3, none⟩ (.int .u8 0)).setCell ⟨b, 4, none⟩ (.int .u8 0)).ownsRow base 21 1 (.slice A xs.length c) xs.length (xs.map (Value.int .i32)) := own_put st0 hv hvb
  have HV := Lib.hid hvb
  clear hvb hv
  go_enter Tryz.func174, Tryz.ntmps174
  go_wp2_with (at_builtin; go_loud (refine wpList_append_own_at _ rfl _ _ 22 rfl base 21 i0 (.int .i32 0) 1 4 Tryz.underlying22 hi hz0 hz1 hz2 rfl (by decide) (.slice A xs.length c) xs.length _ rfl (HO.alloc _) ⟨w.heap.size, 0, none⟩ 1 1 [.int .i32 65533] rfl rfl (cell_new_at (put5_size w b st0) _ _) (one_rune _) (fits1 hn) (fits4 hn) (put5_base hbase b st0 _) ?_); intro v' w1 hown' hgrow _ hat)
  go_wp2
  go_ret
  exact told_put h st0_ok hown' HV.out hgrow hat

/-- breakOff, whatever waits. -/
theorem breakOff_any (b base : Nat) (v : Value) (xs : List Int) (w : World) (st : St) (h : Rd w b st) (hv : Has w base v xs) (hvb : v.ownBlock ≠ some b) (hn : xs.length ≤ 1099511627776) (hbase : base ≤ w.heap.size) :
    Calls Tryz.prog 174 #[.pointer (some ⟨b, 0, none⟩), v] w fun e w' => Told base b v (xs ++ brk st) st0 w e w' := by
  by_cases h0 : st.waits = 0
  · have e : st = st0 := h.ok.zero h0
    subst e
    refine (breakOff_no b v w st0 h rfl).mono ?_
    rintro e w' ⟨rfl, rfl⟩
    simpa [brk, st0] using told_same h hv
  · have := h.ok.waits
    have e : brk st = [65533] := by simp [brk, h0]
    rw [e]
    exact breakOff_yes b base v xs w st h (by omega) hv hvb hn hbase

set_option maxRecDepth 100000 in
set_option maxHeartbeats 800000 in
theorem follow_walk (b : Int) (h0 : 0 ≤ b) (h1 : b ≤ 255) (w : World) :
    Calls Tryz.prog 183 #[.int .u8 b] w fun e w' => e = .returned (.tuple #[.int .i64 (fol b).1, .int .u8 (fol b).2.1, .int .u8 (fol b).2.2]) ∧ w = w' := by
  rcases fol_cases b with ⟨h | h, e⟩ | ⟨h, h', e⟩ | ⟨h, e⟩ | ⟨h, e⟩ | ⟨h, h', h'', e⟩ | ⟨h, e⟩ | ⟨h, h', e⟩ | ⟨h, e⟩ <;> rw [e] <;> clear e <;> try subst h
  all_goals
    go_enter Tryz.func183, Tryz.ntmps183
    go_wp2
    go_ret3
    exact ⟨rfl, rfl⟩

theorem and31 {x : Int} (h0 : 0 ≤ x) (h1 : x ≤ 255) : bits .and .i32 x 31 = x % 32 := bits_mask .i32 31 (by decide) wraps_i32 5 (by decide) x h0 (by omega)
theorem and15 {x : Int} (h0 : 0 ≤ x) (h1 : x ≤ 255) : bits .and .i32 x 15 = x % 16 := bits_mask .i32 31 (by decide) wraps_i32 4 (by decide) x h0 (by omega)
theorem and7 {x : Int} (h0 : 0 ≤ x) (h1 : x ≤ 255) : bits .and .i32 x 7 = x % 8 := bits_mask .i32 31 (by decide) wraps_i32 3 (by decide) x h0 (by omega)

set_option maxRecDepth 100000 in
set_option maxHeartbeats 800000 in
theorem begin_more (b base : Nat) (v : Value) (xs : List Int) (x m lo hi : Int) (hx0 : 0 ≤ x) (hx1 : x ≤ 255) (h128 : 128 ≤ x) (w : World) (st : St) (h : Rd w b st) (hv : Has w base v xs) (hvb : v.ownBlock ≠ some b) (hf : fol x = (m, lo, hi)) (hm : m = 1 ∨ m = 2 ∨ m = 3) :
    Calls Tryz.prog 180 #[.pointer (some ⟨b, 0, none⟩), v, .int .u8 x] w fun e w' => Told base b v xs (begS x) w e w' := by
  have FW := follow_walk x hx0 hx1 w
  rw [hf] at FW
  have hok := begS_ok x hx0
  have T := told_set (st' := begS x) h hok hv hvb
  have c0 : w.cell? ⟨b, 0, none⟩ = some (.int .i32 st.sign) := h.cell 0
  have c1 : w.cell? ⟨b, 1, none⟩ = some (.int .i64 st.waits) := h.cell 1
  have c2 : w.cell? ⟨b, 2, none⟩ = some (.int .i64 st.missing) := h.cell 2
  have c3 : w.cell? ⟨b, 3, none⟩ = some (.int .u8 st.low) := h.cell 3
  have c4 : w.cell? ⟨b, 4, none⟩ = some (.int .u8 st.high) := h.cell 4
  have f0 := h.free 0
  have f1 := h.free 1
  have f2 := h.free 2
  have f3 := h.free 3
  have f4 := h.free 4
  have FWH := Lib.hid FW
  have e1 := and31 hx0 hx1
  have e2 := and15 hx0 hx1
  have e3 := and7 hx0 hx1
  have hb : begS x = ⟨lead x m, 1, m, lo, hi⟩ := by
    have h1 : ¬ x < 128 := by omega
    have h2 : ¬ m = 0 := by omega
    simp [begS, h1, hf, h2]
  clear h hv hvb hok FW hf
  rcases hm with rfl | rfl | rfl
  all_goals
    rw [hb] at T ⊢
    have TH := Lib.hid T
    clear T hb
    go_enter Tryz.func180, Tryz.ntmps180
    go_wp2_with (go_at_call 183; refine FWH.out.mono ?_; rintro e w' ⟨rfl, rfl⟩)
    go_ret
    exact TH.out
end Go.Proofs.YtibihjcpkdfgeaaGreatDoor
namespace Go.Proofs.YtibihjcpkdfgeaaGreatDoor
open Go.ChangeShapes Go.WideShapes Go.ChangeAt Go.RowKit

set_option maxRecDepth 100000 in
set_option maxHeartbeats 400000 in
theorem begin_ascii (b base : Nat) (v : Value) (xs : List Int) (x : Int) (hx0 : 0 ≤ x) (hx1 : x ≤ 255) (h128 : x < 128) (w : World) (st : St) (h : Rd w b st) (hv : Has w base v xs) (hvb : v.ownBlock ≠ some b) (hn : xs.length ≤ 1099511627776) (hbase : base ≤ w.heap.size) :
    Calls Tryz.prog 180 #[.pointer (some ⟨b, 0, none⟩), v, .int .u8 x] w fun e w' => Told base b v (xs ++ [x]) st w e w' := by
  obtain ⟨i0, hi, hz0, hz1, hz2⟩ := info_parts info21
  obtain ⟨A, c, rfl⟩ := hv.shape
  have HO : w.ownsRow base 21 1 (.slice A xs.length c) xs.length (xs.map (Value.int .i32)) := hv
  have HV := Lib.hid hvb
  clear hvb hv
  go_enter Tryz.func180, Tryz.ntmps180
  go_wp2_with (at_builtin; refine wpList_append_own_at _ rfl _ _ 22 rfl base 21 i0 (.int .i32 0) 1 4 Tryz.underlying22 hi hz0 hz1 hz2 rfl (by decide) (.slice A xs.length c) xs.length _ rfl (HO.alloc _) ⟨w.heap.size, 0, none⟩ 1 1 [.int .i32 x] rfl rfl (cell_new_at rfl _ _) (one_rune _) (fits1 hn) (fits4 hn) (by simp; omega) ?_; intro v' w1 hown' hgrow _ hat)
  go_wp2
  go_ret
  exact told_app h hown' HV.out hgrow hat

set_option maxRecDepth 100000 in
set_option maxHeartbeats 400000 in
theorem begin_bad (b base : Nat) (v : Value) (xs : List Int) (x : Int) (hx0 : 0 ≤ x) (hx1 : x ≤ 255) (h128 : 128 ≤ x) (w : World) (st : St) (h : Rd w b st) (hv : Has w base v xs) (hvb : v.ownBlock ≠ some b) (hn : xs.length ≤ 1099511627776) (hbase : base ≤ w.heap.size) (hf : fol x = (0, 0, 0)) :
    Calls Tryz.prog 180 #[.pointer (some ⟨b, 0, none⟩), v, .int .u8 x] w fun e w' => Told base b v (xs ++ [65533]) st w e w' := by
  have FW := follow_walk x hx0 hx1 w
  rw [hf] at FW
  have FWH := Lib.hid FW
  obtain ⟨i0, hi, hz0, hz1, hz2⟩ := info_parts info21
  obtain ⟨A, c, rfl⟩ := hv.shape
  have HO : w.ownsRow base 21 1 (.slice A xs.length c) xs.length (xs.map (Value.int .i32)) := hv
  have HV := Lib.hid hvb
  clear hvb hv FW hf
  go_enter Tryz.func180, Tryz.ntmps180
  go_wp2_with (first
    | (go_at_call 183; refine FWH.out.mono ?_; rintro e w' ⟨rfl, rfl⟩)
    | (at_builtin; refine wpList_append_own_at _ rfl _ _ 22 rfl base 21 i0 (.int .i32 0) 1 4 Tryz.underlying22 hi hz0 hz1 hz2 rfl (by decide) (.slice A xs.length c) xs.length _ rfl (HO.alloc _) ⟨w.heap.size, 0, none⟩ 1 1 [.int .i32 65533] rfl rfl (cell_new_at rfl _ _) (one_rune _) (fits1 hn) (fits4 hn) (by simp; omega) ?_; intro v' w1 hown' hgrow _ hat))
  go_wp2
  go_ret
  exact told_app h hown' HV.out hgrow hat

/-- begin, whatever the byte, while nothing waits. -/
theorem begin_any (b base : Nat) (v : Value) (xs : List Int) (x : Int) (hx0 : 0 ≤ x) (hx1 : x ≤ 255) (w : World) (h : Rd w b st0) (hv : Has w base v xs) (hvb : v.ownBlock ≠ some b) (hn : xs.length ≤ 1099511627776) (hbase : base ≤ w.heap.size) :
    Calls Tryz.prog 180 #[.pointer (some ⟨b, 0, none⟩), v, .int .u8 x] w fun e w' => Told base b v (xs ++ begO x) (begS x) w e w' := by
  by_cases h128 : x < 128
  · have e1 : begO x = [x] := by simp [begO, h128]
    have e2 : begS x = st0 := by simp [begS, h128]
    rw [e1, e2]
    exact begin_ascii b base v xs x hx0 hx1 h128 w st0 h hv hvb hn hbase
  · rcases fol_cases x with ⟨_, e⟩ | ⟨_, _, e⟩ | ⟨_, e⟩ | ⟨_, e⟩ | ⟨_, _, _, e⟩ | ⟨_, e⟩ | ⟨_, _, e⟩ | ⟨_, e⟩
    · have e1 : begO x = [65533] := by simp [begO, h128, e]
      have e2 : begS x = st0 := by simp [begS, h128, e]
      rw [e1, e2]
      exact begin_bad b base v xs x hx0 hx1 (by omega) w st0 h hv hvb hn hbase e
    all_goals
      have e1 : begO x = [] := by simp [begO, h128, e]
      rw [e1, List.append_nil]
      exact begin_more b base v xs x _ _ _ hx0 hx1 (by omega) w st0 h hv hvb e (by simp)
end Go.Proofs.YtibihjcpkdfgeaaGreatDoor
namespace Go.Proofs.YtibihjcpkdfgeaaGreatDoor
open Go.ChangeShapes Go.WideShapes Go.ChangeAt Go.RowKit

set_option maxRecDepth 100000 in
set_option maxHeartbeats 400000 in
theorem goOn_last (b base : Nat) (v : Value) (xs : List Int) (x : Int) (hx0 : 0 ≤ x) (hx1 : x ≤ 255) (w : World) (st : St) (h : Rd w b st) (hv : Has w base v xs) (hvb : v.ownBlock ≠ some b) (hn : xs.length ≤ 1099511627776) (hbase : base ≤ w.heap.size) (hm : st.missing = 1) (hs0 : 0 ≤ st.sign) (hs1 : st.sign < 131072) :
    Calls Tryz.prog 179 #[.pointer (some ⟨b, 0, none⟩), v, .int .u8 x] w fun e w' => Told base b v (xs ++ [st.sign * 64 + x % 64]) st0 w e w' := by
  obtain ⟨i0, hi, hz0, hz1, hz2⟩ := info_parts info21
  obtain ⟨A, c, rfl⟩ := hv.shape
  have c0 : w.cell? ⟨b, 0, none⟩ = some (.int .i32 st.sign) := h.cell 0
  have c1 : w.cell? ⟨b, 1, none⟩ = some (.int .i64 st.waits) := h.cell 1
  have c2 : w.cell? ⟨b, 2, none⟩ = some (.int .i64 1) := by rw [← hm]; exact h.cell 2
  have c3 : w.cell? ⟨b, 3, none⟩ = some (.int .u8 st.low) := h.cell 3
  have c4 : w.cell? ⟨b, 4, none⟩ = some (.int .u8 st.high) := h.cell 4
  have f0 := h.free 0
  have f1 := h.free 1
  have f2 := h.free 2
  have f3 := h.free 3
  have f4 := h.free 4
  have e1 := u8_and63 x hx0 (show x < 256 by omega)
  have e2 : bits .or .i32 (st.sign * 64) (x % 64) = st.sign * 64 + x % 64 := i32_or6 _ _ (by omega) (by omega) (by omega) (by omega) (by omega)
  have HO : (((((w.setCell ⟨b, 0, none⟩ (.int .i32 0)).setCell ⟨b, 1, none⟩ (.int .i64 0)).setCell ⟨b, 2, none⟩ (.int .i64 0)).setCell ⟨b, 3, none⟩ (.int .u8 0)).setCell ⟨b, 4, none⟩ (.int .u8 0)).ownsRow base 21 1 (.slice A xs.length c) xs.length (xs.map (Value.int .i32)) := own_put st0 hv hvb
  have HV := Lib.hid hvb
  clear hvb hv hm
  go_enter Tryz.func179, Tryz.ntmps179
  go_wp2_with (at_builtin; refine wpList_append_own_at _ rfl _ _ 22 rfl base 21 i0 (.int .i32 0) 1 4 Tryz.underlying22 hi hz0 hz1 hz2 rfl (by decide) (.slice A xs.length c) xs.length _ rfl (HO.alloc _) ⟨w.heap.size, 0, none⟩ 1 1 [.int .i32 (st.sign * 64 + x % 64)] rfl rfl (cell_new_at (put5_size w b st0) _ _) (one_rune _) (fits1 hn) (fits4 hn) (put5_base hbase b st0 _) ?_; intro v' w1 hown' hgrow _ hat)
  go_wp2
  go_ret
  exact told_put h st0_ok hown' HV.out hgrow hat

theorem told_drew {base b : Nat} {v : Value} {xs : List Int} {st' : St} {w : World} {e : Ending} {w' : World} (h : Told base b v xs st' w e w') : Told base b v xs st' w e w'.drew := by
  obtain ⟨v', e1, a1, a2, a3, a4⟩ := h
  exact ⟨v', e1, a1, ⟨a2.row, a2.ok⟩, ⟨a3.os, a3.tape, a3.output, a3.size, a3.block⟩, a4⟩

set_option maxRecDepth 100000 in
set_option maxHeartbeats 400000 in
theorem goOn_more (b base : Nat) (v : Value) (xs : List Int) (x : Int) (hx0 : 0 ≤ x) (hx1 : x ≤ 255) (w : World) (st : St) (h : Rd w b st) (hv : Has w base v xs) (hvb : v.ownBlock ≠ some b) (hm : 2 ≤ st.missing) (hm3 : st.missing ≤ 3) (hp : 0 < st.waits) (hw3 : st.waits ≤ 3) (hs0 : 0 ≤ st.sign) (hs1 : st.sign < 131072) :
    Calls Tryz.prog 179 #[.pointer (some ⟨b, 0, none⟩), v, .int .u8 x] w fun e w' => Told base b v xs (onS st x) w e w' := by
  have hok := onS_ok st x h.ok hp hx0
  have T := told_set (st' := onS st x) h hok hv hvb
  have c0 : w.cell? ⟨b, 0, none⟩ = some (.int .i32 st.sign) := h.cell 0
  have c1 : w.cell? ⟨b, 1, none⟩ = some (.int .i64 st.waits) := h.cell 1
  have c2 : w.cell? ⟨b, 2, none⟩ = some (.int .i64 st.missing) := h.cell 2
  have c3 : w.cell? ⟨b, 3, none⟩ = some (.int .u8 st.low) := h.cell 3
  have c4 : w.cell? ⟨b, 4, none⟩ = some (.int .u8 st.high) := h.cell 4
  have f0 := h.free 0
  have f1 := h.free 1
  have f2 := h.free 2
  have f3 := h.free 3
  have f4 := h.free 4
  have e1 := u8_and63 x hx0 (show x < 256 by omega)
  have e2 : bits .or .i32 (st.sign * 64) (x % 64) = st.sign * 64 + x % 64 := i32_or6 _ _ (by omega) (by omega) (by omega) (by omega) (by omega)
  have hb : onS st x = ⟨st.sign * 64 + x % 64, st.waits + 1, st.missing - 1, 128, 191⟩ := by
    have h1 : ¬ st.missing = 1 := by omega
    simp [onS, h1]
  rw [hb] at T ⊢
  have TH := Lib.hid T
  clear T hb hok h hv hvb
  go_enter Tryz.func179, Tryz.ntmps179
  go_wp2
  go_region
  all_goals go_wp2
  all_goals go_ret
  all_goals exact told_drew TH.out

/-- goOn, whatever is missing. -/
theorem goOn_any (b base : Nat) (v : Value) (xs : List Int) (x : Int) (hx0 : 0 ≤ x) (hx1 : x ≤ 255) (w : World) (st : St) (h : Rd w b st) (hv : Has w base v xs) (hvb : v.ownBlock ≠ some b) (hn : xs.length ≤ 1099511627776) (hbase : base ≤ w.heap.size) (hp : 0 < st.waits) :
    Calls Tryz.prog 179 #[.pointer (some ⟨b, 0, none⟩), v, .int .u8 x] w fun e w' => Told base b v (xs ++ onO st x) (onS st x) w e w' := by
  have k1 := h.ok.waits
  have k2 := h.ok.missing
  have k3 := h.ok.pos hp
  have k4 := h.ok.sign
  by_cases hm : st.missing = 1
  · have e1 : onO st x = [st.sign * 64 + x % 64] := by simp [onO, hm]
    have e2 : onS st x = st0 := by simp [onS, hm]
    rw [e1, e2]
    exact goOn_last b base v xs x hx0 hx1 w st h hv hvb hn hbase hm k4.1 (by omega)
  · have e1 : onO st x = [] := by simp [onO, hm]
    rw [e1, List.append_nil]
    exact goOn_more b base v xs x hx0 hx1 w st h hv hvb (by omega) k2.2 hp k1.2 k4.1 (by omega)

theorem Told.shape {base b : Nat} {v : Value} {xs : List Int} {st' : St} {w : World} {e : Ending} {w' : World} (h : Told base b v xs st' w e w') : ∃ v', e = .returned v' ∧ Has w' base v' xs ∧ Rd w' b st' ∧ Kept (some b) v.ownBlock w w' ∧ (v'.ownBlock = v.ownBlock ∨ ∃ k, v'.ownBlock = some k ∧ w.heap.size ≤ k) := h
theorem told_two {base b : Nat} {v v1 : Value} {xs ys : List Int} {st1 st2 : St} {w w1 : World} {e : Ending} {w2 : World} (hk : Kept (some b) v.ownBlock w w1) (ha : v1.ownBlock = v.ownBlock ∨ ∃ k, v1.ownBlock = some k ∧ w.heap.size ≤ k) (h2 : Told base b v1 ys st2 w1 e w2) (_ : Told base b v xs st1 w (.returned v1) w1) : Told base b v ys st2 w e w2 := by
  obtain ⟨v2, rfl, a1, a2, a3, a4⟩ := h2
  refine ⟨v2, rfl, a1, a2, ⟨a3.os.trans hk.os, a3.tape.trans hk.tape, a3.output.trans hk.output, Nat.le_trans hk.size a3.size, fun k h0 h1 h2 => ?_⟩, ?_⟩
  · rw [a3.block k (Nat.lt_of_lt_of_le h0 hk.size) h1 ?_]
    · exact hk.block k h0 h1 h2
    · rcases ha with e | ⟨j, e, hj⟩
      · rw [e]; exact h2
      · rw [e]; intro e'; injection e' with e'; omega
  · rcases a4 with e | ⟨j, e, hj⟩
    · rcases ha with e' | ⟨j, e', hj⟩
      · exact .inl (e.trans e')
      · exact .inr ⟨j, e.trans e', hj⟩
    · exact .inr ⟨j, e, Nat.le_trans hk.size hj⟩
theorem told_ne {b : Nat} {v v1 : Value} {w : World} (hvb : v.ownBlock ≠ some b) (hb : b < w.heap.size) (ha : v1.ownBlock = v.ownBlock ∨ ∃ k, v1.ownBlock = some k ∧ w.heap.size ≤ k) : v1.ownBlock ≠ some b := by
  rcases ha with e | ⟨j, e, hj⟩
  · rw [e]; exact hvb
  · rw [e]; intro e'; injection e' with e'; omega

set_option maxRecDepth 100000 in
set_option maxHeartbeats 400000 in
theorem read_on (b base : Nat) (v : Value) (xs : List Int) (x : Int) (hx0 : 0 ≤ x) (hx1 : x ≤ 255) (w : World) (st : St) (h : Rd w b st) (hv : Has w base v xs) (hvb : v.ownBlock ≠ some b) (hn : xs.length ≤ 1099511627776) (hbase : base ≤ w.heap.size) (hp : 0 < st.waits) (hlo : st.low ≤ x) (hhi : x ≤ st.high) :
    Calls Tryz.prog 173 #[.pointer (some ⟨b, 0, none⟩), v, .int .u8 x] w fun e w' => Told base b v (xs ++ onO st x) (onS st x) w e w' := by
  have C := goOn_any b base v xs x hx0 hx1 w st h hv hvb hn hbase hp
  have CH := Lib.hid C
  have c1 : w.cell? ⟨b, 1, none⟩ = some (.int .i64 st.waits) := h.cell 1
  have c3 : w.cell? ⟨b, 3, none⟩ = some (.int .u8 st.low) := h.cell 3
  have c4 : w.cell? ⟨b, 4, none⟩ = some (.int .u8 st.high) := h.cell 4
  clear C h hv hvb
  go_enter Tryz.func173, Tryz.ntmps173
  go_wp2_with (go_at_call 179; refine CH.out.mono ?_; rintro e w' ⟨v', rfl, ht⟩)
  go_ret
  exact ⟨v', rfl, ht⟩

set_option maxRecDepth 100000 in
set_option maxHeartbeats 800000 in
theorem read_off (b base : Nat) (v : Value) (xs : List Int) (x : Int) (hx0 : 0 ≤ x) (hx1 : x ≤ 255) (w : World) (st : St) (h : Rd w b st) (hv : Has w base v xs) (hvb : v.ownBlock ≠ some b) (hn : xs.length + 1 ≤ 1099511627776) (hbase : base ≤ w.heap.size) (hp : st.waits = 0 ∨ (0 < st.waits ∧ x < st.low) ∨ (0 < st.waits ∧ st.low ≤ x ∧ st.high < x)) :
    Calls Tryz.prog 173 #[.pointer (some ⟨b, 0, none⟩), v, .int .u8 x] w fun e w' => Told base b v (xs ++ (brk st ++ begO x)) (begS x) w e w' := by
  have C := breakOff_any b base v xs w st h hv hvb (by omega) hbase
  have CH := Lib.hid C
  have D : ∀ v1 w1, Told base b v (xs ++ brk st) st0 w (.returned v1) w1 → Calls Tryz.prog 180 #[.pointer (some ⟨b, 0, none⟩), v1, .int .u8 x] w1 fun e w' => Told base b v (xs ++ (brk st ++ begO x)) (begS x) w e w' := by
    intro v1 w1 ht
    obtain ⟨v', e, a1, a2, a3, a4⟩ := ht.shape
    injection e with e
    subst e
    have hl : (xs ++ brk st).length ≤ 1099511627776 := by
      have : (brk st).length ≤ 1 := by unfold brk; split <;> simp
      simp; omega
    refine (begin_any b base v1 (xs ++ brk st) x hx0 hx1 w1 a2 a1 (told_ne hvb h.lt a4) hl (Nat.le_trans hbase a3.size)).mono fun e w2 h2 => ?_
    rw [← List.append_assoc]
    exact told_two a3 a4 h2 ht
  have DH := Lib.hid D
  have c1 : w.cell? ⟨b, 1, none⟩ = some (.int .i64 st.waits) := h.cell 1
  have c3 : w.cell? ⟨b, 3, none⟩ = some (.int .u8 st.low) := h.cell 3
  have c4 : w.cell? ⟨b, 4, none⟩ = some (.int .u8 st.high) := h.cell 4
  clear C D h hv hvb
  rcases hp with hp | ⟨hp, hq⟩ | ⟨hp, hq, hq'⟩
  · rw [hp] at c1
    have HP := Lib.hid hp
    clear hp
    go_enter Tryz.func173, Tryz.ntmps173
    go_wp2_with (first
      | (go_at_call 174; refine CH.out.mono ?_; rintro e w1 ⟨v1, rfl, ht⟩)
      | (go_at_call 180; refine (DH.out v1 w1 ⟨v1, rfl, ht⟩).mono ?_; rintro e w2 ⟨v2, rfl, ht2⟩))
    go_ret
    exact ⟨v2, rfl, ht2⟩
  all_goals
    go_enter Tryz.func173, Tryz.ntmps173
    go_wp2_with (first
      | (go_at_call 174; refine CH.out.mono ?_; rintro e w1 ⟨v1, rfl, ht⟩)
      | (go_at_call 180; refine (DH.out v1 w1 ⟨v1, rfl, ht⟩).mono ?_; rintro e w2 ⟨v2, rfl, ht2⟩))
    go_ret
    exact ⟨v2, rfl, ht2⟩

/-- read: one step of the machine. -/
theorem read_any (b base : Nat) (v : Value) (xs : List Int) (x : Int) (hx0 : 0 ≤ x) (hx1 : x ≤ 255) (w : World) (st : St) (h : Rd w b st) (hv : Has w base v xs) (hvb : v.ownBlock ≠ some b) (hn : xs.length + 1 ≤ 1099511627776) (hbase : base ≤ w.heap.size) :
    Calls Tryz.prog 173 #[.pointer (some ⟨b, 0, none⟩), v, .int .u8 x] w fun e w' => Told base b v (xs ++ stO st x) (stS st x) w e w' := by
  by_cases g : goes st x
  · have e1 : stO st x = onO st x := by simp [stO, g]
    have e2 : stS st x = onS st x := by simp [stS, g]
    rw [e1, e2]
    exact read_on b base v xs x hx0 hx1 w st h hv hvb (by omega) hbase g.1 g.2.1 g.2.2
  · have e1 : stO st x = brk st ++ begO x := by simp [stO, g]
    have e2 : stS st x = begS x := by simp [stS, g]
    rw [e1, e2]
    have k := h.ok.waits
    refine read_off b base v xs x hx0 hx1 w st h hv hvb hn hbase ?_
    unfold goes at g
    omega
end Go.Proofs.YtibihjcpkdfgeaaGreatDoor
namespace Go.Proofs.YtibihjcpkdfgeaaGreatDoor
open Go.ChangeShapes Go.WideShapes Go.ChangeAt Go.RowKit

set_option maxRecDepth 100000 in
set_option maxHeartbeats 400000 in
theorem put_any (b : Nat) (x : Int) (hx0 : 0 ≤ x) (hx1 : x ≤ 255) (w : World) (st : St) (h : Rd w b st) :
    Calls Tryz.prog 166 #[.pointer (some ⟨b, 0, none⟩), .int .u8 x] w fun e w' => Told w.heap.size b (.slice none 0 0) (stO st x) (stS st x) w e w' := by
  have C := read_any b w.heap.size (.slice none 0 0) [] x hx0 hx1 w st h (Has.nothing _ _) (by simp [Value.ownBlock]) (by simp) (Nat.le_refl _)
  have CH := Lib.hid C
  clear C h
  go_enter Tryz.func166, Tryz.ntmps166
  go_wp2_with (go_at_call 173; refine CH.out.mono ?_; rintro e w' ⟨v', rfl, ht⟩)
  go_ret
  exact ⟨v', rfl, ht⟩
set_option maxRecDepth 100000 in
theorem waits_any (b : Nat) (w : World) (st : St) (h : Rd w b st) :
    Calls Tryz.prog 168 #[.pointer (some ⟨b, 0, none⟩)] w fun e w' => e = .returned (.int .i64 st.waits) ∧ w = w' := by
  have c1 : w.cell? ⟨b, 1, none⟩ = some (.int .i64 st.waits) := h.cell 1
  clear h
  go_enter Tryz.func168, Tryz.ntmps168
  go_wp2
  go_ret
  exact ⟨rfl, rfl⟩
set_option maxRecDepth 100000 in
theorem put_nil (x : Int) (w : World) : Calls Tryz.prog 166 #[.pointer none, .int .u8 x] w fun e w' => e = .returned (.slice none 0 0) ∧ w = w' := by
  go_enter Tryz.func166, Tryz.ntmps166
  go_wp2
  go_ret
  exact ⟨rfl, rfl⟩
set_option maxRecDepth 100000 in
theorem waits_nil (w : World) : Calls Tryz.prog 168 #[.pointer none] w fun e w' => e = .returned (.int .i64 0) ∧ w = w' := by
  go_enter Tryz.func168, Tryz.ntmps168
  go_wp2
  go_ret
  exact ⟨rfl, rfl⟩

theorem Has.lower {w : World} {base base' : Nat} {v : Value} {xs : List Int} (h : Has w base v xs) (hb : base' ≤ base) : Has w base' v xs := by
  refine ⟨h.1, ?_⟩
  rcases h.2 with e | ⟨g, cap, cur, e1, e2, r⟩
  · exact .inl e
  · exact .inr ⟨g, cap, cur, e1, Nat.le_trans hb e2, r⟩
theorem Has.below {w w' : World} {B base : Nat} {v : Value} {xs : List Int} (h : Has w base v xs) (hb : Below B w w') (hv : ∀ k, v.ownBlock = some k → k < B) : Has w' base v xs := by
  refine ⟨h.1, ?_⟩
  rcases h.2 with e | ⟨g, cap, cur, rfl, e2, e3, r⟩
  · exact .inl e
  · exact .inr ⟨g, cap, cur, rfl, e2, (hb.block g (hv g rfl)).trans e3, r⟩
theorem Has.ne {w : World} {base b : Nat} {v : Value} {xs : List Int} (h : Has w base v xs) (hb : b < base) : v.ownBlock ≠ some b := fun e => by
  have := (World.ownsRow.lt h b e).1; omega
theorem Has.lt {w : World} {base : Nat} {v : Value} {xs : List Int} (h : Has w base v xs) : ∀ k, v.ownBlock = some k → k < w.heap.size := fun k e => (World.ownsRow.lt h k e).2
theorem Has.sq {w : World} {base : Nat} {A : Option Addr} {n c : Nat} {xs : List Int} (h : Has w base (.slice A n c) xs) : n = xs.length ∧ Sq w w.heap.size 1 n A (xs.map (Value.int .i32)) := by
  obtain ⟨A', c', e⟩ := h.shape
  injection e with e1 e2 e3
  subst e1 e2 e3
  exact ⟨rfl, Sq.own h⟩
theorem Kept.below {b r : Option Nat} {w w' : World} {B : Nat} (h : Kept b r w w') (hB : B ≤ w.heap.size) (hb : ∀ k, b = some k → B ≤ k) (hr : ∀ k, r = some k → B ≤ k) : Below B w w' :=
  ⟨h.os, h.tape, h.output, h.size, fun k hk => h.block k (by omega) (fun e => by have := hb k e.symm; omega) (fun e => by have := hr k e.symm; omega)⟩

/-- What All answers. -/
def AllPost (l : List Int) (w : World) (e : Ending) (w' : World) : Prop := ∃ v, e = .returned v ∧ Has w' w.heap.size v l ∧ Below w.heap.size w w'
/-- What holds at each round of All. -/
def AllAt (s : ByteArray) (w : World) (k : Nat) (v : Value) (wr : World) : Prop := k ≤ s.size ∧ Has wr (w.heap.size + 1) v (runO st0 ((octs s).take k)) ∧ Rd wr w.heap.size (runS st0 ((octs s).take k)) ∧ Below w.heap.size w wr

set_option maxRecDepth 100000 in
set_option maxHeartbeats 800000 in
theorem all_walk (s : ByteArray) (hs : s.size ≤ 274877906944) (w : World) :
    Calls Tryz.prog 167 #[.string s] w fun e w' => AllPost (allO (octs s)) w e w' := by
  go_enter Tryz.func167, Tryz.ntmps167
  go_wp2
  go_loopw [4, 8] (fun v i wr => ∃ k : Nat, i = .int .i64 k ∧ AllAt s w k v wr) (fun _ i _ => s.size - (intOf i).toNat)
  case atStart =>
    refine ⟨0, rfl, Nat.zero_le _, Has.nothing _ _, ⟨?_, st0_ok⟩, (Below.refl _ _).alloc (Nat.le_refl _) _⟩
    exact heap_alloc_new w _
  case round =>
    obtain ⟨k, rfl, hat⟩ := hrel
    by_cases hlt : k < s.size
    · have hx := octs_range s (nth (octs s) k) (by rw [nth_get (by rw [octs_length]; exact hlt)]; exact List.getElem_mem _)
      have hnx := nth_octs s k hlt
      rw [hnx] at hx
      have C := fun hn => read_any w.heap.size (w.heap.size + 1) u4 (runO st0 ((octs s).take k)) _ hx.1 hx.2 wr _ hat.2.2.1 hat.2.1 (hat.2.1.ne (Nat.lt_succ_self _)) hn hat.2.2.1.lt
      have CH := Lib.hid (C (by
        have := runO_length ((octs s).take k) st0
        have := List.length_take_le k (octs s)
        omega))
      have NX := Lib.hid hnx
      clear C hx hnx
      go_wp2_with (go_at_call 173; refine CH.out.mono ?_; rintro e w' ⟨v', rfl, ht⟩)
      go_roundw
      case rel =>
        refine ⟨k + 1, by go_num, by omega, ?_, ?_, ?_⟩
        · rw [take_next (by rw [octs_length]; exact hlt), runO_append, NX.out]; simpa [runO] using ht.1
        · rw [take_next (by rw [octs_length]; exact hlt), runS_append, NX.out]; exact ht.2.1
        · exact hat.2.2.2.trans (ht.2.2.1.below (Nat.le_of_lt hat.2.2.1.lt) (fun j e => by injection e with e; omega) (fun j e => by have := (World.ownsRow.lt hat.2.1 j e).1; omega))
      case measure => simp [intOf]; omega
    · have hk : (octs s).take k = octs s := take_all _ (by rw [octs_length]; omega)
      obtain ⟨_, h1, h2, h3⟩ := hat
      rw [hk] at h1 h2
      have C := fun hn => breakOff_any w.heap.size (w.heap.size + 1) u4 (runO st0 (octs s)) wr _ h2 h1 (h1.ne (Nat.lt_succ_self _)) hn h2.lt
      have CH := Lib.hid (C (by
        have := runO_length (octs s) st0
        rw [octs_length] at this
        omega))
      have HB := Lib.hid (fun w' (hkp : Kept (some w.heap.size) u4.ownBlock wr w') => h3.trans (hkp.below (B := w.heap.size) (Nat.le_of_lt h2.lt) (fun j e => by injection e with e; omega) (fun j e => by have := (World.ownsRow.lt h1 j e).1; omega)))
      clear C hk h1 h2 h3
      go_wp2_with (go_at_call 174; refine CH.out.mono ?_; rintro e w' ⟨v', rfl, ht⟩)
      go_ret
      exact ⟨v', rfl, Has.lower ht.1 (by omega), HB.out _ ht.2.2.1⟩
end Go.Proofs.YtibihjcpkdfgeaaGreatDoor
namespace Go.Proofs.YtibihjcpkdfgeaaGreatDoor
open Go.ChangeShapes Go.WideShapes Go.ChangeAt Go.RowKit

def mayA (a : Int) : Bool := decide (0 ≤ a) && decide (a ≤ 255)
set_option maxRecDepth 100000 in
set_option maxHeartbeats 400000 in
theorem mayAttr_yes (a : Int) (h0 : 0 ≤ a) (h1 : a ≤ 255) (w : World) : Calls Tryz.prog 138 #[.int .i64 a] w fun e w' => e = .returned (.bool true) ∧ w = w' := by
  go_enter Tryz.func138, Tryz.ntmps138
  go_wp2
  go_ret
  exact ⟨rfl, rfl⟩
set_option maxRecDepth 100000 in
set_option maxHeartbeats 400000 in
theorem mayAttr_no (a : Int) (h : a < 0 ∨ 255 < a) (w : World) : Calls Tryz.prog 138 #[.int .i64 a] w fun e w' => e = .returned (.bool false) ∧ w = w' := by
  rcases h with h | h
  · go_enter Tryz.func138, Tryz.ntmps138
    go_wp2
    go_ret
    exact ⟨rfl, rfl⟩
  · have h0 : 0 ≤ a := by omega
    have h1 : decide (a ≤ 255) = false := by simp; omega
    go_enter Tryz.func138, Tryz.ntmps138
    go_wp2
    go_ret
    exact ⟨rfl, rfl⟩

/-- Does a sign stand in it? -/
def hasB (r n a : Int) : Bool := (n == 1 || n == 2) && !(isB 0 r n a)
set_option maxRecDepth 100000 in
set_option maxHeartbeats 800000 in
theorem hasSign_walk (r n a : Int) (w : World) : Calls Tryz.prog 175 #[cellV r n a] w fun e w' => e = .returned (.bool (hasB r n a)) ∧ Below w.heap.size w w' := by
  obtain ⟨B, hB⟩ : ∃ B, hasB r n a = B := ⟨_, rfl⟩
  rw [hB]
  unfold hasB at hB
  obtain ⟨p, hp⟩ : ∃ p, isB 0 r n a = p := ⟨_, rfl⟩
  rw [hp] at hB
  have P := fun w => isPad_walk r n a w
  rw [hp] at P
  have PH := Lib.hid P
  clear P hp
  cases h1 : (n == 1) <;> cases h2 : (n == 2) <;> rw [h1, h2] at hB <;> cases p <;> obtain rfl := hB
  all_goals
    go_enter Tryz.func175, Tryz.ntmps175
    go_wp2_with (go_at_call 104; refine (PH.out _).mono ?_; rintro e w' ⟨rfl, hb⟩)
    go_ret
    first
      | exact ⟨rfl, ((Below.refl _ _).alloc (Nat.le_refl _) _).trans (hb.mono (by simp))⟩
      | exact ⟨rfl, (Below.refl _ _).alloc (Nat.le_refl _) _⟩

/-- Cells one behind the other, as memory has them. -/
def flat : List (Int × Int × Int) → List Value
  | [] => []
  | c :: l => .int .i32 c.1 :: .int .i64 c.2.1 :: .int .i64 c.2.2 :: flat l
theorem flat_length (l : List (Int × Int × Int)) : (flat l).length = l.length * 3 := by
  induction l with
  | nil => rfl
  | cons c l ih => simp only [flat, List.length_cons, ih]; omega
theorem flat_append (l m : List (Int × Int × Int)) : flat (l ++ m) = flat l ++ flat m := by
  induction l with
  | nil => rfl
  | cons c l ih => simp only [List.cons_append, flat, ih]
/-- A list of cells in a row of the call's own. -/
def HasC (w : World) (base : Nat) (v : Value) (l : List (Int × Int × Int)) : Prop := w.ownsRow base 67 3 v l.length (flat l)
/-- The cells of a sign. -/
def ofL (r a : Int) : List (Int × Int × Int) := if mayA a then (if wof r = 1 then [(r, 1, a)] else if wof r = 2 then [(r, 2, a), (0, 0, a)] else []) else []
def OfPost (l : List (Int × Int × Int)) (w : World) (e : Ending) (w' : World) : Prop := ∃ v, e = .returned v ∧ HasC w' w.heap.size v l ∧ Below w.heap.size w w'

theorem own_new (w : World) (e : TypeId) (size n : Nat) (cs : Array Value) (hs : cs.size = n * size) (hn : n ≤ 1099511627776) : (w.alloc (.cells cs e)).ownsRow w.heap.size e size (.slice (some ⟨w.heap.size, 0, none⟩) n n) n cs.toList := by
  refine ⟨by rw [Array.length_toList, hs], .inr ⟨w.heap.size, n, cs, rfl, Nat.le_refl _, heap_alloc_new w _, Nat.le_refl _, by unfold maxLen; omega, hs, ?_⟩⟩
  rw [← hs, ← Array.length_toList]; exact List.take_length

set_option maxRecDepth 100000 in
set_option maxHeartbeats 800000 in
theorem cellOf_walk (r a : Int) (hr0 : -2147483648 ≤ r) (hr1 : r ≤ 2147483647) (w : World) (hs : Spans w) :
    Calls Tryz.prog 106 #[.int .i32 r, .int .i64 a] w fun e w' => OfPost (ofL r a) w e w' := by
  have F := of_walk r hr0 hr1 w hs
  clear hs
  by_cases ha : 0 ≤ a ∧ a ≤ 255
  · obtain ⟨h0, h1⟩ := ha
    have hm : mayA a = true := by simp [mayA, h0, h1]
    have M := mayAttr_yes a h0 h1 w
    have hwr := wof_range r
    have hw : wof r = 0 ∨ wof r = 1 ∨ wof r = 2 := by omega
    clear hwr
    rcases hw with hw | hw | hw
    · have e : ofL r a = [] := by simp [ofL, hm, hw]
      rw [e]
      rw [hw] at F
      have FH := Lib.hid F
      have MH := Lib.hid M
      clear F M hw hm e
      go_enter Tryz.func106, Tryz.ntmps106
      go_wp2_with (first | (go_at_call 138; refine MH.out.mono ?_; rintro e w' ⟨rfl, rfl⟩) | (go_at_call 109; refine FH.out.mono ?_; rintro e w' ⟨rfl, rfl⟩))
      go_ret
      exact ⟨_, rfl, World.ownsRow_nil _ _ _ _, Below.refl _ _⟩
    · have e : ofL r a = [(r, 1, a)] := by simp [ofL, hm, hw]
      rw [e]
      rw [hw] at F
      have FH := Lib.hid F
      have MH := Lib.hid M
      clear F M hw hm e
      go_enter Tryz.func106, Tryz.ntmps106
      go_wp2_with (first | (go_at_call 138; refine MH.out.mono ?_; rintro e w' ⟨rfl, rfl⟩) | (go_at_call 109; refine FH.out.mono ?_; rintro e w' ⟨rfl, rfl⟩))
      go_ret
      exact ⟨_, rfl, own_new w _ 3 1 #[.int .i32 r, .int .i64 1, .int .i64 a] rfl (by omega), (Below.refl _ _).alloc (Nat.le_refl _) _⟩
    · have e : ofL r a = [(r, 2, a), (0, 0, a)] := by simp [ofL, hm, hw]
      rw [e]
      rw [hw] at F
      have FH := Lib.hid F
      have MH := Lib.hid M
      clear F M hw hm e
      go_enter Tryz.func106, Tryz.ntmps106
      go_wp2_with (first | (go_at_call 138; refine MH.out.mono ?_; rintro e w' ⟨rfl, rfl⟩) | (go_at_call 109; refine FH.out.mono ?_; rintro e w' ⟨rfl, rfl⟩))
      go_ret
      exact ⟨_, rfl, own_new w _ 3 2 #[.int .i32 r, .int .i64 2, .int .i64 a, .int .i32 0, .int .i64 0, .int .i64 a] rfl (by omega), (Below.refl _ _).alloc (Nat.le_refl _) _⟩
  · have hm : mayA a = false := by unfold mayA; by_cases h : 0 ≤ a <;> simp [h]; omega
    have M := mayAttr_no a (by omega) w
    have e : ofL r a = [] := by simp [ofL, hm]
    rw [e]
    have FH := Lib.hid F
    have MH := Lib.hid M
    clear F M hm e
    go_enter Tryz.func106, Tryz.ntmps106
    go_wp2_with (first | (go_at_call 138; refine MH.out.mono ?_; rintro e w' ⟨rfl, rfl⟩) | (go_at_call 109; refine FH.out.mono ?_; rintro e w' ⟨rfl, rfl⟩))
    go_ret
    exact ⟨_, rfl, World.ownsRow_nil _ _ _ _, Below.refl _ _⟩

set_option maxRecDepth 100000 in
set_option maxHeartbeats 800000 in
theorem may_half (a : Int) (h0 : 0 ≤ a) (h1 : a ≤ 255) (w : World) : Calls Tryz.prog 103 #[cellV 0 0 a] w fun e w' => e = .returned (.bool true) ∧ Below w.heap.size w w' := by
  go_enter Tryz.func103, Tryz.ntmps103
  go_wp2_with (go_at_call 138; refine (mayAttr_yes a h0 h1 _).mono ?_; rintro e w' ⟨rfl, rfl⟩)
  go_ret
  exact ⟨rfl, (Below.refl _ _).alloc (Nat.le_refl _) _⟩
set_option maxRecDepth 100000 in
set_option maxHeartbeats 1600000 in
theorem may_sign (r n a : Int) (h0 : 0 ≤ a) (h1 : a ≤ 255) (hr0 : -2147483648 ≤ r) (hr1 : r ≤ 2147483647) (hn : wof r = n) (hn0 : n = 1 ∨ n = 2) (w : World) (hs : Spans w) : Calls Tryz.prog 103 #[cellV r n a] w fun e w' => e = .returned (.bool true) ∧ Below w.heap.size w w' := by
  have F := fun w hs => of_walk r hr0 hr1 w hs
  rw [hn] at F
  have FH := Lib.hid F
  have hz : (n == 0) = false := by rcases hn0 with rfl | rfl <;> rfl
  have SA := hs.below ((Below.refl w.heap.size w).alloc (Nat.le_refl _) (.cells #[.int .i32 r, .int .i64 n, .int .i64 a] 67)) hs.size
  have SH := Lib.hid SA
  clear F hn hs hn0 SA
  go_enter Tryz.func103, Tryz.ntmps103
  go_wp2_with (go_at_call 138; refine (mayAttr_yes a h0 h1 _).mono ?_; rintro e w' ⟨rfl, rfl⟩)
  go_region_with (go_at_call 109; refine (FH.out _ (by first | exact SH.out | exact Spans.drew SH.out | exact Spans.drew (Spans.drew SH.out))).mono ?_; rintro e w' ⟨rfl, rfl⟩)
  all_goals go_wp2
  all_goals go_ret
  all_goals first
    | exact ⟨rfl, (Below.refl _ _).alloc (Nat.le_refl _) _⟩
    | exact ⟨rfl, ((Below.refl _ _).alloc (Nat.le_refl _) _).drew⟩

/-- A cell of a line. -/
structure Good (c : Int × Int × Int) : Prop where
  sign : -2147483648 ≤ c.1 ∧ c.1 ≤ 2147483647
  wide : wof c.1 = c.2.1
  two : c.2.1 = 1 ∨ c.2.1 = 2
  attr : 0 ≤ c.2.2 ∧ c.2.2 ≤ 255
theorem Good.has {c : Int × Int × Int} (h : Good c) : hasB c.1 c.2.1 c.2.2 = true := by
  have h0 : c.1 ≠ 0 := fun e => by
    have := h.wide; rw [e] at this
    rcases h.two with k | k <;> rw [k] at this <;> exact absurd this (by decide)
  have hb : (c.1 == 0) = false := by simpa using h0
  rcases h.two with k | k <;> simp [hasB, isB, hb, k]
theorem Sq.three {w : World} {B n : Nat} {A : Option Addr} {l : List (Int × Int × Int)} (h : Sq w B 3 n A (flat l)) {i : Nat} (hi : i < n) :
    ∃ b off, A = some ⟨b, off, none⟩ ∧ b < B ∧ ∃ c, l[i]? = some c ∧ w.cell? ⟨b, off + i * 3, none⟩ = some (.int .i32 c.1) ∧ w.cell? ⟨b, off + i * 3 + 1, none⟩ = some (.int .i64 c.2.1) ∧ w.cell? ⟨b, off + i * 3 + 2, none⟩ = some (.int .i64 c.2.2) := by
  obtain ⟨b, off, e, hb, hc⟩ := h.spot (by omega)
  have hl : i < l.length := by have := h.len; rw [flat_length] at this; omega
  have key : ∀ (l : List (Int × Int × Int)) (i : Nat) (hl : i < l.length), (flat l)[i * 3]? = some (.int .i32 (l[i]'hl).1) ∧ (flat l)[i * 3 + 1]? = some (.int .i64 (l[i]'hl).2.1) ∧ (flat l)[i * 3 + 2]? = some (.int .i64 (l[i]'hl).2.2) := by
    intro l
    induction l with
    | nil => intro i hl; simp at hl
    | cons c l ih =>
      intro i hl
      cases i with
      | zero => exact ⟨rfl, rfl, rfl⟩
      | succ i =>
        have := ih i (by simpa using hl)
        have e : (i + 1) * 3 = i * 3 + 1 + 1 + 1 := by omega
        rw [e]
        simpa [flat] using this
  obtain ⟨k0, k1, k2⟩ := key l i hl
  exact ⟨b, off, e, hb, l[i], List.getElem?_eq_getElem hl, hc _ _ k0, hc _ _ k1, hc _ _ k2⟩
end Go.Proofs.YtibihjcpkdfgeaaGreatDoor
namespace Go.Proofs.YtibihjcpkdfgeaaGreatDoor
open Go.ChangeShapes Go.WideShapes Go.ChangeAt Go.RowKit

theorem mayB_out {r n a : Int} (h : a < 0 ∨ 255 < a) : mayB (r, n, a) = false := by
  unfold mayB
  rcases h with h | h
  · simp [show ¬ 0 ≤ a by omega]
  · simp [show ¬ a ≤ 255 by omega]
theorem mayB_half {r a : Int} (h0 : 0 ≤ a) (h1 : a ≤ 255) : mayB (r, 0, a) = (r == 0) := by
  unfold mayB
  simp [h0, h1]
theorem mayB_sign {r n a : Int} (h0 : 0 ≤ a) (h1 : a ≤ 255) (hn : n ≠ 0) : mayB (r, n, a) = ((wof r == n) || isB 0 r n a) := by
  have hw := wof_range r
  have e : (decide (0 < n) && n == wof r) = (wof r == n) := by
    rw [Bool.eq_iff_iff]
    simp only [Bool.and_eq_true, decide_eq_true_eq, beq_iff_eq]
    omega
  have e2 : ((r, n, a) == ((0 : Int), (1 : Int), (0 : Int))) = isB 0 r n a := by
    unfold isB
    rw [Bool.eq_iff_iff]
    simp only [Bool.and_eq_true, beq_iff_eq, Prod.mk.injEq, and_assoc]
  unfold mayB
  simp only [h0, h1, decide_true, Bool.true_and, e, e2, show (n == 0) = false by simpa using hn, Bool.false_and, Bool.or_false]
  exact Bool.or_comm _ _

set_option maxRecDepth 100000 in
set_option maxHeartbeats 3200000 in
theorem may_any (r n a : Int) (hr0 : -2147483648 ≤ r) (hr1 : r ≤ 2147483647) (w : World) (hs : Spans w) : Calls Tryz.prog 103 #[cellV r n a] w fun e w' => e = .returned (.bool (mayB (r, n, a))) ∧ Below w.heap.size w w' := by
  by_cases ha : 0 ≤ a ∧ a ≤ 255
  · obtain ⟨h0, h1⟩ := ha
    by_cases hn : n = 0
    · subst hn
      rw [mayB_half h0 h1]
      clear hs
      cases h : (r == 0)
      all_goals
        go_enter Tryz.func103, Tryz.ntmps103
        go_wp2_with (go_at_call 138; refine (mayAttr_yes a h0 h1 _).mono ?_; rintro e w' ⟨rfl, rfl⟩)
        go_ret
        exact ⟨rfl, (Below.refl _ _).alloc (Nat.le_refl _) _⟩
    · rw [mayB_sign h0 h1 hn]
      have hz : (n == 0) = false := by simpa using hn
      have F := fun w hs => of_walk r hr0 hr1 w hs
      have P := fun w => isPad_walk r n a w
      obtain ⟨m, hm⟩ : ∃ m, wof r = m := ⟨_, rfl⟩
      rw [hm] at F ⊢
      obtain ⟨q, hq⟩ : ∃ q, isB 0 r n a = q := ⟨_, rfl⟩
      rw [hq] at P ⊢
      have FH := Lib.hid F
      have PH := Lib.hid P
      have SA := hs.below ((Below.refl w.heap.size w).alloc (Nat.le_refl _) (.cells #[.int .i32 r, .int .i64 n, .int .i64 a] 67)) hs.size
      have SH := Lib.hid SA
      clear F P hm hq hs SA hn
      cases h : (m == n)
      · cases q
        all_goals
          go_enter Tryz.func103, Tryz.ntmps103
          go_wp2_with (go_at_call 138; refine (mayAttr_yes a h0 h1 _).mono ?_; rintro e w' ⟨rfl, rfl⟩)
          go_region_with (first | (go_at_call 109; refine (FH.out _ (by first | exact SH.out | exact Spans.drew SH.out | exact Spans.drew (Spans.drew SH.out))).mono ?_; rintro e w' ⟨rfl, rfl⟩) | (go_at_call 104; refine (PH.out _).mono ?_; rintro e w3 ⟨rfl, b3⟩))
          all_goals go_wp2
          all_goals go_ret
          all_goals first
            | exact ⟨rfl, (Below.refl _ _).alloc (Nat.le_refl _) _⟩
            | exact ⟨rfl, ((Below.refl _ _).alloc (Nat.le_refl _) _).drew⟩
            | exact ⟨rfl, ((Below.refl _ _).alloc (Nat.le_refl _) _).trans (b3.mono (by simp))⟩
            | exact ⟨rfl, (((Below.refl _ _).alloc (Nat.le_refl _) _).drew).trans (b3.mono (by simp))⟩
      · cases q
        all_goals
          go_enter Tryz.func103, Tryz.ntmps103
          go_wp2_with (go_at_call 138; refine (mayAttr_yes a h0 h1 _).mono ?_; rintro e w' ⟨rfl, rfl⟩)
          go_region_with (first | (go_at_call 109; refine (FH.out _ (by first | exact SH.out | exact Spans.drew SH.out | exact Spans.drew (Spans.drew SH.out))).mono ?_; rintro e w' ⟨rfl, rfl⟩) | (go_at_call 104; refine (PH.out _).mono ?_; rintro e w3 ⟨rfl, b3⟩))
          all_goals go_wp2
          all_goals go_ret
          all_goals first
            | exact ⟨rfl, (Below.refl _ _).alloc (Nat.le_refl _) _⟩
            | exact ⟨rfl, ((Below.refl _ _).alloc (Nat.le_refl _) _).drew⟩
            | exact ⟨rfl, ((Below.refl _ _).alloc (Nat.le_refl _) _).trans (b3.mono (by simp))⟩
            | exact ⟨rfl, (((Below.refl _ _).alloc (Nat.le_refl _) _).drew).trans (b3.mono (by simp))⟩
  · rw [mayB_out (by omega)]
    have M := Lib.hid (fun w => mayAttr_no a (by omega) w)
    clear hs ha
    go_enter Tryz.func103, Tryz.ntmps103
    go_wp2_with (go_at_call 138; refine (M.out _).mono ?_; rintro e w' ⟨rfl, rfl⟩)
    go_ret
    exact ⟨rfl, (Below.refl _ _).alloc (Nat.le_refl _) _⟩
end Go.Proofs.YtibihjcpkdfgeaaGreatDoor
namespace Go.Proofs.YtibihjcpkdfgeaaGreatDoor
open Go.ChangeShapes Go.WideShapes Go.ChangeAt Go.RowKit

/-- A row as a value. -/
abbrev rowV (A : Option Addr) (n c : Nat) (wrap : Bool) : Value := .agg #[.slice A n c, .bool wrap]
/-- A cell's three cells in a block of their own. -/
def CellAt (w : World) (g : Nat) (c : Cel) : Prop := w.heap[g]? = some (.cells #[.int .i32 c.1, .int .i64 c.2.1, .int .i64 c.2.2] 67 (0, 0))
theorem CellAt.get {w : World} {g : Nat} {c : Cel} (h : CellAt w g c) (j : Nat) : w.cell? ⟨g, j, none⟩ = #[Value.int .i32 c.1, .int .i64 c.2.1, .int .i64 c.2.2][j]? := cell_of_row w g j _ _ (0, 0) h
theorem CellAt.lt {w : World} {g : Nat} {c : Cel} (h : CellAt w g c) : g < w.heap.size := (Array.getElem?_eq_some_iff.1 h).1
theorem CellAt.free {w : World} {g : Nat} {c : Cel} (h : CellAt w g c) (j : Nat) : w.frozen? ⟨g, j, none⟩ = false := by
  unfold CellAt at h
  simp [World.frozen?, h]
theorem CellAt.below {w w' : World} {g B : Nat} {c : Cel} (h : CellAt w g c) (hb : Below B w w') (hg : g < B) : CellAt w' g c := (hb.block g hg).trans h

theorem cellAt_put {w : World} {g : Nat} {c : Cel} (h : CellAt w g c) (r m a : Int) : CellAt (((w.setCell ⟨g, 0, none⟩ (.int .i32 r)).setCell ⟨g, 1, none⟩ (.int .i64 m)).setCell ⟨g, 2, none⟩ (.int .i64 a)) g (r, m, a) := by
  have h0 := heap_setCell_same w g 0 _ _ (.int .i32 r) h
  have h1 := heap_setCell_same _ g 1 _ _ (.int .i64 m) h0
  have h2 := heap_setCell_same _ g 2 _ _ (.int .i64 a) h1
  exact h2
set_option maxRecDepth 100000 in
set_option maxHeartbeats 3200000 in
theorem packMay_walk (A : Option Addr) (n c : Nat) (wrap : Bool) (l : List Cel) (w : World) (hs : Spans w) (hl : ∀ c ∈ l, -2147483648 ≤ c.1 ∧ c.1 ≤ 2147483647) (hq : Sq w w.heap.size 3 n A (flat l)) (hn : n ≤ 1000000) :
    Calls Tryz.prog 74 #[rowV A n c wrap] w fun e w' => e = .returned (.bool (mayL l)) ∧ Below w.heap.size w w' := by
  have hln : l.length = n := by have := hq.len; rw [flat_length] at this; omega
  have LN := Lib.hid hln
  have S := Lib.hid hs
  have Q := Lib.hid hq
  have HS := Lib.hid hl
  clear hs hq hl
  by_cases h300 : 300 < n
  · have E : mayL l = false := by unfold mayL; simp [hln, show ¬ n ≤ 300 by omega]
    rw [E]
    clear E hln
    go_enter Tryz.func74, Tryz.ntmps74
    go_wp2_with fail
    go_ret
    exact ⟨rfl, (Below.refl _ _).alloc (Nat.le_refl _) _⟩
  · have E : mayL l = mayGo (32, 1, 0) l := by unfold mayL; simp [hln, show n ≤ 300 by omega]
    have EH := Lib.hid E
    rw [E]
    clear E hln
    go_enter Tryz.func74, Tryz.ntmps74
    go_wp2_with fail
    refine (blank_walk _).mono ?_
    rintro e w2 ⟨rfl, b2⟩
    have B2 := Lib.hid (((Below.refl w.heap.size w).alloc (Nat.le_refl _) _).trans (b2.mono (by simp)))
    have hz2 := b2.size
    simp at hz2
    have hc0 : w2.cell? ⟨w.heap.size, 0, none⟩ = some (.slice A n c) := (b2.cell (p := ⟨w.heap.size, 0, none⟩) (by simp)).trans (by rw [cell_of_row _ _ 0 _ _ (0, 0) (heap_alloc_new w _)]; rfl)
    clear b2
    have hz2' : w.heap.size ≤ w2.heap.size := by omega
    have hc1 : (w2.alloc (.cells #[.int .i32 32, .int .i64 1, .int .i64 0] 67)).cell? ⟨w.heap.size, 0, none⟩ = some (.slice A n c) := (World.cell?_alloc_lt _ _ _ (by show w.heap.size < w2.heap.size; omega)).trans hc0
    have CA := Lib.hid (show CellAt (w2.alloc (.cells #[.int .i32 32, .int .i64 1, .int .i64 0] 67)) w2.heap.size (32, 1, 0) from heap_alloc_new w2 _)
    have B3 := Lib.hid (B2.out.alloc (by omega) (.cells #[.int .i32 32, .int .i64 1, .int .i64 0] 67))
    go_wp2_with fail
    clear hc0 hc1
    generalize w2.alloc (.cells #[.int .i32 32, .int .i64 1, .int .i64 0] 67) = w3 at CA B3 ⊢
    go_loopw [16] (fun i wr => ∃ (k : Nat) (p : Cel), i = .int .i64 k ∧ k ≤ n ∧ CellAt wr w2.heap.size p ∧ Below w.heap.size w wr ∧ Hid (mayGo p (l.drop k) = mayGo (32, 1, 0) l)) (fun i _ => n - (intOf i).toNat)
    case atStart => exact ⟨0, (32, 1, 0), rfl, Nat.zero_le _, CA.out, B3.out, Lib.hid rfl⟩
    case round =>
      obtain ⟨k, ⟨pr, pn, pa⟩, rfl, hk, hp, hb, MG⟩ := hrel
      have p0 : wr.cell? ⟨w2.heap.size, 0, none⟩ = some (.int .i32 pr) := hp.get 0
      have p1 : wr.cell? ⟨w2.heap.size, 1, none⟩ = some (.int .i64 pn) := hp.get 1
      have p2 : wr.cell? ⟨w2.heap.size, 2, none⟩ = some (.int .i64 pa) := hp.get 2
      have PF := Lib.hid hp
      have hpl := hp.lt
      have HB := Lib.hid hb
      have hsz := hb.size
      by_cases hlt : k < n
      · obtain ⟨b, off, rfl, hbb, ⟨r, m, a⟩, hcc, q0, q1, q2⟩ := (Q.out.below hb).three hlt
        have hx := HS.out _ (List.mem_of_getElem? hcc)
        simp only at hx
        have hd : l.drop k = (r, m, a) :: l.drop (k + 1) := by
          obtain ⟨h1, h2⟩ := List.getElem?_eq_some_iff.1 hcc
          rw [List.drop_eq_getElem_cons h1, h2]
        have STEP := Lib.hid (show mayGo (pr, pn, pa) (l.drop k) = (mayB (r, m, a) && ((pn == 2) == (m == 0)) && (!(m == 0) || a == pa) && mayGo (r, m, a) (l.drop (k + 1))) by rw [hd]; rfl)
        clear hp hb hcc hd
        have CC := Lib.hid (show CellAt (wr.alloc (.cells #[.int .i32 r, .int .i64 m, .int .i64 a] 67)) wr.heap.size (r, m, a) from heap_alloc_new wr _)
        have PP := Lib.hid (PF.out.below ((Below.refl wr.heap.size wr).alloc (Nat.le_refl _) (.cells #[.int .i32 r, .int .i64 m, .int .i64 a] 67)) hpl)
        have B4 := Lib.hid (HB.out.alloc hsz (.cells #[.int .i32 r, .int .i64 m, .int .i64 a] 67))
        have hz4 : (wr.alloc (.cells #[.int .i32 r, .int .i64 m, .int .i64 a] 67)).heap.size = wr.heap.size + 1 := by simp
        have Z4 := Lib.hid hz4
        clear hz4
        obtain ⟨B, hB⟩ : ∃ B, mayB (r, m, a) = B := ⟨_, rfl⟩
        have MB := Lib.hid (fun w hs => may_any r m a hx.1 hx.2 w hs)
        rw [hB] at MB STEP
        clear hB
        go_wp2_with fail
        generalize wr.alloc (.cells #[.int .i32 r, .int .i64 m, .int .i64 a] 67) = w4 at CC PP B4 Z4 ⊢
        clear p0 p1 p2 q0 q1 q2
        have c0 : w4.cell? ⟨wr.heap.size, 0, none⟩ = some (.int .i32 r) := CC.out.get 0
        have c1 : w4.cell? ⟨wr.heap.size, 1, none⟩ = some (.int .i64 m) := CC.out.get 1
        have c2 : w4.cell? ⟨wr.heap.size, 2, none⟩ = some (.int .i64 a) := CC.out.get 2
        have p1 : w4.cell? ⟨w2.heap.size, 1, none⟩ = some (.int .i64 pn) := PP.out.get 1
        have s4 := Z4.out
        cases B
        · have tok := True.intro
          go_quiet (fail)
          go_wp2_with fail
          refine (MB.out _ (S.out.below (show Below w.heap.size w (w4.drewN _) from ⟨B4.out.os, B4.out.tape, B4.out.output, B4.out.size, B4.out.block⟩) S.out.size)).mono ?_
          rintro e w6 ⟨rfl, b6⟩
          have b6' : Below w4.heap.size w4 w6 := ⟨b6.os, b6.tape, b6.output, b6.size, b6.block⟩
          have C6 := Lib.hid (CC.out.below b6' CC.out.lt)
          have P6 := Lib.hid (PP.out.below b6' PP.out.lt)
          have B6 := Lib.hid (B4.out.trans (b6'.mono B4.out.size))
          have k0 : w6.cell? ⟨wr.heap.size, 0, none⟩ = some (.int .i32 r) := C6.out.get 0
          have k1 : w6.cell? ⟨wr.heap.size, 1, none⟩ = some (.int .i64 m) := C6.out.get 1
          have k2 : w6.cell? ⟨wr.heap.size, 2, none⟩ = some (.int .i64 a) := C6.out.get 2
          have l0 : w6.cell? ⟨w2.heap.size, 0, none⟩ = some (.int .i32 pr) := P6.out.get 0
          have l1 : w6.cell? ⟨w2.heap.size, 1, none⟩ = some (.int .i64 pn) := P6.out.get 1
          have l2 : w6.cell? ⟨w2.heap.size, 2, none⟩ = some (.int .i64 pa) := P6.out.get 2
          have g0 := P6.out.free 0
          have g1 := P6.out.free 1
          have g2 := P6.out.free 2
          clear b6 b6' c0 c1 c2 p1
          have RF := Lib.hid (show mayGo (32, 1, 0) l = false by rw [← MG.out, STEP.out]; simp)
          go_wp2
          go_ret
          exact ⟨ret_bool RF.out.symm, B6.out⟩
        · cases e2 : (pn == 2) <;> cases e3 : (m == 0)
          · have tok := True.intro
            go_quiet (fail)
            go_wp2_with fail
            refine (MB.out _ (S.out.below (show Below w.heap.size w (w4.drewN _) from ⟨B4.out.os, B4.out.tape, B4.out.output, B4.out.size, B4.out.block⟩) S.out.size)).mono ?_
            rintro e w6 ⟨rfl, b6⟩
            have b6' : Below w4.heap.size w4 w6 := ⟨b6.os, b6.tape, b6.output, b6.size, b6.block⟩
            have C6 := Lib.hid (CC.out.below b6' CC.out.lt)
            have P6 := Lib.hid (PP.out.below b6' PP.out.lt)
            have B6 := Lib.hid (B4.out.trans (b6'.mono B4.out.size))
            have k0 : w6.cell? ⟨wr.heap.size, 0, none⟩ = some (.int .i32 r) := C6.out.get 0
            have k1 : w6.cell? ⟨wr.heap.size, 1, none⟩ = some (.int .i64 m) := C6.out.get 1
            have k2 : w6.cell? ⟨wr.heap.size, 2, none⟩ = some (.int .i64 a) := C6.out.get 2
            have l0 : w6.cell? ⟨w2.heap.size, 0, none⟩ = some (.int .i32 pr) := P6.out.get 0
            have l1 : w6.cell? ⟨w2.heap.size, 1, none⟩ = some (.int .i64 pn) := P6.out.get 1
            have l2 : w6.cell? ⟨w2.heap.size, 2, none⟩ = some (.int .i64 pa) := P6.out.get 2
            have g0 := P6.out.free 0
            have g1 := P6.out.free 1
            have g2 := P6.out.free 2
            clear b6 b6' c0 c1 c2 p1
            have RN := Lib.hid (show mayGo (r, m, a) (l.drop (k + 1)) = mayGo (32, 1, 0) l by rw [← MG.out, STEP.out, e2, e3]; simp)
            have N6 := Lib.hid (cellAt_put P6.out r m a)
            have M6 := Lib.hid ((((B6.out.setCell (p := ⟨w2.heap.size, 0, none⟩) hz2' (.int .i32 r)).setCell (p := ⟨w2.heap.size, 1, none⟩) hz2' (.int .i64 m)).setCell (p := ⟨w2.heap.size, 2, none⟩) hz2' (.int .i64 a)))
            go_wp2
            go_roundw
            case rel => exact ⟨k + 1, (r, m, a), by go_num, by omega, N6.out, M6.out, RN⟩
            case measure => simp [intOf]; omega
          · have tok := True.intro
            go_quiet (fail)
            go_wp2_with fail
            refine (MB.out _ (S.out.below (show Below w.heap.size w (w4.drewN _) from ⟨B4.out.os, B4.out.tape, B4.out.output, B4.out.size, B4.out.block⟩) S.out.size)).mono ?_
            rintro e w6 ⟨rfl, b6⟩
            have b6' : Below w4.heap.size w4 w6 := ⟨b6.os, b6.tape, b6.output, b6.size, b6.block⟩
            have C6 := Lib.hid (CC.out.below b6' CC.out.lt)
            have P6 := Lib.hid (PP.out.below b6' PP.out.lt)
            have B6 := Lib.hid (B4.out.trans (b6'.mono B4.out.size))
            have k0 : w6.cell? ⟨wr.heap.size, 0, none⟩ = some (.int .i32 r) := C6.out.get 0
            have k1 : w6.cell? ⟨wr.heap.size, 1, none⟩ = some (.int .i64 m) := C6.out.get 1
            have k2 : w6.cell? ⟨wr.heap.size, 2, none⟩ = some (.int .i64 a) := C6.out.get 2
            have l0 : w6.cell? ⟨w2.heap.size, 0, none⟩ = some (.int .i32 pr) := P6.out.get 0
            have l1 : w6.cell? ⟨w2.heap.size, 1, none⟩ = some (.int .i64 pn) := P6.out.get 1
            have l2 : w6.cell? ⟨w2.heap.size, 2, none⟩ = some (.int .i64 pa) := P6.out.get 2
            have g0 := P6.out.free 0
            have g1 := P6.out.free 1
            have g2 := P6.out.free 2
            clear b6 b6' c0 c1 c2 p1
            have RF := Lib.hid (show mayGo (32, 1, 0) l = false by rw [← MG.out, STEP.out, e2, e3]; simp)
            go_wp2
            go_ret
            exact ⟨ret_bool RF.out.symm, B6.out⟩
          · have tok := True.intro
            go_quiet (fail)
            go_wp2_with fail
            refine (MB.out _ (S.out.below (show Below w.heap.size w (w4.drewN _) from ⟨B4.out.os, B4.out.tape, B4.out.output, B4.out.size, B4.out.block⟩) S.out.size)).mono ?_
            rintro e w6 ⟨rfl, b6⟩
            have b6' : Below w4.heap.size w4 w6 := ⟨b6.os, b6.tape, b6.output, b6.size, b6.block⟩
            have C6 := Lib.hid (CC.out.below b6' CC.out.lt)
            have P6 := Lib.hid (PP.out.below b6' PP.out.lt)
            have B6 := Lib.hid (B4.out.trans (b6'.mono B4.out.size))
            have k0 : w6.cell? ⟨wr.heap.size, 0, none⟩ = some (.int .i32 r) := C6.out.get 0
            have k1 : w6.cell? ⟨wr.heap.size, 1, none⟩ = some (.int .i64 m) := C6.out.get 1
            have k2 : w6.cell? ⟨wr.heap.size, 2, none⟩ = some (.int .i64 a) := C6.out.get 2
            have l0 : w6.cell? ⟨w2.heap.size, 0, none⟩ = some (.int .i32 pr) := P6.out.get 0
            have l1 : w6.cell? ⟨w2.heap.size, 1, none⟩ = some (.int .i64 pn) := P6.out.get 1
            have l2 : w6.cell? ⟨w2.heap.size, 2, none⟩ = some (.int .i64 pa) := P6.out.get 2
            have g0 := P6.out.free 0
            have g1 := P6.out.free 1
            have g2 := P6.out.free 2
            clear b6 b6' c0 c1 c2 p1
            have RF := Lib.hid (show mayGo (32, 1, 0) l = false by rw [← MG.out, STEP.out, e2, e3]; simp)
            go_wp2
            go_ret
            exact ⟨ret_bool RF.out.symm, B6.out⟩
          · cases e4 : (a == pa)
            · have e5 : (a != pa) = true := by simpa using e4
              go_quiet (fail)
              go_wp2_with fail
              refine (MB.out _ (S.out.below (show Below w.heap.size w (w4.drewN _) from ⟨B4.out.os, B4.out.tape, B4.out.output, B4.out.size, B4.out.block⟩) S.out.size)).mono ?_
              rintro e w6 ⟨rfl, b6⟩
              have b6' : Below w4.heap.size w4 w6 := ⟨b6.os, b6.tape, b6.output, b6.size, b6.block⟩
              have C6 := Lib.hid (CC.out.below b6' CC.out.lt)
              have P6 := Lib.hid (PP.out.below b6' PP.out.lt)
              have B6 := Lib.hid (B4.out.trans (b6'.mono B4.out.size))
              have k0 : w6.cell? ⟨wr.heap.size, 0, none⟩ = some (.int .i32 r) := C6.out.get 0
              have k1 : w6.cell? ⟨wr.heap.size, 1, none⟩ = some (.int .i64 m) := C6.out.get 1
              have k2 : w6.cell? ⟨wr.heap.size, 2, none⟩ = some (.int .i64 a) := C6.out.get 2
              have l0 : w6.cell? ⟨w2.heap.size, 0, none⟩ = some (.int .i32 pr) := P6.out.get 0
              have l1 : w6.cell? ⟨w2.heap.size, 1, none⟩ = some (.int .i64 pn) := P6.out.get 1
              have l2 : w6.cell? ⟨w2.heap.size, 2, none⟩ = some (.int .i64 pa) := P6.out.get 2
              have g0 := P6.out.free 0
              have g1 := P6.out.free 1
              have g2 := P6.out.free 2
              clear b6 b6' c0 c1 c2 p1
              have RF := Lib.hid (show mayGo (32, 1, 0) l = false by rw [← MG.out, STEP.out, e2, e3, e4]; simp)
              go_wp2
              go_ret
              exact ⟨ret_bool RF.out.symm, B6.out⟩
            · have e5 : (a != pa) = false := by simpa using e4
              go_quiet (fail)
              go_wp2_with fail
              refine (MB.out _ (S.out.below (show Below w.heap.size w (w4.drewN _) from ⟨B4.out.os, B4.out.tape, B4.out.output, B4.out.size, B4.out.block⟩) S.out.size)).mono ?_
              rintro e w6 ⟨rfl, b6⟩
              have b6' : Below w4.heap.size w4 w6 := ⟨b6.os, b6.tape, b6.output, b6.size, b6.block⟩
              have C6 := Lib.hid (CC.out.below b6' CC.out.lt)
              have P6 := Lib.hid (PP.out.below b6' PP.out.lt)
              have B6 := Lib.hid (B4.out.trans (b6'.mono B4.out.size))
              have k0 : w6.cell? ⟨wr.heap.size, 0, none⟩ = some (.int .i32 r) := C6.out.get 0
              have k1 : w6.cell? ⟨wr.heap.size, 1, none⟩ = some (.int .i64 m) := C6.out.get 1
              have k2 : w6.cell? ⟨wr.heap.size, 2, none⟩ = some (.int .i64 a) := C6.out.get 2
              have l0 : w6.cell? ⟨w2.heap.size, 0, none⟩ = some (.int .i32 pr) := P6.out.get 0
              have l1 : w6.cell? ⟨w2.heap.size, 1, none⟩ = some (.int .i64 pn) := P6.out.get 1
              have l2 : w6.cell? ⟨w2.heap.size, 2, none⟩ = some (.int .i64 pa) := P6.out.get 2
              have g0 := P6.out.free 0
              have g1 := P6.out.free 1
              have g2 := P6.out.free 2
              clear b6 b6' c0 c1 c2 p1
              have RN := Lib.hid (show mayGo (r, m, a) (l.drop (k + 1)) = mayGo (32, 1, 0) l by rw [← MG.out, STEP.out, e2, e3, e4]; simp)
              have N6 := Lib.hid (cellAt_put P6.out r m a)
              have M6 := Lib.hid ((((B6.out.setCell (p := ⟨w2.heap.size, 0, none⟩) hz2' (.int .i32 r)).setCell (p := ⟨w2.heap.size, 1, none⟩) hz2' (.int .i64 m)).setCell (p := ⟨w2.heap.size, 2, none⟩) hz2' (.int .i64 a)))
              go_wp2
              go_roundw
              case rel => exact ⟨k + 1, (r, m, a), by go_num, by omega, N6.out, M6.out, RN⟩
              case measure => simp [intOf]; omega
      · have hk' : k = n := by omega
        have EN := Lib.hid (show mayGo (32, 1, 0) l = !(pn == 2) by rw [← MG.out, List.drop_eq_nil_of_le (by have := LN.out; omega)]; rfl)
        clear hp hb hk' p0 p2
        cases e2 : (pn == 2)
        · have e5 : (pn != 2) = true := by simpa using e2
          have E2 := Lib.hid e2
          go_wp2
          go_ret
          exact ⟨ret_bool (a := true) (by rw [EN.out, E2.out]; rfl), HB.out⟩
        · have e5 : (pn != 2) = false := by simpa using e2
          have E2 := Lib.hid e2
          go_wp2
          go_ret
          exact ⟨ret_bool (a := false) (by rw [EN.out, E2.out]; rfl), HB.out⟩
end Go.Proofs.YtibihjcpkdfgeaaGreatDoor
namespace Go.Proofs.YtibihjcpkdfgeaaGreatDoor
open Go.ChangeShapes Go.WideShapes Go.ChangeAt Go.RowKit

/-- Is the cell at the list's end this one? -/
def lastB (l : List Cel) (d : Cel) : Bool := decide (l.getLast? = some d)
theorem lastB_nil (d : Cel) : lastB [] d = false := rfl
theorem lastB_get {l : List Cel} {k : Nat} {x : Cel} (hk : l.length = k + 1) (hx : l[k]? = some x) (d : Cel) : lastB l d = (x.1 == d.1 && x.2.1 == d.2.1 && x.2.2 == d.2.2) := by
  have e : l.getLast? = some x := by rw [List.getLast?_eq_getElem?, hk]; exact hx
  unfold lastB
  rw [e, Bool.eq_iff_iff]
  obtain ⟨x1, x2, x3⟩ := x
  obtain ⟨d1, d2, d3⟩ := d
  simp [and_assoc]
theorem Below.drewN {B : Nat} {a w : World} (h : Below B a w) (k : Nat) : Below B a (w.drewN k) := ⟨h.os, h.tape, h.output, h.size, h.block⟩
set_option maxRecDepth 100000 in
set_option maxHeartbeats 1600000 in
theorem follows_walk (A : Option Addr) (n c : Nat) (l : List Cel) (r m a : Int) (w : World) (hq : Sq w w.heap.size 3 n A (flat l)) (hn : n ≤ 1000000) :
    Calls Tryz.prog 150 #[.slice A n c, cellV r m a] w fun e w' => e = .returned (.bool (lastB l (r, m, a))) ∧ Below w.heap.size w w' := by
  have hln : l.length = n := by have := hq.len; rw [flat_length] at this; omega
  rcases Nat.eq_zero_or_pos n with h0 | h0
  · subst h0
    have e : l = [] := List.eq_nil_of_length_eq_zero hln
    subst e
    rw [lastB_nil]
    clear hln hq
    go_enter Tryz.func150, Tryz.ntmps150
    go_wp2_with fail
    go_quiet (fail)
    go_wp2
    go_ret
    exact ⟨rfl, Below.drewN ((Below.refl _ _).alloc (Nat.le_refl _) _) _⟩
  · obtain ⟨b, off, rfl, hb, ⟨x, y, z⟩, hcc, q0, q1, q2⟩ := hq.three (show n - 1 < n by omega)
    rw [lastB_get (show l.length = (n - 1) + 1 by omega) hcc]
    simp only
    have hnn : n ≤ 1000000 := hn
    have e1 : IntKind.i64.wrap ((n : Int) - 1) = (n : Int) - 1 := IntWalk.i64_in _ (by omega)
    have e2 : 0 ≤ (n : Int) - 1 := by omega
    have e3 : ((n : Int) - 1).toNat = n - 1 := by omega
    have e4 : n - 1 < n := by omega
    clear hln hcc hq
    cases h1 : (x == r) <;> cases h2 : (y == m) <;> cases h3 : (z == a)
    all_goals
      go_enter Tryz.func150, Tryz.ntmps150
      go_wp2_with fail
      go_quiet (fail)
      go_wp2
      go_ret
      exact ⟨rfl, Below.drewN ((Below.refl _ _).alloc (Nat.le_refl _) _) _⟩
end Go.Proofs.YtibihjcpkdfgeaaGreatDoor
namespace Go.Proofs.YtibihjcpkdfgeaaGreatDoor
open Go.ChangeShapes Go.WideShapes Go.ChangeAt Go.RowKit

/-- Are they the same lists? -/
def eqL (l l' : List Cel) : Bool := decide (l = l')
theorem eqL_len {l l' : List Cel} (h : l.length ≠ l'.length) : eqL l l' = false := by
  unfold eqL
  simp only [decide_eq_false_iff_not]
  exact fun e => h (by rw [e])
theorem eqL_other {l l' : List Cel} {k : Nat} {x y : Cel} (hx : l[k]? = some x) (hy : l'[k]? = some y) (h : x ≠ y) : eqL l l' = false := by
  unfold eqL
  simp only [decide_eq_false_iff_not]
  intro e
  rw [e, hy] at hx
  injection hx with hx
  exact h hx.symm
theorem eqL_all {l l' : List Cel} {k : Nat} (hl : l.length = k) (hl' : l'.length = k) (h : l.take k = l'.take k) : eqL l l' = true := by
  unfold eqL
  rw [List.take_of_length_le (by omega), List.take_of_length_le (by omega)] at h
  simpa using h
theorem take_same {l l' : List Cel} {k : Nat} {x : Cel} (h : l.take k = l'.take k) (hx : l[k]? = some x) (hy : l'[k]? = some x) : l.take (k + 1) = l'.take (k + 1) := by
  obtain ⟨h1, h2⟩ := List.getElem?_eq_some_iff.1 hx
  obtain ⟨h3, h4⟩ := List.getElem?_eq_some_iff.1 hy
  rw [List.take_succ_eq_append_getElem h1, List.take_succ_eq_append_getElem h3, h, h2, h4]
theorem cel_ne {r m a r' m' a' : Int} (h : ((r == r') && (m == m') && (a == a')) = false) : ((r, m, a) : Cel) ≠ (r', m', a') := by
  intro e
  injection e with e1 e2
  injection e2 with e2 e3
  subst e1 e2 e3
  simp at h

set_option maxRecDepth 100000 in
set_option maxHeartbeats 3200000 in
theorem slicesEq_walk (A A' : Option Addr) (n c n' c' : Nat) (l l' : List Cel) (w : World) (hn : n ≤ 1000000) (hn' : n' ≤ 1000000) (hq : Sq w w.heap.size 3 n A (flat l)) (hq' : Sq w w.heap.size 3 n' A' (flat l')) :
    Calls Tryz.prog 105 #[.slice A n c, .slice A' n' c'] w fun e w' => e = .returned (.bool (eqL l l')) ∧ Below w.heap.size w w' := by
  have hl : l.length = n := by have := hq.len; rw [flat_length] at this; omega
  have hl' : l'.length = n' := by have := hq'.len; rw [flat_length] at this; omega
  have Q := Lib.hid hq
  have Q' := Lib.hid hq'
  have LN := Lib.hid hl
  have LN' := Lib.hid hl'
  clear hq hq'
  by_cases hne : n = n'
  · subst hne
    clear hl hl'
    go_enter Tryz.func105, Tryz.ntmps105
    go_wp2
    go_loopw [13] (fun i wr => ∃ k : Nat, i = .int .i64 k ∧ k ≤ n ∧ Hid (l.take k = l'.take k) ∧ Below w.heap.size w wr) (fun i _ => n - (intOf i).toNat)
    case atStart => exact ⟨0, rfl, Nat.zero_le _, Lib.hid rfl, Below.refl _ _⟩
    case round =>
      obtain ⟨k, rfl, hk, TK, hb⟩ := hrel
      by_cases hlt : k < n
      · obtain ⟨b, off, rfl, _, ⟨r, m, a⟩, hcc, q0, q1, q2⟩ := (Q.out.below hb).three hlt
        obtain ⟨b', off', rfl, _, ⟨r', m', a'⟩, hcc', q0', q1', q2'⟩ := (Q'.out.below hb).three hlt
        have HB := Lib.hid hb
        have HC := Lib.hid hcc
        have HC' := Lib.hid hcc'
        clear hb hcc hcc'
        simp only at q0 q1 q2 q0' q1' q2'
        cases hE : ((r == r') && (m == m') && (a == a'))
        · have EF := Lib.hid (eqL_other HC.out HC'.out (cel_ne hE))
          cases h1 : (r == r') <;> cases h2 : (m == m') <;> cases h3 : (a == a')
          all_goals
            first
              | (exfalso; rw [h1, h2, h3] at hE; cases hE; done)
              | (clear hE
                 go_wp2_with fail
                 go_quiet (fail)
                 go_wp2
                 go_ret
                 exact ⟨ret_bool EF.out.symm, Below.drewN HB.out _⟩)
        · simp only [Bool.and_eq_true, beq_iff_eq] at hE
          obtain ⟨⟨rfl, rfl⟩, rfl⟩ := hE
          have TK2 := Lib.hid (take_same TK.out HC.out HC'.out)
          go_wp2_with fail
          go_quiet (fail)
          go_wp2
          go_roundw
          case rel => exact ⟨k + 1, by go_num, by omega, TK2, Below.drewN HB.out _⟩
          case measure => simp [intOf]; omega
      · have hk' : k = n := by omega
        have ET := Lib.hid (eqL_all LN.out LN'.out (by rw [← hk']; exact TK.out))
        have HB := Lib.hid hb
        clear hk' hb
        go_wp2
        go_ret
        exact ⟨ret_bool ET.out.symm, HB.out⟩
  · have EF := Lib.hid (eqL_len (l := l) (l' := l') (by omega))
    have d1 : ((n : Int) != (n' : Int)) = true := by simp; omega
    clear hl hl'
    go_enter Tryz.func105, Tryz.ntmps105
    go_wp2
    go_ret
    exact ⟨ret_bool EF.out.symm, Below.refl _ _⟩

set_option maxRecDepth 100000 in
set_option maxHeartbeats 3200000 in
theorem eqCells_walk (A A' : Option Addr) (n c n' c' : Nat) (l l' : List Cel) (w : World) (hn : n ≤ 1000000) (hn' : n' ≤ 1000000) (hq : Sq w w.heap.size 3 n A (flat l)) (hq' : Sq w w.heap.size 3 n' A' (flat l')) :
    Calls Tryz.prog 82 #[.slice A n c, .slice A' n' c'] w fun e w' => e = .returned (.bool (eqL l l')) ∧ Below w.heap.size w w' := by
  have hl : l.length = n := by have := hq.len; rw [flat_length] at this; omega
  have hl' : l'.length = n' := by have := hq'.len; rw [flat_length] at this; omega
  have Q := Lib.hid hq
  have Q' := Lib.hid hq'
  have LN := Lib.hid hl
  have LN' := Lib.hid hl'
  clear hq hq'
  by_cases hne : n = n'
  · subst hne
    clear hl hl'
    go_enter Tryz.func82, Tryz.ntmps82
    go_wp2
    go_loopw [5] (fun i wr => ∃ k : Nat, i = .int .i64 k ∧ k ≤ n ∧ Hid (l.take k = l'.take k) ∧ Below w.heap.size w wr) (fun i _ => n - (intOf i).toNat)
    case atStart => exact ⟨0, rfl, Nat.zero_le _, Lib.hid rfl, Below.refl _ _⟩
    case round =>
      obtain ⟨k, rfl, hk, TK, hb⟩ := hrel
      by_cases hlt : k < n
      · obtain ⟨b, off, rfl, _, ⟨r, m, a⟩, hcc, q0, q1, q2⟩ := (Q.out.below hb).three hlt
        obtain ⟨b', off', rfl, _, ⟨r', m', a'⟩, hcc', q0', q1', q2'⟩ := (Q'.out.below hb).three hlt
        have HB := Lib.hid hb
        have HC := Lib.hid hcc
        have HC' := Lib.hid hcc'
        clear hb hcc hcc'
        simp only at q0 q1 q2 q0' q1' q2'
        cases hE : ((r == r') && (m == m') && (a == a'))
        · have EF := Lib.hid (eqL_other HC.out HC'.out (cel_ne hE))
          cases h1 : (r == r') <;> cases h2 : (m == m') <;> cases h3 : (a == a')
          all_goals
            first
              | (exfalso; rw [h1, h2, h3] at hE; cases hE; done)
              | (clear hE
                 go_wp2_with fail
                 go_quiet (fail)
                 go_wp2
                 go_ret
                 exact ⟨ret_bool EF.out.symm, Below.drewN HB.out _⟩)
        · simp only [Bool.and_eq_true, beq_iff_eq] at hE
          obtain ⟨⟨rfl, rfl⟩, rfl⟩ := hE
          have TK2 := Lib.hid (take_same TK.out HC.out HC'.out)
          go_wp2_with fail
          go_quiet (fail)
          go_wp2
          go_roundw
          case rel => exact ⟨k + 1, by go_num, by omega, TK2, Below.drewN HB.out _⟩
          case measure => simp [intOf]; omega
      · have hk' : k = n := by omega
        have ET := Lib.hid (eqL_all LN.out LN'.out (by rw [← hk']; exact TK.out))
        have HB := Lib.hid hb
        clear hk' hb
        go_wp2
        go_ret
        exact ⟨ret_bool ET.out.symm, HB.out⟩
  · have EF := Lib.hid (eqL_len (l := l) (l' := l') (by omega))
    have d1 : ((n : Int) != (n' : Int)) = true := by simp; omega
    clear hl hl'
    go_enter Tryz.func82, Tryz.ntmps82
    go_wp2
    go_ret
    exact ⟨ret_bool EF.out.symm, Below.refl _ _⟩

set_option maxRecDepth 100000 in
set_option maxHeartbeats 3200000 in
theorem packEq_walk (A A' : Option Addr) (n c n' c' : Nat) (wrap wrap' : Bool) (l l' : List Cel) (w : World) (hn : n ≤ 1000000) (hn' : n' ≤ 1000000) (hq : Sq w w.heap.size 3 n A (flat l)) (hq' : Sq w w.heap.size 3 n' A' (flat l')) :
    Calls Tryz.prog 134 #[rowV A n c wrap, rowV A' n' c' wrap'] w fun e w' => e = .returned (.bool (wrap == wrap' && eqL l l')) ∧ Below w.heap.size w w' := by
  have w2b : Below w.heap.size w ((w.alloc (.cells #[.slice A n c, .bool wrap] 53)).alloc (.cells #[.slice A' n' c', .bool wrap'] 53)) := ((Below.refl _ _).alloc (Nat.le_refl _) _).alloc (by simp) _
  have EW := Lib.hid (fun w' (h : Below w.heap.size w w') => slicesEq_walk A A' n c n' c' l l' w' hn hn' ((hq.below h).up h.size) ((hq'.below h).up h.size))
  have W2B := Lib.hid w2b
  clear hq hq' w2b
  cases wrap <;> cases wrap'
  all_goals
    go_enter Tryz.func134, Tryz.ntmps134
    go_wp2_with fail
    first
      | (go_ret
         exact ⟨rfl, W2B.out⟩)
      | (refine (EW.out _ W2B.out).mono ?_
         rintro e w3 ⟨rfl, b3⟩
         have B3 := Lib.hid (W2B.out.trans (b3.mono W2B.out.size))
         clear b3
         go_wp2
         go_ret
         exact ⟨by simp, B3.out⟩)

set_option maxRecDepth 100000 in
set_option maxHeartbeats 3200000 in
theorem eqRow_walk (A A' : Option Addr) (n c n' c' : Nat) (wrap wrap' : Bool) (l l' : List Cel) (w : World) (hn : n ≤ 1000000) (hn' : n' ≤ 1000000) (hq : Sq w w.heap.size 3 n A (flat l)) (hq' : Sq w w.heap.size 3 n' A' (flat l')) :
    Calls Tryz.prog 37 #[rowV A n c wrap, rowV A' n' c' wrap'] w fun e w' => e = .returned (.bool (wrap == wrap' && eqL l l')) ∧ Below w.heap.size w w' := by
  have w2b : Below w.heap.size w ((w.alloc (.cells #[.slice A n c, .bool wrap] 53)).alloc (.cells #[.slice A' n' c', .bool wrap'] 53)) := ((Below.refl _ _).alloc (Nat.le_refl _) _).alloc (by simp) _
  have EW := Lib.hid (fun w' (h : Below w.heap.size w w') => eqCells_walk A A' n c n' c' l l' w' hn hn' ((hq.below h).up h.size) ((hq'.below h).up h.size))
  have W2B := Lib.hid w2b
  clear hq hq' w2b
  cases wrap <;> cases wrap'
  all_goals
    go_enter Tryz.func37, Tryz.ntmps37
    go_wp2_with fail
    first
      | (go_ret
         exact ⟨rfl, W2B.out⟩)
      | (refine (EW.out _ W2B.out).mono ?_
         rintro e w3 ⟨rfl, b3⟩
         have B3 := Lib.hid (W2B.out.trans (b3.mono W2B.out.size))
         clear b3
         go_wp2
         go_ret
         exact ⟨by simp, B3.out⟩)
end Go.Proofs.YtibihjcpkdfgeaaGreatDoor
namespace Go.Proofs.YtibihjcpkdfgeaaGreatDoor
open Go.ChangeShapes Go.WideShapes Go.ChangeAt Go.RowKit

theorem infoByte : (Tryz.prog.info? 5).map (fun i => (i.zero, i.size, i.bytes)) = some (some (.int .u8 0), 1, 1) := by kernel_rfl
/-- One block alone has turned. -/
structure OnlyRow (g : Nat) (w w' : World) : Prop where
  os : w'.os = w.os
  tape : w'.tape = w.tape
  output : w'.output = w.output
  size : w'.heap.size = w.heap.size
  block : ∀ k, k ≠ g → w'.heap[k]? = w.heap[k]?
theorem OnlyRow.refl (g : Nat) (w : World) : OnlyRow g w w := ⟨rfl, rfl, rfl, rfl, fun _ _ => rfl⟩
theorem OnlyRow.trans {g : Nat} {w w' w2 : World} (h : OnlyRow g w w') (h2 : OnlyRow g w' w2) : OnlyRow g w w2 :=
  ⟨h2.os.trans h.os, h2.tape.trans h.tape, h2.output.trans h.output, h2.size.trans h.size, fun k hk => (h2.block k hk).trans (h.block k hk)⟩
theorem OnlyRow.ofDrew {g : Nat} {w w' : World} (h : OnlyRow g w.drew w') : OnlyRow g w w' := ⟨h.os, h.tape, h.output, h.size, h.block⟩
theorem OnlyRow.cell (g j : Nat) (w : World) (v : Value) : OnlyRow g w (w.setCell ⟨g, j, none⟩ v) := ⟨rfl, rfl, rfl, by simp, fun k hk => Below.heap_setCell _ _ _ _ hk⟩
/-- Of the blocks that were there those of M alone have turned. -/
structure Turned (M : Nat → Prop) (w w' : World) : Prop where
  os : w'.os = w.os
  tape : w'.tape = w.tape
  output : w'.output = w.output
  size : w.heap.size ≤ w'.heap.size
  block : ∀ k, k < w.heap.size → ¬ M k → w'.heap[k]? = w.heap[k]?
namespace Turned
variable {M M' : Nat → Prop} {w w' w2 : World}
theorem refl (M : Nat → Prop) (w : World) : Turned M w w := ⟨rfl, rfl, rfl, Nat.le_refl _, fun _ _ _ => rfl⟩
theorem trans (h : Turned M w w') (h2 : Turned M' w' w2) (hm : ∀ k, k < w.heap.size → M' k → M k) : Turned M w w2 :=
  ⟨h2.os.trans h.os, h2.tape.trans h.tape, h2.output.trans h.output, Nat.le_trans h.size h2.size, fun k hk hn => (h2.block k (Nat.lt_of_lt_of_le hk h.size) (fun x => hn (hm k hk x))).trans (h.block k hk hn)⟩
theorem mono (h : Turned M w w') (hm : ∀ k, k < w.heap.size → M k → M' k) : Turned M' w w' := ⟨h.os, h.tape, h.output, h.size, fun k hk hn => h.block k hk (fun x => hn (hm k hk x))⟩
theorem ofBelow (h : Below w.heap.size w w') (M : Nat → Prop) : Turned M w w' := ⟨h.os, h.tape, h.output, h.size, fun k hk _ => h.block k hk⟩
theorem ofOnly {g : Nat} (h : OnlyRow g w w') : Turned (· = g) w w' := ⟨h.os, h.tape, h.output, Nat.le_of_eq h.size.symm, fun k _ hk => h.block k hk⟩
theorem ofGrown {row : Option Nat} (h : w.grownBy w' row) : Turned (fun k => row = some k) w w' := ⟨h.os, h.tape, h.output, h.size, fun k hk hn => h.block k hk (fun e => hn e.symm)⟩
theorem ofCell (g j : Nat) (w : World) (v : Value) : Turned (· = g) w (w.setCell ⟨g, j, none⟩ v) := ofOnly (OnlyRow.cell g j w v)
theorem toBelow (h : Turned M w w') {B : Nat} (hB : B ≤ w.heap.size) (hm : ∀ k, k < B → ¬ M k) : Below B w w' := ⟨h.os, h.tape, h.output, h.size, fun k hk => h.block k (Nat.lt_of_lt_of_le hk hB) (hm k hk)⟩
end Turned
/-- A block of cells of type e. -/
def Typed (w : World) (e : TypeId) (k : Nat) : Prop := ∃ cs fr, w.heap[k]? = some (.cells cs e fr)
theorem Typed.apart {w : World} {e e' : TypeId} {k k' : Nat} (h : Typed w e k) (h' : Typed w e' k') (hne : e ≠ e') : k ≠ k' := by
  rintro rfl
  obtain ⟨_, _, h⟩ := h
  obtain ⟨_, _, h'⟩ := h'
  rw [h] at h'
  injection h' with h'
  injection h' with _ h'
  exact hne h'
def HasB (w : World) (base : Nat) (v : Value) (xs : List Int) : Prop := w.ownsRow base 5 1 v xs.length (xs.map (Value.int .u8))
theorem HasB.nothing (w : World) (base : Nat) : HasB w base (.slice none 0 0) [] := World.ownsRow_nil w base _ _
theorem HasB.shape {w : World} {base : Nat} {v : Value} {xs : List Int} (h : HasB w base v xs) : ∃ A c, v = .slice A xs.length c := by
  rcases h.2 with ⟨rfl, h0⟩ | ⟨g, cap, cur, rfl, _⟩
  · rw [h0]; exact ⟨_, _, rfl⟩
  · exact ⟨_, _, rfl⟩
theorem HasB.turned {M : Nat → Prop} {w w' : World} {base : Nat} {v : Value} {xs : List Int} (h : HasB w base v xs) (ht : Turned M w w') (hm : ∀ k, M k → ¬ Typed w 5 k) : HasB w' base v xs := by
  refine ⟨h.1, ?_⟩
  rcases h.2 with e | ⟨b, cap, cur, rfl, e2, e3, rr⟩
  · exact .inl e
  · exact .inr ⟨b, cap, cur, rfl, e2, (ht.block b (Array.getElem?_eq_some_iff.1 e3).1 (fun x => hm b x ⟨_, _, e3⟩)).trans e3, rr⟩
theorem HasB.below {w w' : World} {B base : Nat} {v : Value} {xs : List Int} (h : HasB w base v xs) (hb : Below B w w') (hv : ∀ k, v.ownBlock = some k → k < B) : HasB w' base v xs := by
  refine ⟨h.1, ?_⟩
  rcases h.2 with e | ⟨g, cap, cur, rfl, e2, e3, r⟩
  · exact .inl e
  · exact .inr ⟨g, cap, cur, rfl, e2, (hb.block g (hv g rfl)).trans e3, r⟩
theorem HasB.lt {w : World} {base : Nat} {v : Value} {xs : List Int} (h : HasB w base v xs) : ∀ k, v.ownBlock = some k → k < w.heap.size := fun k e => (World.ownsRow.lt h k e).2
theorem one_byte (x : Int) : ∀ u ∈ [Value.int .u8 x], u.oneCell' = true := by intro u hu; simp at hu; subst hu; rfl
theorem cell_new_at' {w : World} {n : Nat} (h : w.heap.size = n) (x : Value) (t : TypeId) : ∀ j u, [x][j]? = some u → (w.alloc (.cells #[x] t)).cell? ((⟨n, 0, none⟩ : Addr).add j) = some u := by
  subst h; exact cell_one_new w x t
theorem fitb1 {n : Nat} (h : n ≤ 1000000) : n + 1 ≤ maxLen := by unfold maxLen; omega
theorem fitb2 {n : Nat} (h : n ≤ 1000000) : (n + 1) * 1 ≤ 140737488355328 := by omega
/-- What a list that has grown left as it was. -/
structure Grew (v v' : Value) (w w' : World) : Prop where
  by' : w.grownBy w' v.ownBlock
  at' : v'.ownBlock = v.ownBlock ∨ ∃ k, v'.ownBlock = some k ∧ w.heap.size ≤ k
theorem Grew.refl (v : Value) (w : World) : Grew v v w w := ⟨⟨rfl, rfl, rfl, Nat.le_refl _, fun _ _ _ => rfl⟩, .inl rfl⟩
theorem Grew.trans {v v' v'' : Value} {w w' w'' : World} (h : Grew v v' w w') (k : Grew v' v'' w' w'') : Grew v v'' w w'' := by
  have hs := h.by'.size
  refine ⟨⟨k.by'.os.trans h.by'.os, k.by'.tape.trans h.by'.tape, k.by'.output.trans h.by'.output, Nat.le_trans hs k.by'.size, fun i hi hne => ?_⟩, ?_⟩
  · refine (k.by'.block i (by omega) (fun e => ?_)).trans (h.by'.block i hi hne)
    rcases h.at' with a | ⟨j, a, hj⟩
    · exact hne (e.trans a)
    · rw [a] at e; injection e with e; omega
  · rcases k.at' with a | ⟨j, a, hj⟩
    · rcases h.at' with b | ⟨j, b, hj⟩
      · exact .inl (a.trans b)
      · exact .inr ⟨j, a.trans b, hj⟩
    · exact .inr ⟨j, a, by omega⟩
theorem Grew.alloc {v v' : Value} {w w' : World} {o : Obj} (hg : (w.alloc o).grownBy w' v.ownBlock) (hat : v'.ownBlock = v.ownBlock ∨ v'.ownBlock = some (w.alloc o).heap.size) : Grew v v' w w' := by
  have hs := hg.size
  simp at hs
  refine ⟨⟨hg.os, hg.tape, hg.output, by omega, fun i hi hne => (hg.block i (by simp; omega) hne).trans (Below.heap_alloc w o i hi)⟩, ?_⟩
  rcases hat with a | a
  · exact .inl a
  · exact .inr ⟨_, a, by simp⟩
theorem Grew.below {v v' : Value} {w w' : World} {B : Nat} (h : Grew v v' w w') (hB : B ≤ w.heap.size) (hv : ∀ k, v.ownBlock = some k → B ≤ k) : Below B w w' :=
  (Below.refl B w).grown h.by' hB hv

theorem or128 (k : Nat) : bits .or .u8 ((k : Int) % 256) 128 = ((k % 128 + 128 : Nat) : Int) := by
  have key : ∀ x : Fin 256, bits .or .u8 (x.val : Int) 128 = ((x.val % 128 + 128 : Nat) : Int) := by decide +kernel
  have h := key ⟨k % 256, Nat.mod_lt _ (by omega)⟩
  simp only at h
  rw [show ((k : Int) % 256) = ((k % 256 : Nat) : Int) by omega, h]
  congr 2
  omega
/-- A number's bytes appended, or alone. -/
def UintPost (got : List Int) (n : Nat) (base : Nat) (v : Value) (w : World) (e : Ending) (w' : World) : Prop := ∃ v', e = .returned v' ∧ HasB w' base v' (got ++ uintL n) ∧ Grew v v' w w'
set_option maxRecDepth 100000 in
set_option maxHeartbeats 1600000 in
theorem appendUint_walk (n : Nat) (hn : n < 2 ^ 64) (got : List Int) (hg : got.length ≤ 900000) (base : Nat) (v : Value) (w : World) (hv : HasB w base v got) (hb : base ≤ w.heap.size) :
    Calls Tryz.prog 146 #[v, .int .u64 n] w fun e w' => UintPost got n base v w e w' := by
  obtain ⟨i0, hi, hz0, hz1, hz2⟩ := info_parts infoByte
  have hn' : (n : Int) ≤ 18446744073709551615 := by omega
  have HV := Lib.hid hv
  have HN := Lib.hid hn'
  have HN2 := Lib.hid hn
  clear hv hn hn'
  go_enter Tryz.func146, Tryz.ntmps146
  go_wp2_with fail
  go_loopw [0, 1] (fun u x wr => ∃ (k : Nat) (got' : List Int), x = .int .u64 k ∧ Hid (got' ++ uintL k = got ++ uintL n) ∧ k ≤ n ∧ HasB wr base u got' ∧ Grew v u w wr) (fun _ x _ => (intOf x).toNat)
  case atStart => exact ⟨n, got, rfl, Lib.hid rfl, Nat.le_refl _, HV.out, Grew.refl _ _⟩
  case round =>
    obtain ⟨k, got', rfl, GE, hkn, hv, hgr⟩ := hrel
    have hl : got'.length ≤ 950000 := by
      have h1 := congrArg List.length GE.out
      simp only [List.length_append] at h1
      have h2 := uintL_len HN2.out
      omega
    have hsz := hgr.by'.size
    have HV' := Lib.hid hv
    have HG := Lib.hid hgr
    clear hv hgr
    by_cases hlt : 128 ≤ k
    · obtain ⟨x, hx⟩ : ∃ x, bits .or .u8 ((k : Int) % 256) 128 = x := ⟨_, rfl⟩
      have XE := Lib.hid (hx.symm.trans (or128 k))
      go_wp2_with (at_builtin; refine wpList_append_own_at _ rfl _ _ 27 rfl base 5 i0 (.int .u8 0) 1 1 Tryz.underlying27 hi hz0 hz1 hz2 rfl (by decide) u0 got'.length _ rfl (HV'.out.alloc _) ⟨wr.heap.size, 0, none⟩ 1 1 [.int .u8 x] rfl rfl (cell_new_at' rfl _ _) (one_byte _) (fitb1 (by omega)) (fitb2 (by omega)) (by simp; omega) ?_; intro v' w4 hown hg2 _ hat)
      have N4 := HG.out.trans (Grew.alloc hg2 hat)
      have O4 : HasB w4 base v' (got' ++ [x]) := by unfold HasB; rw [List.length_append, List.map_append]; exact hown
      have NH := Lib.hid N4
      have OH := Lib.hid O4
      clear hown hg2 hat hx N4 O4
      go_roundw
      case rel => exact ⟨k / 128, got' ++ [x], by go_num, Lib.hid (by rw [← GE.out, uintL_big (n := k) (by omega), XE.out]; simp), by omega, OH.out, NH.out⟩
      case measure => simp [intOf]; omega
    · have XE := Lib.hid (uintL_small (n := k) (by omega))
      go_wp2_with (at_builtin; refine wpList_append_own_at _ rfl _ _ 27 rfl base 5 i0 (.int .u8 0) 1 1 Tryz.underlying27 hi hz0 hz1 hz2 rfl (by decide) u0 got'.length _ rfl (HV'.out.alloc _) ⟨wr.heap.size, 0, none⟩ 1 1 [.int .u8 (k : Int)] rfl rfl (cell_new_at' rfl _ _) (one_byte _) (fitb1 (by omega)) (fitb2 (by omega)) (by simp; omega) ?_; intro v' w4 hown hg2 _ hat)
      have N4 := HG.out.trans (Grew.alloc hg2 hat)
      have O4 : HasB w4 base v' (got ++ uintL n) := by rw [← GE.out, XE.out]; unfold HasB; rw [List.length_append, List.map_append]; exact hown
      clear hown hg2 hat
      go_ret
      exact ⟨v', rfl, O4, N4⟩
end Go.Proofs.YtibihjcpkdfgeaaGreatDoor
namespace Go.Proofs
open Go.Shelf
def Tryz.lays169_ren : Go.Shelf.Ren := ⟨fun | 169 => 177 | n => n, fun | 70 => 202 | 9 => 9 | 0 => 0 | 72 => 204 | 37 => 27 | 127 => 211 | 3 => 3 | 5 => 5 | n => n, fun | n => n⟩
theorem Tryz.lays169 : Go.Proofs.Lays.n169 Tryz.prog Tryz.lays169_ren := {
  mixed := by kernel_rfl
  f169 := Tryz.func177.trans (congrArg some (by kernel_rfl))
  t0 := Tryz.underlying0
  a0 := Tryz.isAgg0
  z0 := Tryz.sizeOf0
  v0 := Tryz.zeroValue0
  t3 := Tryz.underlying3
  a3 := Tryz.isAgg3
  z3 := Tryz.sizeOf3
  v3 := Tryz.zeroValue3
  t9 := Tryz.underlying9
  a9 := Tryz.isAgg9
  z9 := Tryz.sizeOf9
  v9 := Tryz.zeroValue9
  t37 := Tryz.underlying27
  a37 := Tryz.isAgg27
  z37 := Tryz.sizeOf27
  v37 := Tryz.zeroValue27
  t70 := Tryz.underlying202
  a70 := Tryz.isAgg202
  z70 := Tryz.sizeOf202
  v70 := Tryz.zeroValue202
  t72 := Tryz.underlying204
  a72 := Tryz.isAgg204
  z72 := Tryz.sizeOf204
  v72 := Tryz.zeroValue204
  t127 := Tryz.underlying211
  a127 := Tryz.isAgg211
  z127 := Tryz.sizeOf211
  v127 := Tryz.zeroValue211 }
theorem Tryz.Builder_Extra_169 : Builder.Extra Tryz.prog Tryz.lays169_ren := {
  sizeBuilder := by kernel_rfl
  liesBuilder := by kernel_rfl
  t5 := Tryz.underlying5
  a5 := Tryz.isAgg5
  z5 := Tryz.sizeOf5
  v5 := Tryz.zeroValue5
  infoByte := by kernel_rfl
  cellsByte := by kernel_rfl
  sizeByte := by kernel_rfl
  neB5 := by decide }
open Go.RowKit in
/-- (*strings.Builder).String: "String returns the accumulated string.": OF A BUILDER THAT HOLDS AT LEAST ONE BYTE. ✋ THE MODEL FREEZES THOSE BYTES IN THE BUFFER (unsafe.String): a later write INTO them ends the model's run without an answer; a later append BEHIND them goes on. The statement's order of evaluation is drawn: one draw. (LAID: no walk: one application.) -/
theorem Tryz.Builder_String (B b : Nat) (l : List UInt8) (w : World) (h : Lib.IsBuilder 204 5 B b (Lib.byteCells l) w) (h0 : l ≠ []) :
    Calls Tryz.prog 177 #[.pointer (some ⟨b, 0, none⟩)] w fun e w' => e = .returned (.string ⟨l.toArray⟩) ∧ Below B w w' := Any.Builder_String Tryz.lays169 Tryz.Builder_Extra_169 B b l w h h0
open Go.RowKit in
/-- (*strings.Builder).String OF A BUILDER THAT HOLDS NO BYTE: the empty string. (Its buffer is nil, or a row of which it has taken nothing yet; where that row has NO capacity the model lays one new block for unsafe.SliceData's 'some address'.) One draw. (LAID: no walk: one application.) -/
theorem Tryz.Builder_String_empty (B b : Nat) (w : World) (h : Lib.IsBuilder 204 5 B b [] w) (hBw : B ≤ w.heap.size) :
    Calls Tryz.prog 177 #[.pointer (some ⟨b, 0, none⟩)] w fun e w' => e = .returned (.string ⟨#[]⟩) ∧ Below B w w' := Any.Builder_String_empty Tryz.lays169 Tryz.Builder_Extra_169 B b w h hBw
open Go.RowKit in
/-- (*strings.Builder).String: "String returns the accumulated string.": WHATEVER THE BUILDER HOLDS. (LAID: no walk: one application.) -/
theorem Tryz.Builder_String_any (B b : Nat) (l : List UInt8) (w : World) (h : Lib.IsBuilder 204 5 B b (Lib.byteCells l) w) (hBw : B ≤ w.heap.size) :
    Calls Tryz.prog 177 #[.pointer (some ⟨b, 0, none⟩)] w fun e w' => e = .returned (.string ⟨l.toArray⟩) ∧ Below B w w' := Any.Builder_String_any Tryz.lays169 Tryz.Builder_Extra_169 B b l w h hBw
def Tryz.lays119_ren : Go.Shelf.Ren := ⟨fun | 119 => 162 | n => n, fun | 21 => 21 | 4 => 4 | n => n, fun | n => n⟩
theorem Tryz.lays119 : Go.Proofs.Lays.n119 Tryz.prog Tryz.lays119_ren := {
  mixed := by kernel_rfl
  f119 := Tryz.func162.trans (congrArg some (by kernel_rfl))
  t4 := Tryz.underlying4
  a4 := Tryz.isAgg4
  z4 := Tryz.sizeOf4
  v4 := Tryz.zeroValue4
  t21 := Tryz.underlying21
  a21 := Tryz.isAgg21
  z21 := Tryz.sizeOf21
  v21 := Tryz.zeroValue21 }
/-- utf8.ValidRune: "ValidRune reports whether r can be legally encoded as UTF-8. Code points that are out of range or a surrogate half are illegal.": IT RETURNS 'Lib.validRune r'; the world is as it was. (LAID: no walk: one application.) -/
theorem Tryz.utf8_ValidRune (r : Int) (w : World) :
    Calls Tryz.prog 162 #[.int .i32 r] w fun e w' => e = .returned (.bool (Lib.validRune r)) ∧ w' = w := Any.utf8_ValidRune Tryz.lays119 r w
def Tryz.lays137_ren : Go.Shelf.Ren := ⟨fun | 137 => 161 | 217 => 172 | 266 => 178 | n => n, fun | 9 => 9 | 5 => 5 | 3 => 3 | n => n, fun | n => n⟩
theorem Tryz.lays137 : Go.Proofs.Lays.n137 Tryz.prog Tryz.lays137_ren := {
  mixed := by kernel_rfl
  f137 := Tryz.func161.trans (congrArg some (by kernel_rfl))
  f217 := Tryz.func172.trans (congrArg some (by kernel_rfl))
  f266 := Tryz.func178.trans (congrArg some (by kernel_rfl))
  t3 := Tryz.underlying3
  a3 := Tryz.isAgg3
  z3 := Tryz.sizeOf3
  v3 := Tryz.zeroValue3
  t5 := Tryz.underlying5
  a5 := Tryz.isAgg5
  z5 := Tryz.sizeOf5
  v5 := Tryz.zeroValue5
  t9 := Tryz.underlying9
  a9 := Tryz.isAgg9
  z9 := Tryz.sizeOf9
  v9 := Tryz.zeroValue9 }
open Go.RowKit in
/-- strings.IndexByte: "IndexByte returns the index of the first instance of c in s, or -1 if c is not present in s.": IT RETURNS 'Lib.indexByte s c'; the world is as it was. (LAID: no walk: one application.) -/
theorem Tryz.strings_IndexByte (s : ByteArray) (c : Int) (w : World) :
    Calls Tryz.prog 161 #[.string s, .int .u8 c] w fun e w' => e = .returned (.int .i64 (Lib.indexByte s.data.toList c.toNat.toUInt8)) ∧ w' = w := Any.strings_IndexByte Tryz.lays137 s c w
open Go.RowKit in
/-- (*strings.Builder).String: "String returns the accumulated string.": OF A BUILDER THAT HOLDS AT LEAST ONE BYTE. ✋ THE MODEL FREEZES THOSE BYTES IN THE BUFFER (unsafe.String): a later write INTO them ends the model's run without an answer; a later append BEHIND them goes on. The statement's order of evaluation is drawn: one draw. THE FORM '_f': IT SAYS BESIDES THAT THE BUILDER IS A BUILDER STILL ('Lib.IsBuilderF', the same bytes): SO IT CAN BE WRITTEN ON: 'b.WriteString(b.String()[:k])'. (LAID: no walk: one application.) -/
theorem Tryz.Builder_String_f (B b : Nat) (l : List UInt8) (w : World) (h : Lib.IsBuilderF 204 5 B b (Lib.byteCells l) w) (h0 : l ≠ []) :
    Calls Tryz.prog 177 #[.pointer (some ⟨b, 0, none⟩)] w fun e w' => e = .returned (.string ⟨l.toArray⟩) ∧ (Lib.IsBuilderF 204 5 B b (Lib.byteCells l) w' ∧ Below B w w') := Any.Builder_String_f Tryz.lays169 Tryz.Builder_Extra_169 B b l w h h0
open Go.RowKit in
/-- (*strings.Builder).String OF A BUILDER THAT HOLDS NO BYTE: the empty string; THE FORM '_f': a builder still. (LAID: no walk: one application.) -/
theorem Tryz.Builder_String_empty_f (B b : Nat) (w : World) (h : Lib.IsBuilderF 204 5 B b [] w) (hBw : B ≤ w.heap.size) :
    Calls Tryz.prog 177 #[.pointer (some ⟨b, 0, none⟩)] w fun e w' => e = .returned (.string ⟨#[]⟩) ∧ (Lib.IsBuilderF 204 5 B b [] w' ∧ Below B w w') := Any.Builder_String_empty_f Tryz.lays169 Tryz.Builder_Extra_169 B b w h hBw
open Go.RowKit in
/-- (*strings.Builder).String: "String returns the accumulated string.": WHATEVER THE BUILDER HOLDS; THE FORM '_f': OF A BUILDER THAT MAY HAVE BEEN READ BEFORE; AND IT IS A BUILDER STILL, holding the same bytes: it can be written on. (LAID: no walk: one application.) -/
theorem Tryz.Builder_String_any_f (B b : Nat) (l : List UInt8) (w : World) (h : Lib.IsBuilderF 204 5 B b (Lib.byteCells l) w) (hBw : B ≤ w.heap.size) :
    Calls Tryz.prog 177 #[.pointer (some ⟨b, 0, none⟩)] w fun e w' => e = .returned (.string ⟨l.toArray⟩) ∧ (Lib.IsBuilderF 204 5 B b (Lib.byteCells l) w' ∧ Below B w w') := Any.Builder_String_any_f Tryz.lays169 Tryz.Builder_Extra_169 B b l w h hBw
open Go.RowKit in
/-- (*strings.Builder).String: "String returns the accumulated string.": OF A BUILDER THAT HOLDS AT LEAST ONE BYTE. ✋ THE MODEL FREEZES THOSE BYTES IN THE BUFFER (unsafe.String): a later write INTO them ends the model's run without an answer; a later append BEHIND them goes on. The statement's order of evaluation is drawn: one draw. THE FORM '_k': OVER 'Lib.IsBuilderF' (a builder that 'String()' may have read), AND WITH THE FRAME THAT REACHES ABOVE THE BUILDER: 'Lib.OthersKept': every block that is not b and is no row of uint8's stands as it stood: the iterator of a range among them. (LAID: no walk: one application.) -/
theorem Tryz.Builder_String_k (B b : Nat) (l : List UInt8) (w : World) (h : Lib.IsBuilderF 204 5 B b (Lib.byteCells l) w) (h0 : l ≠ []) :
    Calls Tryz.prog 177 #[.pointer (some ⟨b, 0, none⟩)] w fun e w' => e = .returned (.string ⟨l.toArray⟩) ∧ (Lib.IsBuilderF 204 5 B b (Lib.byteCells l) w' ∧ Below B w w' ∧ Lib.OthersKept 5 (some b) w w') := Any.Builder_String_k Tryz.lays169 Tryz.Builder_Extra_169 B b l w h h0
open Go.RowKit in
/-- (*strings.Builder).String OF A BUILDER THAT HOLDS NO BYTE: the empty string; THE FORM '_k': OVER 'Lib.IsBuilderF' (a builder that 'String()' may have read), AND WITH THE FRAME THAT REACHES ABOVE THE BUILDER: 'Lib.OthersKept': every block that is not b and is no row of uint8's stands as it stood: the iterator of a range among them. (LAID: no walk: one application.) -/
theorem Tryz.Builder_String_empty_k (B b : Nat) (w : World) (h : Lib.IsBuilderF 204 5 B b [] w) (hBw : B ≤ w.heap.size) :
    Calls Tryz.prog 177 #[.pointer (some ⟨b, 0, none⟩)] w fun e w' => e = .returned (.string ⟨#[]⟩) ∧ (Lib.IsBuilderF 204 5 B b [] w' ∧ Below B w w' ∧ Lib.OthersKept 5 (some b) w w') := Any.Builder_String_empty_k Tryz.lays169 Tryz.Builder_Extra_169 B b w h hBw
open Go.RowKit in
/-- (*strings.Builder).String: "String returns the accumulated string.": WHATEVER THE BUILDER HOLDS; THE FORM '_k': OVER 'Lib.IsBuilderF' (a builder that 'String()' may have read), AND WITH THE FRAME THAT REACHES ABOVE THE BUILDER: 'Lib.OthersKept': every block that is not b and is no row of uint8's stands as it stood: the iterator of a range among them. (LAID: no walk: one application.) -/
theorem Tryz.Builder_String_any_k (B b : Nat) (l : List UInt8) (w : World) (h : Lib.IsBuilderF 204 5 B b (Lib.byteCells l) w) (hBw : B ≤ w.heap.size) :
    Calls Tryz.prog 177 #[.pointer (some ⟨b, 0, none⟩)] w fun e w' => e = .returned (.string ⟨l.toArray⟩) ∧ (Lib.IsBuilderF 204 5 B b (Lib.byteCells l) w' ∧ Below B w w' ∧ Lib.OthersKept 5 (some b) w w') := Any.Builder_String_any_k Tryz.lays169 Tryz.Builder_Extra_169 B b l w h hBw
def Tryz.lays278_ren : Go.Shelf.Ren := ⟨fun | 278 => 185 | n => n, fun | 37 => 27 | 21 => 21 | 51 => 185 | 4 => 4 | 46 => 128 | 5 => 5 | n => n, fun | n => n⟩
theorem Tryz.lays278 : Go.Proofs.Lays.n278 Tryz.prog Tryz.lays278_ren := {
  mixed := by kernel_rfl
  f278 := Tryz.func185.trans (congrArg some (by kernel_rfl))
  t4 := Tryz.underlying4
  a4 := Tryz.isAgg4
  z4 := Tryz.sizeOf4
  v4 := Tryz.zeroValue4
  t5 := Tryz.underlying5
  a5 := Tryz.isAgg5
  z5 := Tryz.sizeOf5
  v5 := Tryz.zeroValue5
  t21 := Tryz.underlying21
  a21 := Tryz.isAgg21
  z21 := Tryz.sizeOf21
  v21 := Tryz.zeroValue21
  t37 := Tryz.underlying27
  a37 := Tryz.isAgg27
  z37 := Tryz.sizeOf27
  v37 := Tryz.zeroValue27
  t46 := Tryz.underlying128
  a46 := Tryz.isAgg128
  z46 := Tryz.sizeOf128
  v46 := Tryz.zeroValue128
  t51 := Tryz.underlying185
  a51 := Tryz.isAgg185
  z51 := Tryz.sizeOf185
  v51 := Tryz.zeroValue185 }
open Go.RowKit in
/-- unicode/utf8.appendRuneNonASCII (what AppendRune calls for all but ASCII), ONTO A ROW OF BYTES THAT THE CALL OWNS: every int32 that is no ASCII rune: 'Lib.runeCells r' goes in behind what the row holds. (LAID: no walk: one application.) -/
theorem Tryz.utf8_appendRuneNonASCII_plain (B : Nat) (v : Value) (n : Nat) (xs : List Value) (r : Int) (hr0 : -2147483648 ≤ r) (hr1 : r ≤ 2147483647) (hna : r < 0 ∨ 128 ≤ r) (w : World) (hown : w.ownsRow B 5 1 v n xs) (hlen : n + 4 ≤ 140737488355328) (hBw : B ≤ w.heap.size) :
    Calls Tryz.prog 185 #[v, .int .i32 r] w fun e w' => ∃ v', e = .returned v' ∧ w'.ownsRow B 5 1 v' (n + (Lib.runeCells r).length) (xs ++ Lib.runeCells r) ∧ ∃ o, (w.alloc o).grownBy w' v.ownBlock := Any.utf8_appendRuneNonASCII_plain Tryz.lays278 (by kernel_rfl) B v n xs r hr0 hr1 hna w hown hlen hBw
def Tryz.lays242_ren : Go.Shelf.Ren := ⟨fun | 242 => 182 | 278 => 185 | n => n, fun | 37 => 27 | 21 => 21 | 51 => 185 | 4 => 4 | 5 => 5 | 46 => 128 | n => n, fun | n => n⟩
theorem Tryz.lays242 : Go.Proofs.Lays.n242 Tryz.prog Tryz.lays242_ren := {
  mixed := by kernel_rfl
  f242 := Tryz.func182.trans (congrArg some (by kernel_rfl))
  f278 := Tryz.func185.trans (congrArg some (by kernel_rfl))
  t4 := Tryz.underlying4
  a4 := Tryz.isAgg4
  z4 := Tryz.sizeOf4
  v4 := Tryz.zeroValue4
  t5 := Tryz.underlying5
  a5 := Tryz.isAgg5
  z5 := Tryz.sizeOf5
  v5 := Tryz.zeroValue5
  t21 := Tryz.underlying21
  a21 := Tryz.isAgg21
  z21 := Tryz.sizeOf21
  v21 := Tryz.zeroValue21
  t37 := Tryz.underlying27
  a37 := Tryz.isAgg27
  z37 := Tryz.sizeOf27
  v37 := Tryz.zeroValue27
  t46 := Tryz.underlying128
  a46 := Tryz.isAgg128
  z46 := Tryz.sizeOf128
  v46 := Tryz.zeroValue128
  t51 := Tryz.underlying185
  a51 := Tryz.isAgg185
  z51 := Tryz.sizeOf185
  v51 := Tryz.zeroValue185 }
open Go.RowKit in
/-- unicode/utf8.AppendRune: "AppendRune appends the UTF-8 encoding of r to the end of p and returns the extended buffer. If the rune is out of range, it appends the encoding of RuneError.": ONTO A ROW OF BYTES THAT THE CALL OWNS (its head frozen or not): EVERY int32: 'Lib.runeCells r' goes in behind what the row holds; the world: one new block (the bytes as the call's variadic argument), then what 'append' does to the row. (LAID: no walk: one application.) -/
theorem Tryz.utf8_AppendRune_plain (B : Nat) (v : Value) (n : Nat) (xs : List Value) (r : Int) (hr0 : -2147483648 ≤ r) (hr1 : r ≤ 2147483647) (w : World) (hown : w.ownsRow B 5 1 v n xs) (hlen : n + 4 ≤ 140737488355328) (hBw : B ≤ w.heap.size) :
    Calls Tryz.prog 182 #[v, .int .i32 r] w fun e w' => ∃ v', e = .returned v' ∧ w'.ownsRow B 5 1 v' (n + (Lib.runeCells r).length) (xs ++ Lib.runeCells r) ∧ ∃ o, (w.alloc o).grownBy w' v.ownBlock := Any.utf8_AppendRune_plain Tryz.lays242 (by kernel_rfl) B v n xs r hr0 hr1 w hown hlen hBw
def Tryz.lays217_ren : Go.Shelf.Ren := ⟨fun | 217 => 172 | 266 => 178 | n => n, fun | 9 => 9 | 5 => 5 | 3 => 3 | n => n, fun | n => n⟩
theorem Tryz.lays217 : Go.Proofs.Lays.n217 Tryz.prog Tryz.lays217_ren := {
  mixed := by kernel_rfl
  f217 := Tryz.func172.trans (congrArg some (by kernel_rfl))
  f266 := Tryz.func178.trans (congrArg some (by kernel_rfl))
  t3 := Tryz.underlying3
  a3 := Tryz.isAgg3
  z3 := Tryz.sizeOf3
  v3 := Tryz.zeroValue3
  t5 := Tryz.underlying5
  a5 := Tryz.isAgg5
  z5 := Tryz.sizeOf5
  v5 := Tryz.zeroValue5
  t9 := Tryz.underlying9
  a9 := Tryz.isAgg9
  z9 := Tryz.sizeOf9
  v9 := Tryz.zeroValue9 }
open Go.RowKit Go.Lib in
/-- internal/stringslite.IndexByte (what strings.IndexByte calls): IT RETURNS 'Lib.indexByte s c'; the world is as it was. (LAID: no walk: one application.) -/
theorem Tryz.stringslite_IndexByte (s : ByteArray) (c : Int) (w : World) :
    Calls Tryz.prog 172 #[.string s, .int .u8 c] w fun e w' => e = .returned (.int .i64 (Lib.indexByte s.data.toList c.toNat.toUInt8)) ∧ w' = w := Any.stringslite_IndexByte Tryz.lays217 s c w
def Tryz.lays224_ren : Go.Shelf.Ren := ⟨fun | 224 => 163 | n => n, fun | 3 => 3 | n => n, fun | n => n⟩
theorem Tryz.lays224 : Go.Proofs.Lays.n224 Tryz.prog Tryz.lays224_ren := {
  mixed := by kernel_rfl
  f224 := Tryz.func163.trans (congrArg some (by kernel_rfl))
  t3 := Tryz.underlying3
  a3 := Tryz.isAgg3
  z3 := Tryz.sizeOf3
  v3 := Tryz.zeroValue3 }
open Go.RowKit Go.Lib in
/-- internal/bytealg.Cutover: "Cutover reports the number of failures of IndexByte we should tolerate before switching over to Index. n is the number of bytes processed so far.": on amd64: (n + 16) / 8. (LAID: no walk: one application.) -/
theorem Tryz.bytealg_Cutover (n : Int) (h0 : 0 ≤ n) (h1 : n < 4611686018427387904) (w : World) :
    Calls Tryz.prog 163 #[.int .i64 n] w fun e w' => e = .returned (.int .i64 ((n + 16) / 8)) ∧ w' = w := Any.bytealg_Cutover Tryz.lays224 n h0 h1 w
def Tryz.lays152_ren : Go.Shelf.Ren := ⟨fun | 152 => 142 | 137 => 161 | 119 => 162 | 224 => 163 | 225 => 164 | 217 => 172 | 266 => 178 | n => n, fun | 9 => 9 | 21 => 21 | 3 => 3 | 4 => 4 | 5 => 5 | 0 => 0 | 46 => 128 | n => n, fun | n => n⟩
theorem Tryz.lays152 : Go.Proofs.Lays.n152 Tryz.prog Tryz.lays152_ren := {
  mixed := by kernel_rfl
  f119 := Tryz.func162.trans (congrArg some (by kernel_rfl))
  f137 := Tryz.func161.trans (congrArg some (by kernel_rfl))
  f152 := Tryz.func142.trans (congrArg some (by kernel_rfl))
  f217 := Tryz.func172.trans (congrArg some (by kernel_rfl))
  f224 := Tryz.func163.trans (congrArg some (by kernel_rfl))
  f225 := Tryz.func164.trans (congrArg some (by kernel_rfl))
  f266 := Tryz.func178.trans (congrArg some (by kernel_rfl))
  t0 := Tryz.underlying0
  a0 := Tryz.isAgg0
  z0 := Tryz.sizeOf0
  v0 := Tryz.zeroValue0
  t3 := Tryz.underlying3
  a3 := Tryz.isAgg3
  z3 := Tryz.sizeOf3
  v3 := Tryz.zeroValue3
  t4 := Tryz.underlying4
  a4 := Tryz.isAgg4
  z4 := Tryz.sizeOf4
  v4 := Tryz.zeroValue4
  t5 := Tryz.underlying5
  a5 := Tryz.isAgg5
  z5 := Tryz.sizeOf5
  v5 := Tryz.zeroValue5
  t9 := Tryz.underlying9
  a9 := Tryz.isAgg9
  z9 := Tryz.sizeOf9
  v9 := Tryz.zeroValue9
  t21 := Tryz.underlying21
  a21 := Tryz.isAgg21
  z21 := Tryz.sizeOf21
  v21 := Tryz.zeroValue21
  t46 := Tryz.underlying128
  a46 := Tryz.isAgg128
  z46 := Tryz.sizeOf128
  v46 := Tryz.zeroValue128 }
open Go.RowKit Go.Lib in
theorem Tryz.strings_IndexRune_ascii (s : ByteArray) (r : Int) (w : World) (h0 : 0 ≤ r) (h1 : r < 128) :
    Calls Tryz.prog 142 #[.string s, .int .i32 r] w fun e w' => e = .returned (.int .i64 (Lib.indexByte s.data.toList r.toNat.toUInt8)) ∧ w' = w := Any.strings_IndexRune_ascii Tryz.lays152 s r w h0 h1
def Tryz.lays151_ren : Go.Shelf.Ren := ⟨fun | 151 => 114 | 152 => 142 | 137 => 161 | 119 => 162 | 224 => 163 | 225 => 164 | 217 => 172 | 266 => 178 | n => n, fun | 9 => 9 | 21 => 21 | 4 => 4 | 3 => 3 | 5 => 5 | 0 => 0 | 46 => 128 | n => n, fun | n => n⟩
theorem Tryz.lays151 : Go.Proofs.Lays.n151 Tryz.prog Tryz.lays151_ren := {
  mixed := by kernel_rfl
  f119 := Tryz.func162.trans (congrArg some (by kernel_rfl))
  f137 := Tryz.func161.trans (congrArg some (by kernel_rfl))
  f151 := Tryz.func114.trans (congrArg some (by kernel_rfl))
  f152 := Tryz.func142.trans (congrArg some (by kernel_rfl))
  f217 := Tryz.func172.trans (congrArg some (by kernel_rfl))
  f224 := Tryz.func163.trans (congrArg some (by kernel_rfl))
  f225 := Tryz.func164.trans (congrArg some (by kernel_rfl))
  f266 := Tryz.func178.trans (congrArg some (by kernel_rfl))
  t0 := Tryz.underlying0
  a0 := Tryz.isAgg0
  z0 := Tryz.sizeOf0
  v0 := Tryz.zeroValue0
  t3 := Tryz.underlying3
  a3 := Tryz.isAgg3
  z3 := Tryz.sizeOf3
  v3 := Tryz.zeroValue3
  t4 := Tryz.underlying4
  a4 := Tryz.isAgg4
  z4 := Tryz.sizeOf4
  v4 := Tryz.zeroValue4
  t5 := Tryz.underlying5
  a5 := Tryz.isAgg5
  z5 := Tryz.sizeOf5
  v5 := Tryz.zeroValue5
  t9 := Tryz.underlying9
  a9 := Tryz.isAgg9
  z9 := Tryz.sizeOf9
  v9 := Tryz.zeroValue9
  t21 := Tryz.underlying21
  a21 := Tryz.isAgg21
  z21 := Tryz.sizeOf21
  v21 := Tryz.zeroValue21
  t46 := Tryz.underlying128
  a46 := Tryz.isAgg128
  z46 := Tryz.sizeOf128
  v46 := Tryz.zeroValue128 }
open Go.RowKit Go.Lib in
theorem Tryz.strings_ContainsRune_ascii (s : ByteArray) (r : Int) (w : World) (h0 : 0 ≤ r) (h1 : r < 128) :
    Calls Tryz.prog 114 #[.string s, .int .i32 r] w fun e w' => e = .returned (.bool (decide (0 ≤ Lib.indexByte s.data.toList r.toNat.toUInt8))) ∧ w' = w := Any.strings_ContainsRune_ascii Tryz.lays151 s r w h0 h1
def Tryz.lays264_ren : Go.Shelf.Ren := ⟨fun | 264 => 160 | n => n, fun | 53 => 145 | 46 => 128 | n => n, fun | n => n⟩
theorem Tryz.lays264 : Go.Proofs.Lays.n264 Tryz.prog Tryz.lays264_ren := {
  mixed := by kernel_rfl
  f264 := Tryz.func160.trans (congrArg some (by kernel_rfl))
  t46 := Tryz.underlying128
  a46 := Tryz.isAgg128
  z46 := Tryz.sizeOf128
  v46 := Tryz.zeroValue128
  t53 := Tryz.underlying145
  a53 := Tryz.isAgg145
  z53 := Tryz.sizeOf145
  v53 := Tryz.zeroValue145 }
open Go.RowKit Go.Lib in
theorem Tryz.bits_Mul64 (x y : Nat) (hx : x < 18446744073709551616) (hy : y < 18446744073709551616) (w : World) :
    Calls Tryz.prog 160 #[.int .u64 x, .int .u64 y] w fun e w' => e = .returned (.tuple #[.int .u64 ((x * y / 18446744073709551616 : Nat) : Int), .int .u64 ((x * y % 18446744073709551616 : Nat) : Int)]) ∧ w' = w := Any.bits_Mul64 Tryz.lays264 x y hx hy w
def Tryz.lays212_ren : Go.Shelf.Ren := ⟨fun | 212 => 140 | 263 => 159 | 264 => 160 | n => n, fun | 46 => 128 | 51 => 185 | 146 => 186 | 53 => 145 | 148 => 188 | n => n, fun | n => n⟩
theorem Tryz.lays212 : Go.Proofs.Lays.n212 Tryz.prog Tryz.lays212_ren := {
  mixed := by kernel_rfl
  f212 := Tryz.func140.trans (congrArg some (by kernel_rfl))
  f263 := Tryz.func159.trans (congrArg some (by kernel_rfl))
  f264 := Tryz.func160.trans (congrArg some (by kernel_rfl))
  t46 := Tryz.underlying128
  a46 := Tryz.isAgg128
  z46 := Tryz.sizeOf128
  v46 := Tryz.zeroValue128
  t51 := Tryz.underlying185
  a51 := Tryz.isAgg185
  z51 := Tryz.sizeOf185
  v51 := Tryz.zeroValue185
  t53 := Tryz.underlying145
  a53 := Tryz.isAgg145
  z53 := Tryz.sizeOf145
  v53 := Tryz.zeroValue145
  t146 := Tryz.underlying186
  a146 := Tryz.isAgg186
  z146 := Tryz.sizeOf186
  v146 := Tryz.zeroValue186
  t148 := Tryz.underlying188
  a148 := Tryz.isAgg188
  z148 := Tryz.sizeOf188
  v148 := Tryz.zeroValue188 }
open Go.RowKit Go.Lib in
/-- math/bits.Mul: "Mul returns the full-width product of x and y": on a machine of 64 bits: Mul64's. (LAID: no walk: one application.) -/
theorem Tryz.bits_Mul (x y : Nat) (hx : x < 18446744073709551616) (hy : y < 18446744073709551616) (w : World) :
    Calls Tryz.prog 140 #[.int .u64 x, .int .u64 y] w fun e w' => e = .returned (.tuple #[.int .u64 ((x * y / 18446744073709551616 : Nat) : Int), .int .u64 ((x * y % 18446744073709551616 : Nat) : Int)]) ∧ w' = w := Any.bits_Mul Tryz.lays212 x y hx hy w
def Tryz.laysSlK4_ren : Go.Shelf.Ren := ⟨fun | 4 => 152 | n => n, fun | 22 => 27 | 4 => 4 | 5 => 5 | n => n, fun | n => n⟩
theorem Tryz.laysSlK4 : Go.Proofs.SlLaysK.n4 Tryz.prog Tryz.laysSlK4_ren := {
  mixed := by kernel_rfl
  f4 := Tryz.func152.trans (congrArg some (by kernel_rfl))
  t4 := Tryz.underlying4
  a4 := Tryz.isAgg4
  z4 := Tryz.sizeOf4
  v4 := Tryz.zeroValue4
  t22 := Tryz.underlying27
  a22 := Tryz.isAgg27
  z22 := Tryz.sizeOf27
  v22 := Tryz.zeroValue27
  t5 := Tryz.underlying5
  i5 := by kernel_rfl }
open Go.RowKit Go.Lib in
/-- bytes.Clone: "Clone returns a copy of b[:len(b)]. The result may have additional unused capacity.": OF A SLICE THAT IS NOT nil IT RETURNS A SLICE THAT IS NOT nil, OF THE SAME BYTES, IN MEMORY OF THE CALL's OWN: in the how-to's words (6f): 'w'.ownsRow B e 1 v' n cells' · 'Below B w w'', B the heap's size at the call. b AT WHATEVER ADDRESS, its cells as 'open_ints' hands them ('a.add i'; the numbers 'xs'). No byte: no cell is asked for. (LAID: no walk: one application.) -/
theorem Tryz.bytes_Clone_at (a : Addr) (n c : Nat) (xs : List Int) (w : World) (hx : xs.length = n) (hbig : n ≤ 140737488355328) (hc : ∀ i, i < n → w.cell? (a.add i) = some (.int .u8 (xs.getD i 0))) :
    Calls Tryz.prog 152 #[.slice (some a) n c] w fun e w' => ∃ v', e = .returned v' ∧ w'.ownsRow w.heap.size 5 1 v' n (xs.map (Value.int .u8)) ∧ v' ≠ .slice none 0 0 ∧ Below w.heap.size w w' := Any.bytes_Clone_at Tryz.laysSlK4 a n c xs w hx hbig hc
open Go.RowKit Go.Lib in
/-- "Clone(nil) returns nil.": the world is as it was. (LAID: no walk: one application.) -/
theorem Tryz.bytes_Clone_nil (n c : Nat) (w : World) :
    Calls Tryz.prog 152 #[.slice none n c] w fun e w' => e = .returned (.slice none 0 0) ∧ w' = w := Any.bytes_Clone_nil Tryz.laysSlK4 n c w
end Go.Proofs
namespace Go.Proofs.YtibihjcpkdfgeaaGreatDoor
open Go.ChangeShapes Go.WideShapes Go.ChangeAt Go.RowKit

theorem sizeB : (Tryz.prog.info? 204).map (·.size) = some 2 := by kernel_rfl
theorem liesB : liesAt Tryz.prog Tryz.prog.depth 204 (2 / Tryz.prog.cellsOf 204) 0 204 1 = true := by kernel_rfl

set_option maxHeartbeats 1000000 in
set_option maxRecDepth 100000 in
theorem copyCheck_used (b : Nat) (v : Value) (w : World) (h : w.heap[b]? = some (.cells #[.pointer (some ⟨b, 0, none⟩), v] 204 (0, 0))) :
    Calls Tryz.prog 181 #[.pointer (some ⟨b, 0, none⟩)] w fun e w' => e = .returned (.tuple #[]) ∧ w = w' := by
  obtain ⟨j, hj, _⟩ := Option.map_eq_some_iff.1 sizeB
  have c0 : w.cell? ⟨b, 0, none⟩ = some (.pointer (some ⟨b, 0, none⟩)) := Lib.cell_of_heap h 0
  clear h
  go_enter Tryz.func181, Tryz.ntmps181
  go_wp2
  rw [Lib.run_neq_ptr_same w _ Tryz.underlying202 hj]
  go_wp2
  go_end0
  exact ⟨rfl, rfl⟩
set_option maxHeartbeats 1000000 in
set_option maxRecDepth 100000 in
theorem copyCheck_fresh (b : Nat) (v : Value) (w : World) (h : w.heap[b]? = some (.cells #[.pointer none, v] 204 (0, 0))) :
    Calls Tryz.prog 181 #[.pointer (some ⟨b, 0, none⟩)] w fun e w' => e = .returned (.tuple #[]) ∧ w' = w.setCell ⟨b, 0, none⟩ (.pointer (some ⟨b, 0, none⟩)) := by
  obtain ⟨j, hj, hjs⟩ := Option.map_eq_some_iff.1 sizeB
  have hsh : w.shape? b = some (204, 2) := by simp [World.shape?, h]
  have c0 : w.cell? ⟨b, 0, none⟩ = some (.pointer none) := Lib.cell_of_heap h 0
  have f0 : w.frozen? ⟨b, 0, none⟩ = false := Lib.frozen_of_heap h 0
  clear h
  go_enter Tryz.func181, Tryz.ntmps181
  go_wp2
  rw [Lib.run_to_unsafe w ⟨b, 0, none⟩ Tryz.underlying202 Tryz.underlying214 hj (by rw [hjs]; decide) hsh (Nat.zero_lt_succ 1)]
  simp only [Result.andThen]
  rw [Oper.upon_value]
  go_wp2
  rw [run_callFunc_extern Tryz.func184 (by kernel_rfl) (by kernel_rfl) (by kernel_rfl) (e := Extern.AbiNoEscape.same) (by kernel_rfl)]
  rw [Lib.run_noEscape]
  simp only [Result.andThen]
  rw [Oper.upon_value]
  go_wp2
  rw [Lib.run_from_unsafe w ⟨b, 0, none⟩ Tryz.underlying214 Tryz.underlying202 hj hsh liesB]
  simp only [Result.andThen]
  rw [Oper.upon_value]
  go_wp2
  go_end0
  exact ⟨rfl, rfl⟩

/-- copyCheck, of a Builder that the call has made. -/
theorem copyCheck_any (B b : Nat) (bs : List Value) (w : World) (h : Lib.IsBuilder 204 5 B b bs w) :
    Calls Tryz.prog 181 #[.pointer (some ⟨b, 0, none⟩)] w fun e w' => e = .returned (.tuple #[]) ∧ Lib.BuilderAt 204 5 B b (.pointer (some ⟨b, 0, none⟩)) bs w' ∧ Below B w w' := by
  rcases h with h | h
  · obtain ⟨hB, v, hb, _⟩ := id h
    refine (copyCheck_fresh b v w hb).mono ?_
    rintro e w' ⟨rfl, rfl⟩
    exact ⟨rfl, h.used _, (Below.refl B w).setCell (p := ⟨b, 0, none⟩) hB _⟩
  · obtain ⟨hB, v, hb, _⟩ := id h
    refine (copyCheck_used b v w hb).mono ?_
    rintro e w' ⟨rfl, rfl⟩
    exact ⟨rfl, h, Below.refl B _⟩

theorem own_shape {w : World} {B : Nat} {e : TypeId} {s n : Nat} {v : Value} {xs : List Value} (h : w.ownsRow B e s v n xs) : ∃ A c, v = .slice A n c := by
  rcases h.2 with ⟨rfl, h0⟩ | ⟨g, cap, cur, rfl, _⟩
  · rw [h0]; exact ⟨_, _, rfl⟩
  · exact ⟨_, _, rfl⟩

set_option maxRecDepth 100000 in
set_option maxHeartbeats 800000 in
theorem writeRune_at (B b : Nat) (bs : List Value) (r : Int) (hr0 : -2147483648 ≤ r) (hr1 : r ≤ 2147483647) (w : World) (h : Lib.IsBuilder 204 5 B b bs w) (hlen : bs.length + 4 ≤ 1099511627776) (hBw : B ≤ w.heap.size) :
    Calls Tryz.prog 176 #[.pointer (some ⟨b, 0, none⟩), .int .i32 r] w fun e w' => e = .returned (.tuple #[.int .i64 (Lib.runeCells r).length, .nilIface]) ∧ Lib.IsBuilder 204 5 B b (bs ++ Lib.runeCells r) w' ∧ Below B w w' := by
  have C := copyCheck_any B b bs w h
  have CH := Lib.hid C
  have hrl := Lib.runeCells_le r
  clear C h
  go_enter Tryz.func176, Tryz.ntmps176
  go_wp2_with fail
  refine CH.out.mono ?_
  rintro e w1 ⟨rfl, ⟨hB, v, hb, hown, hvb⟩, hbl⟩
  obtain ⟨A, c, rfl⟩ := own_shape hown
  have c1 : w1.cell? ⟨b, 1, none⟩ = some (.slice A bs.length c) := Lib.cell_of_heap hb 1
  have hB1 : B ≤ w1.heap.size := Nat.le_trans hBw hbl.size
  have HB := Lib.hid hb
  have HV := Lib.hid hvb
  clear hb hvb
  go_wp2_with fail
  refine (Tryz.utf8_AppendRune_plain B _ bs.length bs r hr0 hr1 w1 hown (by omega) hB1).mono ?_
  rintro e w2 ⟨v', rfl, hown2, o, hg⟩
  obtain ⟨A', c', rfl⟩ := own_shape hown2
  have hlt : b < w1.heap.size := (Array.getElem?_eq_some_iff.1 HB.out).1
  have hb2 : w2.heap[b]? = some (.cells #[.pointer (some ⟨b, 0, none⟩), .slice A bs.length c] 204 (0, 0)) := by
    rw [hg.block b (by simp; omega) (fun e => HV.out e.symm), Below.heap_alloc _ _ _ hlt]; exact HB.out
  have hbl2 : Below B w w2 := (hbl.alloc hB1 o).grown hg (by simp; omega) (fun k hk => (World.ownsRow.lt hown k hk).1)
  have c2 : w2.cell? ⟨b, 1, none⟩ = some (.slice A bs.length c) := Lib.cell_of_heap hb2 1
  have f2 : w2.frozen? ⟨b, 1, none⟩ = false := Lib.frozen_of_heap hb2 1
  have HB2 := Lib.hid hb2
  clear hb2 hg hown
  go_wp2_with fail
  go_ret2
  refine ⟨?_, .inr ?_, hbl2.setCell (p := ⟨b, 1, none⟩) hB _⟩
  · have e : ((bs.length : Int) + ((Lib.runeCells r).length : Int) - (bs.length : Int)) = ((Lib.runeCells r).length : Int) := by omega
    exact congrArg (fun z => Ending.returned (.tuple #[.int .i64 z, .nilIface])) e
  · exact Lib.BuilderAt.put hB HB2.out (by simpa using hown2) (by decide)

theorem builder_below {T e : TypeId} {B b : Nat} {bs : List Value} {w w' : World} (h : Lib.IsBuilder T e B b bs w) (hb : Below w.heap.size w w') : Lib.IsBuilder T e B b bs w' := by
  have hg : w.grownBy w' none := ⟨hb.os, hb.tape, hb.output, hb.size, fun k hk _ => hb.block k hk⟩
  have key : ∀ p, Lib.BuilderAt T e B b p bs w → Lib.BuilderAt T e B b p bs w' := by
    rintro p ⟨h1, v, h2, h3, h4⟩
    exact ⟨h1, v, (hb.block b (Array.getElem?_eq_some_iff.1 h2).1).trans h2, h3.kept hg (by cases hv : v.ownBlock <;> simp), h4⟩
  exact h.imp (key _) (key _)
end Go.Proofs.YtibihjcpkdfgeaaGreatDoor
namespace Go.Proofs.YtibihjcpkdfgeaaGreatDoor
open Go.ChangeShapes Go.WideShapes Go.ChangeAt Go.RowKit

/-- The bytes of a list of cells. -/
def textL (l : List (Int × Int × Int)) : List UInt8 := l.flatMap fun c => if hasB c.1 c.2.1 c.2.2 then Lib.encodeRune c.1 else []
theorem textL_append (l m : List (Int × Int × Int)) : textL (l ++ m) = textL l ++ textL m := by simp [textL]
theorem textL_one (c : Int × Int × Int) : textL [c] = if hasB c.1 c.2.1 c.2.2 then Lib.encodeRune c.1 else [] := by simp [textL]
theorem encodeRune_length (r : Int) : (Lib.encodeRune r).length ≤ 4 := by
  have := (Lib.encodeRuneZ_length r).2
  simpa [Lib.encodeRune] using this
theorem textL_length (l : List (Int × Int × Int)) : (textL l).length ≤ 4 * l.length := by
  induction l with
  | nil => simp [textL]
  | cons c l ih =>
    have e : textL (c :: l) = textL [c] ++ textL l := textL_append [c] l
    rw [e, List.length_append, List.length_cons, textL_one]
    have := encodeRune_length c.1
    split
    · omega
    · simp; omega
/-- Each sign is an int32. -/
def Signs (l : List (Int × Int × Int)) : Prop := ∀ c ∈ l, -2147483648 ≤ c.1 ∧ c.1 ≤ 2147483647
theorem take_one {α : Type} {l : List α} {k : Nat} {c : α} (h : l[k]? = some c) : l.take (k + 1) = l.take k ++ [c] := by
  obtain ⟨hk, rfl⟩ := List.getElem?_eq_some_iff.1 h
  exact List.take_succ_eq_append_getElem hk

/-- What holds at each round of Text. -/
def TextAt (l : List (Int × Int × Int)) (n : Nat) (w : World) (k : Nat) (wr : World) : Prop := k ≤ n ∧ Lib.IsBuilder 204 5 w.heap.size w.heap.size (Lib.byteCells (textL (l.take k))) wr ∧ Below w.heap.size w wr

set_option maxRecDepth 100000 in
set_option maxHeartbeats 1600000 in
theorem cellText_walk (A : Option Addr) (n c : Nat) (l : List (Int × Int × Int)) (w : World) (hn : n ≤ 1073741824) (hl : Signs l) (hq : Sq w w.heap.size 3 n A (flat l)) :
    Calls Tryz.prog 170 #[.slice A n c] w fun e w' => e = .returned (.string ⟨(textL l).toArray⟩) ∧ Below w.heap.size w w' := by
  have hln : l.length = n := by have := hq.len; rw [flat_length] at this; omega
  have LN := Lib.hid hln
  clear hln
  go_enter Tryz.func170, Tryz.ntmps170
  go_wp2
  go_loopw [8] (fun i wr => ∃ k : Nat, i = .int .i64 k ∧ TextAt l n w k wr) (fun i _ => n - (intOf i).toNat)
  case atStart => exact ⟨0, rfl, Nat.zero_le _, Lib.fresh_isBuilder _ _ w, (Below.refl _ _).alloc (Nat.le_refl _) _⟩
  case round =>
    obtain ⟨k, rfl, hat⟩ := hrel
    have hbelow := hat.2.2
    have hbuild := hat.2.1
    have hsz : w.heap.size ≤ wr.heap.size := hbelow.size
    by_cases hlt : k < n
    · obtain ⟨b, off, rfl, hb, ⟨r, m, a⟩, hcc, q0, q1, q2⟩ := (hq.below hbelow).three hlt
      have hcl := hl _ (List.mem_of_getElem? hcc)
      have hlen : (Lib.byteCells (textL (l.take k))).length + 4 ≤ 1099511627776 := by
        rw [Lib.byteCells_length]
        have h1 := textL_length (l.take k)
        have h2 := List.length_take_le k l
        omega
      have HC := Lib.hid hcc
      have BL := Lib.hid hbelow
      have BU := Lib.hid hbuild
      have Q := Lib.hid hq
      have HL := Lib.hid hlen
      have hk := hat.1
      clear hat hcc hbelow hbuild hq hl hlen
      obtain ⟨B, hB⟩ : ∃ B, hasB r m a = B := ⟨_, rfl⟩
      have SG := fun w => hasSign_walk r m a w
      rw [hB] at SG
      have SGH := Lib.hid SG
      have HBB := Lib.hid hB
      clear SG hB
      cases B
      · go_wp2_with (go_at_call 175; refine (SGH.out _).mono ?_; rintro e w2 ⟨rfl, hb2⟩)
        go_roundw
        case rel =>
          refine ⟨k + 1, by go_num, by omega, ?_, ?_⟩
          · rw [take_one HC.out, textL_append, textL_one]
            simp only [HBB.out]
            simpa using builder_below (builder_below BU.out ((Below.refl _ _).alloc (Nat.le_refl _) _)) hb2
          · exact (BL.out.alloc hsz _).trans (hb2.mono (by simp; omega))
        case measure => simp [intOf]; omega
      · go_wp2_with (go_at_call 175; refine (SGH.out _).mono ?_; rintro e w2 ⟨rfl, hb2⟩; have k0 : w2.cell? ⟨wr.heap.size, 0, none⟩ = some (.int .i32 r) := (hb2.cell (p := ⟨wr.heap.size, 0, none⟩) (by simp)).trans (by simp); have hs2 : w.heap.size ≤ w2.heap.size := by have := hb2.size; simp at this; omega)
        have I2 := builder_below (builder_below BU.out ((Below.refl _ _).alloc (Nat.le_refl _) _)) hb2
        refine (writeRune_at _ _ _ r hcl.1 hcl.2 w2 I2 HL.out hs2).mono ?_
        rintro e w3 ⟨rfl, I3, hb3⟩
        have I3H := Lib.hid I3
        clear I2 I3
        go_wp2
        go_roundw
        case rel =>
          refine ⟨k + 1, by go_num, by omega, ?_, ?_⟩
          · rw [take_one HC.out, textL_append, textL_one]
            simp only [HBB.out, if_true]
            rw [Lib.byteCells_append, Lib.byteCells_encodeRune]
            exact I3H.out
          · exact ((BL.out.alloc hsz _).trans (hb2.mono (by simp; omega))).trans hb3
        case measure => simp [intOf]; omega
    · have hk : k = n := by have := hat.1; omega
      have E := take_all l (k := k) (by have := LN.out; omega)
      rw [E] at hbuild
      have BU := Lib.hid hbuild
      have BL := Lib.hid hbelow
      clear hat hbuild hbelow hq hl E hk
      go_wp2_with (go_at_call 177; refine (Tryz.Builder_String_any _ _ _ _ BU.out (by omega)).mono ?_; rintro e w2 ⟨rfl, hb2⟩)
      go_ret
      exact ⟨rfl, BL.out.trans hb2⟩

set_option maxRecDepth 100000 in
set_option maxHeartbeats 1600000 in
theorem line_good (A : Option Addr) (n c : Nat) (l : List (Int × Int × Int)) (w : World) (hs : Spans w) (hn : n ≤ 1073741824) (hl : ∀ c ∈ l, Good c) (hq : Sq w w.heap.size 3 n A (flat l)) :
    Calls Tryz.prog 171 #[.slice A n c] w fun e w' => e = .returned (.bool true) ∧ Below w.heap.size w w' := by
  go_enter Tryz.func171, Tryz.ntmps171
  go_wp2
  go_loopw [7] (fun i wr => ∃ k : Nat, i = .int .i64 k ∧ k ≤ n ∧ Below w.heap.size w wr) (fun i _ => n - (intOf i).toNat)
  case atStart => exact ⟨0, rfl, Nat.zero_le _, Below.refl _ _⟩
  case round =>
    obtain ⟨k, rfl, hk, hbelow⟩ := hrel
    have hsz : w.heap.size ≤ wr.heap.size := hbelow.size
    by_cases hlt : k < n
    · obtain ⟨b, off, rfl, hb, ⟨r, m, a⟩, hcc, q0, q1, q2⟩ := (hq.below hbelow).three hlt
      have hg := hl _ (List.mem_of_getElem? hcc)
      have SG := fun w => hasSign_walk r m a w
      rw [hg.has] at SG
      have MG := fun w hs => may_sign r m a hg.attr.1 hg.attr.2 hg.sign.1 hg.sign.2 hg.wide hg.two w hs
      have SGH := Lib.hid SG
      have MGH := Lib.hid MG
      have BL := Lib.hid hbelow
      have Q := Lib.hid hq
      have SPH := Lib.hid (fun w' (hb : Below w.heap.size w w') => hs.below hb hs.size)
      clear SG MG hg hcc hbelow hq hl hs
      go_wp2_with (go_at_call 175; refine (SGH.out _).mono ?_; rintro e w2 ⟨rfl, hb2⟩; have k0 : w2.cell? ⟨wr.heap.size, 0, none⟩ = some (.int .i32 r) := (hb2.cell (p := ⟨wr.heap.size, 0, none⟩) (by simp)).trans (by simp); have k1 : w2.cell? ⟨wr.heap.size, 1, none⟩ = some (.int .i64 m) := (hb2.cell (p := ⟨wr.heap.size, 1, none⟩) (by simp)).trans (by simp); have k2 : w2.cell? ⟨wr.heap.size, 2, none⟩ = some (.int .i64 a) := (hb2.cell (p := ⟨wr.heap.size, 2, none⟩) (by simp)).trans (by simp))
      have B2 : Below w.heap.size w w2 := (BL.out.alloc hsz _).trans (hb2.mono (by simp; omega))
      refine (MGH.out w2 (SPH.out _ B2)).mono ?_
      rintro e w3 ⟨rfl, hb3⟩
      have B3 := Lib.hid (B2.trans (hb3.mono B2.size))
      clear B2
      go_wp2
      go_roundw
      case rel => exact ⟨k + 1, by go_num, by omega, B3.out⟩
      case measure => simp [intOf]; omega
    · clear hq hl hs
      go_wp2
      go_ret
      exact ⟨rfl, hbelow⟩
end Go.Proofs.YtibihjcpkdfgeaaGreatDoor
namespace Go.Proofs.YtibihjcpkdfgeaaGreatDoor
open Go.ChangeShapes Go.WideShapes Go.ChangeAt Go.RowKit

def blankC (c : Int × Int × Int) : Bool := isB 32 c.1 c.2.1 c.2.2
/-- How many of the first k cells stay. -/
def trimN (l : List (Int × Int × Int)) : Nat → Nat
  | 0 => 0
  | k + 1 => if (l[k]?.elim false blankC) then trimN l k else k + 1
theorem trimN_le (l : List (Int × Int × Int)) : ∀ k, trimN l k ≤ k
  | 0 => Nat.le_refl _
  | k + 1 => by
    have := trimN_le l k
    unfold trimN
    split <;> omega
theorem trimN_yes {l : List (Int × Int × Int)} {k : Nat} {c : Int × Int × Int} (h : l[k]? = some c) (hb : blankC c = true) : trimN l (k + 1) = trimN l k := by simp [trimN, h, hb]
theorem trimN_no {l : List (Int × Int × Int)} {k : Nat} {c : Int × Int × Int} (h : l[k]? = some c) (hb : blankC c = false) : trimN l (k + 1) = k + 1 := by simp [trimN, h, hb]
def trimL (l : List (Int × Int × Int)) : List (Int × Int × Int) := l.take (trimN l l.length)
def TrimPost (l : List (Int × Int × Int)) (w : World) (e : Ending) (w' : World) : Prop := ∃ v, e = .returned v ∧ HasC w' w.heap.size v (trimL l) ∧ Below w.heap.size w w'

theorem infoCell : (Tryz.prog.info? 67).map (fun i => (i.zero, i.size, i.bytes)) = some (some (.agg #[.int .i32 0, .int .i64 0, .int .i64 0]), 3, 24) := by kernel_rfl
theorem add_at (b off j : Nat) : (⟨b, off, none⟩ : Addr).add j = ⟨b, off + j, none⟩ := by unfold Addr.add; split <;> simp_all
theorem flat_take (l : List (Int × Int × Int)) (k : Nat) : flat (l.take k) = (flat l).take (k * 3) := by
  induction l generalizing k with
  | nil => simp [flat]
  | cons c l ih =>
    cases k with
    | zero => simp [flat]
    | succ k =>
      have e : (k + 1) * 3 = k * 3 + 1 + 1 + 1 := by omega
      rw [e]
      simp [flat, ih]
theorem flat_one (l : List (Int × Int × Int)) : ∀ u ∈ flat l, u.oneCell' = true := by
  induction l with
  | nil => intro u hu; simp [flat] at hu
  | cons c l ih =>
    intro u hu
    simp only [flat, List.mem_cons] at hu
    rcases hu with rfl | rfl | rfl | hu
    · rfl
    · rfl
    · rfl
    · exact ih u hu

theorem sq_news {w w2 : World} {B n k b off : Nat} {l : List (Int × Int × Int)} (hq : Sq w B 3 n (some ⟨b, off, none⟩) (flat l)) (hb : Below B w w2) (hk : 0 < n) : ∀ j u, (flat (l.take k))[j]? = some u → w2.cell? ((⟨b, off, none⟩ : Addr).add j) = some u := by
  intro j u hu
  obtain ⟨b', off', e, hB, hc⟩ := (hq.below hb).spot hk
  injection e with e
  injection e with e1 e2 e3
  subst e1 e2
  rw [add_at]
  refine hc j u ?_
  rw [flat_take, List.getElem?_take] at hu
  split at hu
  · exact hu
  · cases hu
theorem fit24 {n : Nat} (h : n ≤ 1073741824) : 0 + n ≤ maxLen ∧ (0 + n) * 24 ≤ 140737488355328 := by unfold maxLen; omega
theorem flat_take_len {l : List (Int × Int × Int)} {k : Nat} (h : k ≤ l.length) : (flat (l.take k)).length = k * 3 := by rw [flat_length, List.length_take]; omega

set_option maxRecDepth 100000 in
set_option maxHeartbeats 1600000 in
theorem trim_walk (A : Option Addr) (n c : Nat) (hc : n ≤ c) (l : List (Int × Int × Int)) (w : World) (hn : n ≤ 1073741824) (hq : Sq w w.heap.size 3 n A (flat l)) :
    Calls Tryz.prog 83 #[.slice A n c] w fun e w' => TrimPost l w e w' := by
  obtain ⟨i0, hi, hz0, hz1, hz2⟩ := info_parts infoCell
  have hln : l.length = n := by have := hq.len; rw [flat_length] at this; omega
  have LN := Lib.hid hln
  clear hln
  go_enter Tryz.func83, Tryz.ntmps83
  go_wp2
  go_loopw [3] (fun i wr => ∃ k : Nat, i = .int .i64 k ∧ k ≤ n ∧ trimN l k = trimN l n ∧ Below w.heap.size w wr) (fun i _ => (intOf i).toNat)
  case atStart => exact ⟨n, rfl, Nat.le_refl _, rfl, Below.refl _ _⟩
  case round =>
    obtain ⟨k, rfl, hk, ht, hbelow⟩ := hrel
    have hsz : w.heap.size ≤ wr.heap.size := hbelow.size
    rcases Nat.eq_zero_or_pos k with rfl | hp
    · have e0 : trimL l = [] := by unfold trimL; rw [LN.out, ← ht]; simp [trimN]
      have E0 := Lib.hid e0
      have BL := Lib.hid hbelow
      clear hq hbelow ht e0
      rcases A with _ | ⟨b, off, o⟩
      · go_wp2
        go_ret
        exact ⟨_, rfl, by rw [E0.out]; exact World.ownsRow_nil _ _ _ _, BL.out⟩
      · go_wp2_with (at_builtin; refine wpList_append_own _ rfl _ _ 51 rfl w.heap.size 67 i0 (.agg #[.int .i32 0, .int .i64 0, .int .i64 0]) 3 24 Tryz.underlying51 hi hz0 hz1 hz2 rfl (by decide) (.slice none 0 0) 0 [] rfl (World.ownsRow_nil _ _ _ _) ⟨b, off, o⟩ 0 c [] rfl rfl (by simp) (by simp) (by decide) (by decide) hsz ?_; intro v' w3 hown hg _)
        go_wp2
        go_ret
        exact ⟨_, rfl, by rw [E0.out]; exact hown, BL.out.grown hg hsz (by simp [Value.ownBlock])⟩
    · obtain ⟨j, rfl⟩ : ∃ j, k = j + 1 := ⟨k - 1, by omega⟩
      obtain ⟨b, off, rfl, hb, ⟨r, m, a⟩, hcc, q0, q1, q2⟩ := (hq.below hbelow).three (show j < n by omega)
      obtain ⟨B, hB⟩ : ∃ B, isB 32 r m a = B := ⟨_, rfl⟩
      have SG := fun w => isBlank_walk r m a w
      rw [hB] at SG
      have SGH := Lib.hid SG
      have HBB := Lib.hid hB
      have HC := Lib.hid hcc
      have HT := Lib.hid ht
      have BL := Lib.hid hbelow
      have Q := Lib.hid hq
      clear SG hB hcc ht hbelow hq
      cases B
      · go_wp2_with (first | (go_at_call 108; refine (SGH.out _).mono ?_; rintro e w2 ⟨rfl, hb2⟩) | (at_builtin; refine wpList_append_own _ rfl _ _ 51 rfl w.heap.size 67 i0 (.agg #[.int .i32 0, .int .i64 0, .int .i64 0]) 3 24 Tryz.underlying51 hi hz0 hz1 hz2 rfl (by decide) (.slice none 0 0) 0 [] rfl (World.ownsRow_nil _ _ _ _) ⟨b, off, none⟩ (j + 1) c (flat (l.take (j + 1))) rfl (flat_take_len (by have := LN.out; omega)) (by exact sq_news Q.out (BL.out.trans (hb2.mono hsz)) (by omega)) (flat_one _) (fit24 (by omega)).1 (fit24 (by omega)).2 (Nat.le_trans hsz hb2.size) ?_; intro v' w3 hown hg _))
        go_wp2
        go_ret
        have e : trimL l = l.take (j + 1) := by unfold trimL; rw [LN.out, ← HT.out, trimN_no HC.out HBB.out]
        have h : (l.take (j + 1)).length = 0 + (j + 1) := by rw [List.length_take]; have := LN.out; omega
        refine ⟨_, rfl, ?_, (BL.out.trans (hb2.mono hsz)).grown hg (Nat.le_trans hsz hb2.size) (by simp [Value.ownBlock])⟩
        rw [e]
        unfold HasC
        rw [h]
        exact hown
      · go_wp2_with (go_at_call 108; refine (SGH.out _).mono ?_; rintro e w2 ⟨rfl, hb2⟩)
        go_roundw
        case rel => exact ⟨j, by go_num, by omega, (trimN_yes HC.out HBB.out).symm.trans HT.out, BL.out.trans (hb2.mono hsz)⟩
        case measure => simp [intOf]

set_option maxRecDepth 100000 in
theorem write_walk (A : Option Addr) (n c : Nat) (l : List Int) (w : World) {B : Nat} (hq : Sq w B 1 n A (l.map (Value.int .i32))) :
    Calls Tryz.prog 169 #[.slice A n c] w fun e w' => e = .returned (.string (runesBytes l)) ∧ w = w' := by
  have hln := hq.size_ints
  have K : (convert 22 9 (.slice A n c)).run Tryz.prog w = .ok (.string (runesBytes l)) w := by
    rcases Nat.eq_zero_or_pos n with h0 | h0
    · subst h0
      have e : l = [] := List.eq_nil_of_length_eq_zero hln
      subst e
      rcases A with _ | ad
      · exact run_convert_runes_nil w 22 9 21 0 c Tryz.underlying22 Tryz.underlying21 Tryz.underlying9
      · exact run_convert_runes w 22 9 21 ad 0 c [] (Nat.le_refl _) Tryz.underlying22 Tryz.underlying21 Tryz.underlying9 (fun j hj => absurd hj (Nat.not_lt_zero j))
    · obtain ⟨b, off, rfl, _, hc⟩ := hq.spot h0
      have h := run_convert_runes w 22 9 21 ⟨b, off, none⟩ n c l (by omega) Tryz.underlying22 Tryz.underlying21 Tryz.underlying9 (fun j hj => by
        rw [add_at, hc j (.int .i32 (l.getD j 0)) (by simp [List.getD, hj])])
      rw [take_all l (by omega)] at h
      exact h
  clear hq hln
  go_enter Tryz.func169, Tryz.ntmps169
  go_wp2
  go_ret
  exact ⟨rfl, rfl⟩
end Go.Proofs.YtibihjcpkdfgeaaGreatDoor
namespace Go.Proofs.YtibihjcpkdfgeaaGreatDoor
open Go.ChangeShapes Go.WideShapes Go.ChangeAt Go.RowKit

def theL : List Int := [97, 65533, 20013]
def theC : List (Int × Int × Int) := [(20013, 2, 3), (0, 0, 3)]
/-- What memory holds while begun goes on. -/
structure Beg (N gb gl gc : Nat) (w : World) : Prop where
  sp : Spans w
  rd : Rd w N st0
  b0 : w.cell? ⟨gb, 0, none⟩ = some (.int .i32 233)
  l : ∀ j u, (theL.map (Value.int .i32))[j]? = some u → w.cell? ⟨gl, j, none⟩ = some u
  c : ∀ j u, (flat theC)[j]? = some u → w.cell? ⟨gc, j, none⟩ = some u
  gb : gb < w.heap.size
  gl : gl < w.heap.size
  gc : gc < w.heap.size
theorem Beg.below {N gb gl gc : Nat} {w w' : World} (h : Beg N gb gl gc w) (hb : Below w.heap.size w w') : Beg N gb gl gc w' :=
  ⟨h.sp.below hb h.sp.size, ⟨(hb.block N h.rd.lt).trans h.rd.row, h.rd.ok⟩, (hb.cell (p := ⟨gb, 0, none⟩) h.gb).trans h.b0, fun j u hu => (hb.cell (p := ⟨gl, j, none⟩) h.gl).trans (h.l j u hu),
    fun j u hu => (hb.cell (p := ⟨gc, j, none⟩) h.gc).trans (h.c j u hu), Nat.lt_of_lt_of_le h.gb hb.size, Nat.lt_of_lt_of_le h.gl hb.size, Nat.lt_of_lt_of_le h.gc hb.size⟩
theorem Beg.sqL {N gb gl gc : Nat} {w : World} (h : Beg N gb gl gc w) : Sq w w.heap.size 1 3 (some ⟨gl, 0, none⟩) (theL.map (Value.int .i32)) := ⟨rfl, fun _ => ⟨gl, 0, rfl, h.gl, fun j u hu => by rw [Nat.zero_add]; exact h.l j u hu⟩⟩
theorem Beg.sqC {N gb gl gc : Nat} {w : World} (h : Beg N gb gl gc w) : Sq w w.heap.size 3 2 (some ⟨gc, 0, none⟩) (flat theC) := ⟨rfl, fun _ => ⟨gc, 0, rfl, h.gc, fun j u hu => by rw [Nat.zero_add]; exact h.c j u hu⟩⟩
theorem Beg.sqC1 {N gb gl gc : Nat} {w : World} (h : Beg N gb gl gc w) : Sq w w.heap.size 3 1 (some ⟨gc, 0, none⟩) (flat [(20013, 2, 3)]) := ⟨rfl, fun _ => ⟨gc, 0, rfl, h.gc, fun j u hu => by
  rw [Nat.zero_add]
  refine h.c j u ?_
  match j, hu with
  | 0, hu => exact hu
  | 1, hu => exact hu
  | 2, hu => exact hu
  | j + 3, hu => simp [flat] at hu⟩⟩

theorem st_195 : stS st0 195 = ⟨3, 1, 1, 128, 191⟩ ∧ stO st0 195 = [] := by simp [stS, stO, goes, st0, begS, begO, fol, lead, brk]
theorem st_169 : stS ⟨3, 1, 1, 128, 191⟩ 169 = st0 ∧ stO ⟨3, 1, 1, 128, 191⟩ 169 = [233] := by simp [stS, stO, goes, onS, onO]
theorem theL_all : allO (octs ⟨#[97, 255, 228, 184, 173]⟩) = theL := by
  have e : octs ⟨#[97, 255, 228, 184, 173]⟩ = [97, 255, 228, 184, 173] := by decide
  rw [e]
  simp [allO, runO, runS, stS, stO, goes, st0, begS, begO, onS, onO, fol, lead, brk, theL]
theorem theL_write : runesBytes theL = ⟨#[97, 239, 191, 189, 228, 184, 173]⟩ := by decide +kernel
theorem theC_of : ofL 20013 3 = theC := by decide
theorem theC_text : textL theC = [228, 184, 173] := by decide +kernel
theorem wide_20013 : wof 20013 = 2 := by decide
theorem wide_97 : wof 97 = 1 := by decide
theorem wide_7 : wof 7 = 0 := by decide
theorem trim_two : trimL [(20013, 2, 3), (32, 1, 0)] = [(20013, 2, 3)] := by decide

theorem add_zero (p : Addr) : p.add 0 = p := by unfold Addr.add; split <;> simp_all
set_option maxRecDepth 100000 in
theorem slice_head (w : World) (gc cc : Nat) (h : 2 ≤ cc) : (Instr.sliceAt 51 (.slice (some ⟨gc, 0, none⟩) 2 cc) none (some (.int .i64 1)) none).run Tryz.prog w = .ok (.slice (some ⟨gc, 0, none⟩) 1 cc) w := by
  have h0 : (cc : Nat) ≠ 0 := by omega
  have h1 : (1 : Int) ≤ (cc : Int) := by omega
  have hz : (sizeOf (Tryz.prog.elem 51)).run Tryz.prog w = .ok 3 w := by kernel_rfl
  rw [run_sliceAt_slice _ _ _ _ _ _ Tryz.underlying51, run_slice_h _ _ _ _ _ Tryz.underlying51 _ _ (by omega) h1, hz]
  simp [Result.andThen, sliced, h0, add_zero]

theorem own_at {w : World} {base : Nat} {e : TypeId} {s n : Nat} {v : Value} {xs : List Value} (h : w.ownsRow base e s v n xs) (hn : 0 < n) : ∃ g c, v = .slice (some ⟨g, 0, none⟩) n c ∧ n ≤ c ∧ base ≤ g ∧ g < w.heap.size ∧ ∀ j u, xs[j]? = some u → w.cell? ⟨g, j, none⟩ = some u := by
  rcases h.2 with ⟨_, h0⟩ | ⟨g, cap, cur, rfl, hb, hg, hc, _, _, htake⟩
  · omega
  · refine ⟨g, cap, rfl, hc, hb, (Array.getElem?_eq_some_iff.1 hg).1, fun j u hu => ?_⟩
    rw [cell_of_row w g j cur e (0, 0) hg]
    rw [← htake, List.getElem?_take] at hu
    split at hu
    · simpa using hu
    · cases hu

theorem spans_drew {w : World} (h : Spans w) : Spans w.drew := ⟨h.size, h.first, h.last, h.wide⟩
theorem below_undrew {B : Nat} {w w' : World} (h : Below B w.drew w') : Below B w w' := ⟨h.os, h.tape, h.output, h.size, h.block⟩
/-- .. and all that was there before begun stands. -/
structure BB (w0 : World) (gb gl gc : Nat) (w : World) : Prop where
  beg : Beg w0.heap.size gb gl gc w
  old : Below w0.heap.size w0 w
namespace BB
variable {w0 : World} {gb gl gc : Nat} {w w' : World}
theorem step (h : BB w0 gb gl gc w) (hb : Below w.heap.size w w') : BB w0 gb gl gc w' := ⟨h.beg.below hb, h.old.trans (hb.mono h.old.size)⟩
theorem drew (h : BB w0 gb gl gc w) : BB w0 gb gl gc w.drew := ⟨⟨spans_drew h.beg.sp, ⟨h.beg.rd.row, h.beg.rd.ok⟩, h.beg.b0, h.beg.l, h.beg.c, h.beg.gb, h.beg.gl, h.beg.gc⟩, h.old.drew⟩
theorem waits (h : BB w0 gb gl gc w) : Calls Tryz.prog 168 #[.pointer (some ⟨w0.heap.size, 0, none⟩)] w fun e w' => e = .returned (.int .i64 0) ∧ w = w' := waits_any _ _ st0 h.beg.rd
theorem write (h : BB w0 gb gl gc w) (c : Nat) : Calls Tryz.prog 169 #[.slice (some ⟨gl, 0, none⟩) 3 c] w fun e w' => e = .returned (.string ⟨#[97, 239, 191, 189, 228, 184, 173]⟩) ∧ w = w' := by
  have k := write_walk (some ⟨gl, 0, none⟩) 3 c theL w h.beg.sqL
  rw [theL_write] at k
  exact k
theorem of2 (h : BB w0 gb gl gc w) : Calls Tryz.prog 109 #[.int .i32 20013] w fun e w' => e = .returned (.int .i64 2) ∧ w = w' := by
  have k := of_walk 20013 (by omega) (by omega) w h.beg.sp
  rw [wide_20013] at k
  exact k
theorem of1 (h : BB w0 gb gl gc w) : Calls Tryz.prog 109 #[.int .i32 97] w fun e w' => e = .returned (.int .i64 1) ∧ w = w' := by
  have k := of_walk 97 (by omega) (by omega) w h.beg.sp
  rw [wide_97] at k
  exact k
theorem of0 (h : BB w0 gb gl gc w) : Calls Tryz.prog 109 #[.int .i32 7] w fun e w' => e = .returned (.int .i64 0) ∧ w = w' := by
  have k := of_walk 7 (by omega) (by omega) w h.beg.sp
  rw [wide_7] at k
  exact k
theorem may (h : BB w0 gb gl gc w) : Calls Tryz.prog 103 #[cellV 0 0 3] w fun e w' => e = .returned (.bool true) ∧ BB w0 gb gl gc w' := (may_half 3 (by omega) (by omega) w).mono fun _ _ ⟨e, b⟩ => ⟨e, h.step b⟩
theorem blank (h : BB w0 gb gl gc w) : Calls Tryz.prog 102 #[] w fun e w' => e = .returned (cellV 32 1 0) ∧ BB w0 gb gl gc w' := (blank_walk w).mono fun _ _ ⟨e, b⟩ => ⟨e, h.step b⟩
theorem pad (h : BB w0 gb gl gc w) : Calls Tryz.prog 139 #[] w fun e w' => e = .returned (cellV 0 1 0) ∧ BB w0 gb gl gc w' := (pad_walk w).mono fun _ _ ⟨e, b⟩ => ⟨e, h.step b⟩
theorem isBlank (h : BB w0 gb gl gc w) : Calls Tryz.prog 108 #[cellV 32 1 0] w fun e w' => e = .returned (.bool true) ∧ BB w0 gb gl gc w' := (isBlank_walk 32 1 0 w).mono fun _ _ ⟨e, b⟩ => ⟨e, h.step b⟩
theorem isPad (h : BB w0 gb gl gc w) : Calls Tryz.prog 104 #[cellV 0 1 0] w fun e w' => e = .returned (.bool true) ∧ BB w0 gb gl gc w' := (isPad_walk 0 1 0 w).mono fun _ _ ⟨e, b⟩ => ⟨e, h.step b⟩
theorem text (h : BB w0 gb gl gc w) (c : Nat) : Calls Tryz.prog 170 #[.slice (some ⟨gc, 0, none⟩) 2 c] w fun e w' => e = .returned (.string ⟨#[228, 184, 173]⟩) ∧ BB w0 gb gl gc w' := by
  have k := cellText_walk (some ⟨gc, 0, none⟩) 2 c theC w (by omega) (by intro x hx; simp [theC] at hx; rcases hx with rfl | rfl <;> simp) h.beg.sqC
  rw [theC_text] at k
  exact k.mono fun _ _ ⟨e, b⟩ => ⟨e, h.step b⟩
theorem trim (h : BB w0 gb gl gc w) : Calls Tryz.prog 83 #[.slice (some ⟨w.heap.size, 0, none⟩) 2 2] (w.alloc (.cells #[.int .i32 20013, .int .i64 2, .int .i64 3, .int .i32 32, .int .i64 1, .int .i64 0] 67)) fun e w' => (∃ A c, e = .returned (.slice A 1 c)) ∧ BB w0 gb gl gc w' := by
  have ho := own_new w 67 3 2 #[.int .i32 20013, .int .i64 2, .int .i64 3, .int .i32 32, .int .i64 1, .int .i64 0] rfl (by omega)
  have hq : Sq (w.alloc (.cells #[.int .i32 20013, .int .i64 2, .int .i64 3, .int .i32 32, .int .i64 1, .int .i64 0] 67)) _ 3 2 (some ⟨w.heap.size, 0, none⟩) (flat [(20013, 2, 3), (32, 1, 0)]) := Sq.own ho
  have hb : Below w.heap.size w (w.alloc (.cells #[.int .i32 20013, .int .i64 2, .int .i64 3, .int .i32 32, .int .i64 1, .int .i64 0] 67)) := (Below.refl _ _).alloc (Nat.le_refl _) _
  refine (trim_walk _ 2 2 (Nat.le_refl _) [(20013, 2, 3), (32, 1, 0)] _ (by omega) hq).mono ?_
  rintro e w' ⟨v, rfl, hv, b⟩
  rw [trim_two] at hv
  obtain ⟨A, c, rfl⟩ := own_shape hv
  exact ⟨⟨A, c, rfl⟩, (h.step hb).step b⟩
theorem line (h : BB w0 gb gl gc w) (c : Nat) : Calls Tryz.prog 171 #[.slice (some ⟨gc, 0, none⟩) 1 c] w fun e w' => e = .returned (.bool true) ∧ BB w0 gb gl gc w' := by
  have k := line_good (some ⟨gc, 0, none⟩) 1 c [(20013, 2, 3)] w h.beg.sp (by omega) (by intro x hx; simp at hx; subst hx; exact ⟨by simp, wide_20013, .inr rfl, by simp⟩) h.beg.sqC1
  exact k.mono fun _ _ ⟨e, b⟩ => ⟨e, h.step b⟩
end BB

end Go.Proofs.YtibihjcpkdfgeaaGreatDoor
namespace Go.Proofs.YtibihjcpkdfgeaaGreatDoor
open Go.ChangeShapes Go.WideShapes Go.ChangeAt Go.RowKit

theorem add_spot (b off j : Nat) : (⟨b, off, none⟩ : Addr).add j = ⟨b, off + j, none⟩ := by unfold Addr.add; split <;> simp_all

theorem run_app_nil {P : Program} {w : World} {base : Nat} {t ty e : TypeId} {i : TypeInfo} {size : Nat} (ht : P.underlying t = some (.slice e)) (hi : P.info? e = some i) {v : Value} {n : Nat} {xs : List Value} (hown : w.ownsRow base e size v n xs) (c : Nat) :
    (Builtin.append_ #[t, t] ty #[v, .slice none 0 c]).run P w = .ok v w := by
  rcases hown.2 with ⟨rfl, rfl⟩ | ⟨g, cap, cur, rfl, _, _, hnc, _⟩
  · simp [Builtin.append_, run_underlying ht, sizeOf, typeInfo, hi, Builtin.lenOf, Builtin.firstCells]
  · simp [Builtin.append_, run_underlying ht, sizeOf, typeInfo, hi, Builtin.lenOf, Builtin.firstCells, hnc, storeCells]

/-- append, the source a slice that reads as a list. -/
theorem wpl_app {P : Program} {w : World} {ops : Array Oper} {rest : List Oper} {o : Oper} {a : Act} {Q : Exit → Act → World → Prop} (hgd : o.guard = none) (s x : Operand) (t : TypeId)
    (ho : o.op = .call { callee := .builtin .append, args := #[s, x], argTypes := #[t, t] })
    (base : Nat) (e : TypeId) (i : TypeInfo) (z : Value) (size bytes : Nat) (ht : P.underlying t = some (.slice e)) (hi : P.info? e = some i) (hz : i.zero = some z)
    (hsize : i.size = size) (hby : i.bytes = bytes) (hzs : z.cells.size = size) (hsz : 0 < size)
    (v : Value) (n : Nat) (xs : List Value) (hs : a.eval s = v) (hown : w.ownsRow base e size v n xs)
    (A : Option Addr) (m c : Nat) (news : List Value) (hx : a.eval x = .slice A m c) (B : Nat) (hq : Sq w B size m A news) (h1 : ∀ u ∈ news, u.oneCell' = true)
    (h63 : n + m ≤ maxLen) (hbytes : (n + m) * bytes ≤ 140737488355328) (hbase : base ≤ w.heap.size)
    (h : ∀ v' w', w'.ownsRow base e size v' (n + m) (xs ++ news) → w.grownBy w' v.ownBlock → (v'.ownBlock = v.ownBlock ∨ v'.ownBlock = some w.heap.size) → wpList P ops Q rest (a.put o.dst v') w') : wpList P ops Q (o :: rest) a w := by
  rcases A with _ | ad
  · have hm : m = 0 := by
      rcases Nat.eq_zero_or_pos m with h0 | h0
      · exact h0
      · obtain ⟨_, _, e, _⟩ := hq.spot h0
        cases e
    subst hm
    have hn : news = [] := List.eq_nil_of_length_eq_zero (by have := hq.len; omega)
    subst hn
    have hrun := run_app_nil (P := P) (ty := o.type) ht hi hown c
    refine wpList_plain hgd fun K hK => ?_
    unfold Oper.wp
    simp only [execOp, ho, resolve, invoke, builtin, Sem.run_bind, Sem.run_pure, Result.andThen_ok, List.map_toArray, List.map_cons, List.map_nil, hs, hx, hrun]
    exact hK _ _ (h v w (by simpa using hown) ⟨rfl, rfl, rfl, Nat.le_refl _, fun _ _ _ => rfl⟩ (.inl rfl))
  · refine wpList_append_own_at w hgd s x t ho base e i z size bytes ht hi hz hsize hby hzs hsz v n xs hs hown ad m c news hx hq.len ?_ h1 h63 hbytes hbase fun v' w' h2 h3 _ h5 => h v' w' h2 h3 h5
    intro j u hu
    have hj : 0 < m := by
      rcases Nat.eq_zero_or_pos m with h0 | h0
      · subst h0
        have hn : news = [] := List.eq_nil_of_length_eq_zero (by have := hq.len; omega)
        subst hn
        simp at hu
      · exact h0
    obtain ⟨b, off, e, _, hc⟩ := hq.spot hj
    injection e with e
    subst e
    rw [add_spot]
    exact hc j u hu

end Go.Proofs.YtibihjcpkdfgeaaGreatDoor
