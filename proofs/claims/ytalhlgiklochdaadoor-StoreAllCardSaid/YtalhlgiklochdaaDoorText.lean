/-
  cell.Text and cell.Line.
-/
import Derived.Test.YtalhlgiklochdaaDoorCellb
import Derived.Test.YtalhlgiklochdaaDoorBuild
namespace Go.Proofs.YtalhlgiklochdaaDoor
open Go.ChangeShapes Go.WideShapes Go.ChangeAt Go.RowKit

/-- The bytes of a list of cells. -/
def textL (l : List (Int × Int × Int)) : List UInt8 := l.flatMap fun c => if hasB c.1 c.2.1 c.2.2 then Lib.encodeRune c.1 else []
theorem textL_append (l m : List (Int × Int × Int)) : textL (l ++ m) = textL l ++ textL m := by simp [textL]
theorem textL_one (c : Int × Int × Int) : textL [c] = if hasB c.1 c.2.1 c.2.2 then Lib.encodeRune c.1 else [] := by simp [textL]
theorem encodeRune_length (r : Int) : (Lib.encodeRune r).length ≤ 4 := by
  have := (Lib.encodeRuneZ_length r).2
  simpa [Lib.encodeRune] using this
theorem textL_length (l : List (Int × Int × Int)) : (textL l).length ≤ 4 * l.length := by
  induction l with
  | nil => simp [textL]
  | cons c l ih =>
    have e : textL (c :: l) = textL [c] ++ textL l := textL_append [c] l
    rw [e, List.length_append, List.length_cons, textL_one]
    have := encodeRune_length c.1
    split
    · omega
    · simp; omega
/-- Each sign is an int32. -/
def Signs (l : List (Int × Int × Int)) : Prop := ∀ c ∈ l, -2147483648 ≤ c.1 ∧ c.1 ≤ 2147483647
theorem take_one {α : Type} {l : List α} {k : Nat} {c : α} (h : l[k]? = some c) : l.take (k + 1) = l.take k ++ [c] := by
  obtain ⟨hk, rfl⟩ := List.getElem?_eq_some_iff.1 h
  exact List.take_succ_eq_append_getElem hk

/-- What holds at each round of Text. -/
def TextAt (l : List (Int × Int × Int)) (n : Nat) (w : World) (k : Nat) (wr : World) : Prop := k ≤ n ∧ Lib.IsBuilder 123 5 w.heap.size w.heap.size (Lib.byteCells (textL (l.take k))) wr ∧ Below w.heap.size w wr

set_option maxRecDepth 100000 in
set_option maxHeartbeats 1600000 in
theorem cellText_walk (A : Option Addr) (n c : Nat) (l : List (Int × Int × Int)) (w : World) (hn : n ≤ 1073741824) (hl : Signs l) (hq : Sq w w.heap.size 3 n A (flat l)) :
    Calls Tryd.prog 82 #[.slice A n c] w fun e w' => e = .returned (.string ⟨(textL l).toArray⟩) ∧ Below w.heap.size w w' := by
  have hln : l.length = n := by have := hq.len; rw [flat_length] at this; omega
  have LN := Lib.hid hln
  clear hln
  go_enter Tryd.func82, Tryd.ntmps82
  go_wp2
  go_loopw [8] (fun i wr => ∃ k : Nat, i = .int .i64 k ∧ TextAt l n w k wr) (fun i _ => n - (intOf i).toNat)
  case atStart => exact ⟨0, rfl, Nat.zero_le _, Lib.fresh_isBuilder _ _ w, (Below.refl _ _).alloc (Nat.le_refl _) _⟩
  case round =>
    obtain ⟨k, rfl, hat⟩ := hrel
    have hbelow := hat.2.2
    have hbuild := hat.2.1
    have hsz : w.heap.size ≤ wr.heap.size := hbelow.size
    by_cases hlt : k < n
    · obtain ⟨b, off, rfl, hb, ⟨r, m, a⟩, hcc, q0, q1, q2⟩ := (hq.below hbelow).three hlt
      have hcl := hl _ (List.mem_of_getElem? hcc)
      have hlen : (Lib.byteCells (textL (l.take k))).length + 4 ≤ 1099511627776 := by
        rw [Lib.byteCells_length]
        have h1 := textL_length (l.take k)
        have h2 := List.length_take_le k l
        omega
      have HC := Lib.hid hcc
      have BL := Lib.hid hbelow
      have BU := Lib.hid hbuild
      have Q := Lib.hid hq
      have HL := Lib.hid hlen
      have hk := hat.1
      clear hat hcc hbelow hbuild hq hl hlen
      obtain ⟨B, hB⟩ : ∃ B, hasB r m a = B := ⟨_, rfl⟩
      have SG := fun w => hasSign_walk r m a w
      rw [hB] at SG
      have SGH := Lib.hid SG
      have HBB := Lib.hid hB
      clear SG hB
      cases B
      · go_wp2_with (go_at_call 87; refine (SGH.out _).mono ?_; rintro e w2 ⟨rfl, hb2⟩)
        go_roundw
        case rel =>
          refine ⟨k + 1, by go_num, by omega, ?_, ?_⟩
          · rw [take_one HC.out, textL_append, textL_one]
            simp only [HBB.out]
            simpa using builder_below (builder_below BU.out ((Below.refl _ _).alloc (Nat.le_refl _) _)) hb2
          · exact (BL.out.alloc hsz _).trans (hb2.mono (by simp; omega))
        case measure => simp [intOf]; omega
      · go_wp2_with (go_at_call 87; refine (SGH.out _).mono ?_; rintro e w2 ⟨rfl, hb2⟩; have k0 : w2.cell? ⟨wr.heap.size, 0, none⟩ = some (.int .i32 r) := (hb2.cell (p := ⟨wr.heap.size, 0, none⟩) (by simp)).trans (by simp); have hs2 : w.heap.size ≤ w2.heap.size := by have := hb2.size; simp at this; omega)
        have I2 := builder_below (builder_below BU.out ((Below.refl _ _).alloc (Nat.le_refl _) _)) hb2
        refine (writeRune_at _ _ _ r hcl.1 hcl.2 w2 I2 HL.out hs2).mono ?_
        rintro e w3 ⟨rfl, I3, hb3⟩
        have I3H := Lib.hid I3
        clear I2 I3
        go_wp2
        go_roundw
        case rel =>
          refine ⟨k + 1, by go_num, by omega, ?_, ?_⟩
          · rw [take_one HC.out, textL_append, textL_one]
            simp only [HBB.out, if_true]
            rw [Lib.byteCells_append, Lib.byteCells_encodeRune]
            exact I3H.out
          · exact ((BL.out.alloc hsz _).trans (hb2.mono (by simp; omega))).trans hb3
        case measure => simp [intOf]; omega
    · have hk : k = n := by have := hat.1; omega
      have E := take_all l (k := k) (by have := LN.out; omega)
      rw [E] at hbuild
      have BU := Lib.hid hbuild
      have BL := Lib.hid hbelow
      clear hat hbuild hbelow hq hl E hk
      go_wp2_with (go_at_call 89; refine (Tryd.Builder_String_any _ _ _ _ BU.out (by omega)).mono ?_; rintro e w2 ⟨rfl, hb2⟩)
      go_ret
      exact ⟨rfl, BL.out.trans hb2⟩

set_option maxRecDepth 100000 in
set_option maxHeartbeats 1600000 in
theorem line_good (A : Option Addr) (n c : Nat) (l : List (Int × Int × Int)) (w : World) (hs : Spans w) (hn : n ≤ 1073741824) (hl : ∀ c ∈ l, Good c) (hq : Sq w w.heap.size 3 n A (flat l)) :
    Calls Tryd.prog 84 #[.slice A n c] w fun e w' => e = .returned (.bool true) ∧ Below w.heap.size w w' := by
  go_enter Tryd.func84, Tryd.ntmps84
  go_wp2
  go_loopw [7] (fun i wr => ∃ k : Nat, i = .int .i64 k ∧ k ≤ n ∧ Below w.heap.size w wr) (fun i _ => n - (intOf i).toNat)
  case atStart => exact ⟨0, rfl, Nat.zero_le _, Below.refl _ _⟩
  case round =>
    obtain ⟨k, rfl, hk, hbelow⟩ := hrel
    have hsz : w.heap.size ≤ wr.heap.size := hbelow.size
    by_cases hlt : k < n
    · obtain ⟨b, off, rfl, hb, ⟨r, m, a⟩, hcc, q0, q1, q2⟩ := (hq.below hbelow).three hlt
      have hg := hl _ (List.mem_of_getElem? hcc)
      have SG := fun w => hasSign_walk r m a w
      rw [hg.has] at SG
      have MG := fun w hs => may_sign r m a hg.attr.1 hg.attr.2 hg.sign.1 hg.sign.2 hg.wide hg.two w hs
      have SGH := Lib.hid SG
      have MGH := Lib.hid MG
      have BL := Lib.hid hbelow
      have Q := Lib.hid hq
      have SPH := Lib.hid (fun w' (hb : Below w.heap.size w w') => hs.below hb hs.size)
      clear SG MG hg hcc hbelow hq hl hs
      go_wp2_with (go_at_call 87; refine (SGH.out _).mono ?_; rintro e w2 ⟨rfl, hb2⟩; have k0 : w2.cell? ⟨wr.heap.size, 0, none⟩ = some (.int .i32 r) := (hb2.cell (p := ⟨wr.heap.size, 0, none⟩) (by simp)).trans (by simp); have k1 : w2.cell? ⟨wr.heap.size, 1, none⟩ = some (.int .i64 m) := (hb2.cell (p := ⟨wr.heap.size, 1, none⟩) (by simp)).trans (by simp); have k2 : w2.cell? ⟨wr.heap.size, 2, none⟩ = some (.int .i64 a) := (hb2.cell (p := ⟨wr.heap.size, 2, none⟩) (by simp)).trans (by simp))
      have B2 : Below w.heap.size w w2 := (BL.out.alloc hsz _).trans (hb2.mono (by simp; omega))
      refine (MGH.out w2 (SPH.out _ B2)).mono ?_
      rintro e w3 ⟨rfl, hb3⟩
      have B3 := Lib.hid (B2.trans (hb3.mono B2.size))
      clear B2
      go_wp2
      go_roundw
      case rel => exact ⟨k + 1, by go_num, by omega, B3.out⟩
      case measure => simp [intOf]; omega
    · clear hq hl hs
      go_wp2
      go_ret
      exact ⟨rfl, hbelow⟩
end Go.Proofs.YtalhlgiklochdaaDoor
