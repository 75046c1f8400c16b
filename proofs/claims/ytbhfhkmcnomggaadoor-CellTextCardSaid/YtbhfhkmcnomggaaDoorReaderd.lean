/-
  The face of utf: Put, End, Waits, All, of a Reader and of none.
-/
import Derived.Test.YtbhfhkmcnomggaaDoorReaderc
namespace Go.Proofs.YtbhfhkmcnomggaaDoor
open Go.ChangeShapes Go.WideShapes Go.ChangeAt Go.RowKit

set_option maxHeartbeats 400000 in
theorem put_any (b : Nat) (x : Int) (hx0 : 0 ≤ x) (hx1 : x ≤ 255) (w : World) (st : St) (h : Rd w b st) :
    Calls Tryd.prog 18 #[.pointer (some ⟨b, 0, none⟩), .int .u8 x] w fun e w' => Told w.heap.size b (.slice none 0 0) (stO st x) (stS st x) w e w' := by
  have C := read_any b w.heap.size (.slice none 0 0) [] x hx0 hx1 w st h (Has.nothing _ _) (by simp [Value.ownBlock]) (by simp) (Nat.le_refl _)
  have CH := Lib.hid C
  clear C h
  go_enter Tryd.func18, Tryd.ntmps18
  go_wp2_with (go_at_call 42; refine CH.out.mono ?_; rintro e w' ⟨v', rfl, ht⟩)
  go_ret
  exact ⟨v', rfl, ht⟩
set_option maxHeartbeats 400000 in
theorem end_any (b : Nat) (w : World) (st : St) (h : Rd w b st) :
    Calls Tryd.prog 21 #[.pointer (some ⟨b, 0, none⟩)] w fun e w' => Told w.heap.size b (.slice none 0 0) (brk st) st0 w e w' := by
  have C := breakOff_any b w.heap.size (.slice none 0 0) [] w st h (Has.nothing _ _) (by simp [Value.ownBlock]) (by simp) (Nat.le_refl _)
  have CH := Lib.hid C
  clear C h
  go_enter Tryd.func21, Tryd.ntmps21
  go_wp2_with (go_at_call 43; refine CH.out.mono ?_; rintro e w' ⟨v', rfl, ht⟩)
  go_ret
  exact ⟨v', rfl, ht⟩
theorem waits_any (b : Nat) (w : World) (st : St) (h : Rd w b st) :
    Calls Tryd.prog 20 #[.pointer (some ⟨b, 0, none⟩)] w fun e w' => e = .returned (.int .i64 st.waits) ∧ w = w' := by
  have c1 : w.cell? ⟨b, 1, none⟩ = some (.int .i64 st.waits) := h.cell 1
  clear h
  go_enter Tryd.func20, Tryd.ntmps20
  go_wp2
  go_ret
  exact ⟨rfl, rfl⟩
theorem put_nil (x : Int) (w : World) : Calls Tryd.prog 18 #[.pointer none, .int .u8 x] w fun e w' => e = .returned (.slice none 0 0) ∧ w = w' := by
  go_enter Tryd.func18, Tryd.ntmps18
  go_wp2
  go_ret
  exact ⟨rfl, rfl⟩
theorem end_nil (w : World) : Calls Tryd.prog 21 #[.pointer none] w fun e w' => e = .returned (.slice none 0 0) ∧ w = w' := by
  go_enter Tryd.func21, Tryd.ntmps21
  go_wp2
  go_ret
  exact ⟨rfl, rfl⟩
theorem waits_nil (w : World) : Calls Tryd.prog 20 #[.pointer none] w fun e w' => e = .returned (.int .i64 0) ∧ w = w' := by
  go_enter Tryd.func20, Tryd.ntmps20
  go_wp2
  go_ret
  exact ⟨rfl, rfl⟩

theorem Has.lower {w : World} {base base' : Nat} {v : Value} {xs : List Int} (h : Has w base v xs) (hb : base' ≤ base) : Has w base' v xs := by
  refine ⟨h.1, ?_⟩
  rcases h.2 with e | ⟨g, cap, cur, e1, e2, r⟩
  · exact .inl e
  · exact .inr ⟨g, cap, cur, e1, Nat.le_trans hb e2, r⟩
theorem Has.below {w w' : World} {B base : Nat} {v : Value} {xs : List Int} (h : Has w base v xs) (hb : Below B w w') (hv : ∀ k, v.ownBlock = some k → k < B) : Has w' base v xs := by
  refine ⟨h.1, ?_⟩
  rcases h.2 with e | ⟨g, cap, cur, rfl, e2, e3, r⟩
  · exact .inl e
  · exact .inr ⟨g, cap, cur, rfl, e2, (hb.block g (hv g rfl)).trans e3, r⟩
theorem Has.ne {w : World} {base b : Nat} {v : Value} {xs : List Int} (h : Has w base v xs) (hb : b < base) : v.ownBlock ≠ some b := fun e => by
  have := (World.ownsRow.lt h b e).1; omega
theorem Has.lt {w : World} {base : Nat} {v : Value} {xs : List Int} (h : Has w base v xs) : ∀ k, v.ownBlock = some k → k < w.heap.size := fun k e => (World.ownsRow.lt h k e).2
theorem Has.sq {w : World} {base : Nat} {A : Option Addr} {n c : Nat} {xs : List Int} (h : Has w base (.slice A n c) xs) : n = xs.length ∧ Sq w w.heap.size 1 n A (xs.map (Value.int .i32)) := by
  obtain ⟨A', c', e⟩ := h.shape
  injection e with e1 e2 e3
  subst e1 e2 e3
  exact ⟨rfl, Sq.own h⟩
theorem Kept.below {b r : Option Nat} {w w' : World} {B : Nat} (h : Kept b r w w') (hB : B ≤ w.heap.size) (hb : ∀ k, b = some k → B ≤ k) (hr : ∀ k, r = some k → B ≤ k) : Below B w w' :=
  ⟨h.os, h.tape, h.output, h.size, fun k hk => h.block k (by omega) (fun e => by have := hb k e.symm; omega) (fun e => by have := hr k e.symm; omega)⟩

/-- What All answers. -/
def AllPost (l : List Int) (w : World) (e : Ending) (w' : World) : Prop := ∃ v, e = .returned v ∧ Has w' w.heap.size v l ∧ Below w.heap.size w w'
/-- What holds at each round of All. -/
def AllAt (s : ByteArray) (w : World) (k : Nat) (v : Value) (wr : World) : Prop := k ≤ s.size ∧ Has wr (w.heap.size + 1) v (runO st0 ((octs s).take k)) ∧ Rd wr w.heap.size (runS st0 ((octs s).take k)) ∧ Below w.heap.size w wr

set_option maxHeartbeats 800000 in
theorem all_walk (s : ByteArray) (hs : s.size ≤ 274877906944) (w : World) :
    Calls Tryd.prog 22 #[.string s] w fun e w' => AllPost (allO (octs s)) w e w' := by
  go_enter Tryd.func22, Tryd.ntmps22
  go_wp2
  go_loopw [4, 8] (fun v i wr => ∃ k : Nat, i = .int .i64 k ∧ AllAt s w k v wr) (fun _ i _ => s.size - (intOf i).toNat)
  case atStart =>
    refine ⟨0, rfl, Nat.zero_le _, Has.nothing _ _, ⟨?_, st0_ok⟩, (Below.refl _ _).alloc (Nat.le_refl _) _⟩
    exact heap_alloc_new w _
  case round =>
    obtain ⟨k, rfl, hat⟩ := hrel
    by_cases hlt : k < s.size
    · have hx := octs_range s (nth (octs s) k) (by rw [nth_get (by rw [octs_length]; exact hlt)]; exact List.getElem_mem _)
      have hnx := nth_octs s k hlt
      rw [hnx] at hx
      have C := fun hn => read_any w.heap.size (w.heap.size + 1) u4 (runO st0 ((octs s).take k)) _ hx.1 hx.2 wr _ hat.2.2.1 hat.2.1 (hat.2.1.ne (Nat.lt_succ_self _)) hn hat.2.2.1.lt
      have CH := Lib.hid (C (by
        have := runO_length ((octs s).take k) st0
        have := List.length_take_le k (octs s)
        omega))
      have NX := Lib.hid hnx
      clear C hx hnx
      go_wp2_with (go_at_call 42; refine CH.out.mono ?_; rintro e w' ⟨v', rfl, ht⟩)
      go_roundw
      case rel =>
        refine ⟨k + 1, by go_num, by omega, ?_, ?_, ?_⟩
        · rw [take_next (by rw [octs_length]; exact hlt), runO_append, NX.out]; simpa [runO] using ht.1
        · rw [take_next (by rw [octs_length]; exact hlt), runS_append, NX.out]; exact ht.2.1
        · exact hat.2.2.2.trans (ht.2.2.1.below (Nat.le_of_lt hat.2.2.1.lt) (fun j e => by injection e with e; omega) (fun j e => by have := (World.ownsRow.lt hat.2.1 j e).1; omega))
      case measure => simp [intOf]; omega
    · have hk : (octs s).take k = octs s := take_all _ (by rw [octs_length]; omega)
      obtain ⟨_, h1, h2, h3⟩ := hat
      rw [hk] at h1 h2
      have C := fun hn => breakOff_any w.heap.size (w.heap.size + 1) u4 (runO st0 (octs s)) wr _ h2 h1 (h1.ne (Nat.lt_succ_self _)) hn h2.lt
      have CH := Lib.hid (C (by
        have := runO_length (octs s) st0
        rw [octs_length] at this
        omega))
      have HB := Lib.hid (fun w' (hkp : Kept (some w.heap.size) u4.ownBlock wr w') => h3.trans (hkp.below (B := w.heap.size) (Nat.le_of_lt h2.lt) (fun j e => by injection e with e; omega) (fun j e => by have := (World.ownsRow.lt h1 j e).1; omega)))
      clear C hk h1 h2 h3
      go_wp2_with (go_at_call 43; refine CH.out.mono ?_; rintro e w' ⟨v', rfl, ht⟩)
      go_ret
      exact ⟨v', rfl, Has.lower ht.1 (by omega), HB.out _ ht.2.2.1⟩
end Go.Proofs.YtbhfhkmcnomggaaDoor
