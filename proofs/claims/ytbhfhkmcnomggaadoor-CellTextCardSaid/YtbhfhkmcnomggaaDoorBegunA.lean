/-
  What begun's functions tell; what memory holds while begun goes on.
-/
import Derived.Test.YtbhfhkmcnomggaaDoorTrim
namespace Go.Proofs.YtbhfhkmcnomggaaDoor
open Go.ChangeShapes Go.WideShapes Go.ChangeAt Go.RowKit

def theL : List Int := [97, 65533, 20013]
def theC : List (Int × Int × Int) := [(20013, 2, 3), (0, 0, 3)]
/-- What memory holds while begun goes on. -/
structure Beg (N gb gl gc : Nat) (w : World) : Prop where
  sp : Spans w
  rd : Rd w N st0
  b0 : w.cell? ⟨gb, 0, none⟩ = some (.int .i32 233)
  l : ∀ j u, (theL.map (Value.int .i32))[j]? = some u → w.cell? ⟨gl, j, none⟩ = some u
  c : ∀ j u, (flat theC)[j]? = some u → w.cell? ⟨gc, j, none⟩ = some u
  gb : gb < w.heap.size
  gl : gl < w.heap.size
  gc : gc < w.heap.size
theorem Beg.below {N gb gl gc : Nat} {w w' : World} (h : Beg N gb gl gc w) (hb : Below w.heap.size w w') : Beg N gb gl gc w' :=
  ⟨h.sp.below hb h.sp.size, ⟨(hb.block N h.rd.lt).trans h.rd.row, h.rd.ok⟩, (hb.cell (p := ⟨gb, 0, none⟩) h.gb).trans h.b0, fun j u hu => (hb.cell (p := ⟨gl, j, none⟩) h.gl).trans (h.l j u hu),
    fun j u hu => (hb.cell (p := ⟨gc, j, none⟩) h.gc).trans (h.c j u hu), Nat.lt_of_lt_of_le h.gb hb.size, Nat.lt_of_lt_of_le h.gl hb.size, Nat.lt_of_lt_of_le h.gc hb.size⟩
theorem Beg.sqL {N gb gl gc : Nat} {w : World} (h : Beg N gb gl gc w) : Sq w w.heap.size 1 3 (some ⟨gl, 0, none⟩) (theL.map (Value.int .i32)) := ⟨rfl, fun _ => ⟨gl, 0, rfl, h.gl, fun j u hu => by rw [Nat.zero_add]; exact h.l j u hu⟩⟩
theorem Beg.sqC {N gb gl gc : Nat} {w : World} (h : Beg N gb gl gc w) : Sq w w.heap.size 3 2 (some ⟨gc, 0, none⟩) (flat theC) := ⟨rfl, fun _ => ⟨gc, 0, rfl, h.gc, fun j u hu => by rw [Nat.zero_add]; exact h.c j u hu⟩⟩
theorem Beg.sqC1 {N gb gl gc : Nat} {w : World} (h : Beg N gb gl gc w) : Sq w w.heap.size 3 1 (some ⟨gc, 0, none⟩) (flat [(20013, 2, 3)]) := ⟨rfl, fun _ => ⟨gc, 0, rfl, h.gc, fun j u hu => by
  rw [Nat.zero_add]
  refine h.c j u ?_
  match j, hu with
  | 0, hu => exact hu
  | 1, hu => exact hu
  | 2, hu => exact hu
  | j + 3, hu => simp [flat] at hu⟩⟩

theorem st_195 : stS st0 195 = ⟨3, 1, 1, 128, 191⟩ ∧ stO st0 195 = [] := by simp [stS, stO, goes, st0, begS, begO, fol, lead, brk]
theorem st_169 : stS ⟨3, 1, 1, 128, 191⟩ 169 = st0 ∧ stO ⟨3, 1, 1, 128, 191⟩ 169 = [233] := by simp [stS, stO, goes, onS, onO]
theorem theL_all : allO (octs ⟨#[97, 255, 228, 184, 173]⟩) = theL := by
  have e : octs ⟨#[97, 255, 228, 184, 173]⟩ = [97, 255, 228, 184, 173] := by decide
  rw [e]
  simp [allO, runO, runS, stS, stO, goes, st0, begS, begO, onS, onO, fol, lead, brk, theL]
theorem theL_write : runesBytes theL = ⟨#[97, 239, 191, 189, 228, 184, 173]⟩ := by decide +kernel
theorem theC_of : ofL 20013 3 = theC := by decide
theorem theC_text : textL theC = [228, 184, 173] := by decide +kernel
theorem wide_20013 : wof 20013 = 2 := by decide
theorem wide_97 : wof 97 = 1 := by decide
theorem wide_7 : wof 7 = 0 := by decide
theorem trim_two : trimL [(20013, 2, 3), (32, 1, 0)] = [(20013, 2, 3)] := by decide

theorem add_zero (p : Addr) : p.add 0 = p := by unfold Addr.add; split <;> simp_all
theorem slice_head (w : World) (gc cc : Nat) (h : 2 ≤ cc) : (Instr.sliceAt 47 (.slice (some ⟨gc, 0, none⟩) 2 cc) none (some (.int .i64 1)) none).run Tryd.prog w = .ok (.slice (some ⟨gc, 0, none⟩) 1 cc) w := by
  have h0 : (cc : Nat) ≠ 0 := by omega
  have h1 : (1 : Int) ≤ (cc : Int) := by omega
  have hz : (sizeOf (Tryd.prog.elem 47)).run Tryd.prog w = .ok 3 w := by kernel_rfl
  rw [run_sliceAt_slice _ _ _ _ _ _ Tryd.underlying47, run_slice_h _ _ _ _ _ Tryd.underlying47 _ _ (by omega) h1, hz]
  simp [Result.andThen, sliced, h0, add_zero]

theorem own_at {w : World} {base : Nat} {e : TypeId} {s n : Nat} {v : Value} {xs : List Value} (h : w.ownsRow base e s v n xs) (hn : 0 < n) : ∃ g c, v = .slice (some ⟨g, 0, none⟩) n c ∧ n ≤ c ∧ base ≤ g ∧ g < w.heap.size ∧ ∀ j u, xs[j]? = some u → w.cell? ⟨g, j, none⟩ = some u := by
  rcases h.2 with ⟨_, h0⟩ | ⟨g, cap, cur, rfl, hb, hg, hc, _, _, htake⟩
  · omega
  · refine ⟨g, cap, rfl, hc, hb, (Array.getElem?_eq_some_iff.1 hg).1, fun j u hu => ?_⟩
    rw [cell_of_row w g j cur e (0, 0) hg]
    rw [← htake, List.getElem?_take] at hu
    split at hu
    · simpa using hu
    · cases hu

theorem spans_drew {w : World} (h : Spans w) : Spans w.drew := ⟨h.size, h.first, h.last, h.wide⟩
theorem below_undrew {B : Nat} {w w' : World} (h : Below B w.drew w') : Below B w w' := ⟨h.os, h.tape, h.output, h.size, h.block⟩
/-- .. and all that was there before begun stands. -/
structure BB (w0 : World) (gb gl gc : Nat) (w : World) : Prop where
  beg : Beg w0.heap.size gb gl gc w
  old : Below w0.heap.size w0 w
namespace BB
variable {w0 : World} {gb gl gc : Nat} {w w' : World}
theorem step (h : BB w0 gb gl gc w) (hb : Below w.heap.size w w') : BB w0 gb gl gc w' := ⟨h.beg.below hb, h.old.trans (hb.mono h.old.size)⟩
theorem drew (h : BB w0 gb gl gc w) : BB w0 gb gl gc w.drew := ⟨⟨spans_drew h.beg.sp, ⟨h.beg.rd.row, h.beg.rd.ok⟩, h.beg.b0, h.beg.l, h.beg.c, h.beg.gb, h.beg.gl, h.beg.gc⟩, h.old.drew⟩
theorem waits (h : BB w0 gb gl gc w) : Calls Tryd.prog 20 #[.pointer (some ⟨w0.heap.size, 0, none⟩)] w fun e w' => e = .returned (.int .i64 0) ∧ w = w' := waits_any _ _ st0 h.beg.rd
theorem write (h : BB w0 gb gl gc w) (c : Nat) : Calls Tryd.prog 23 #[.slice (some ⟨gl, 0, none⟩) 3 c] w fun e w' => e = .returned (.string ⟨#[97, 239, 191, 189, 228, 184, 173]⟩) ∧ w = w' := by
  have k := write_walk (some ⟨gl, 0, none⟩) 3 c theL w h.beg.sqL
  rw [theL_write] at k
  exact k
theorem of2 (h : BB w0 gb gl gc w) : Calls Tryd.prog 27 #[.int .i32 20013] w fun e w' => e = .returned (.int .i64 2) ∧ w = w' := by
  have k := of_walk 20013 (by omega) (by omega) w h.beg.sp
  rw [wide_20013] at k
  exact k
theorem of1 (h : BB w0 gb gl gc w) : Calls Tryd.prog 27 #[.int .i32 97] w fun e w' => e = .returned (.int .i64 1) ∧ w = w' := by
  have k := of_walk 97 (by omega) (by omega) w h.beg.sp
  rw [wide_97] at k
  exact k
theorem of0 (h : BB w0 gb gl gc w) : Calls Tryd.prog 27 #[.int .i32 7] w fun e w' => e = .returned (.int .i64 0) ∧ w = w' := by
  have k := of_walk 7 (by omega) (by omega) w h.beg.sp
  rw [wide_7] at k
  exact k
theorem may (h : BB w0 gb gl gc w) : Calls Tryd.prog 35 #[cellV 0 0 3] w fun e w' => e = .returned (.bool true) ∧ BB w0 gb gl gc w' := (may_half 3 (by omega) (by omega) w).mono fun _ _ ⟨e, b⟩ => ⟨e, h.step b⟩
theorem blank (h : BB w0 gb gl gc w) : Calls Tryd.prog 37 #[] w fun e w' => e = .returned (cellV 32 1 0) ∧ BB w0 gb gl gc w' := (blank_walk w).mono fun _ _ ⟨e, b⟩ => ⟨e, h.step b⟩
theorem pad (h : BB w0 gb gl gc w) : Calls Tryd.prog 39 #[] w fun e w' => e = .returned (cellV 0 1 0) ∧ BB w0 gb gl gc w' := (pad_walk w).mono fun _ _ ⟨e, b⟩ => ⟨e, h.step b⟩
theorem isBlank (h : BB w0 gb gl gc w) : Calls Tryd.prog 36 #[cellV 32 1 0] w fun e w' => e = .returned (.bool true) ∧ BB w0 gb gl gc w' := (isBlank_walk 32 1 0 w).mono fun _ _ ⟨e, b⟩ => ⟨e, h.step b⟩
theorem isPad (h : BB w0 gb gl gc w) : Calls Tryd.prog 38 #[cellV 0 1 0] w fun e w' => e = .returned (.bool true) ∧ BB w0 gb gl gc w' := (isPad_walk 0 1 0 w).mono fun _ _ ⟨e, b⟩ => ⟨e, h.step b⟩
theorem text (h : BB w0 gb gl gc w) (c : Nat) : Calls Tryd.prog 33 #[.slice (some ⟨gc, 0, none⟩) 2 c] w fun e w' => e = .returned (.string ⟨#[228, 184, 173]⟩) ∧ BB w0 gb gl gc w' := by
  have k := cellText_walk (some ⟨gc, 0, none⟩) 2 c theC w (by omega) (by intro x hx; simp [theC] at hx; rcases hx with rfl | rfl <;> simp) h.beg.sqC
  rw [theC_text] at k
  exact k.mono fun _ _ ⟨e, b⟩ => ⟨e, h.step b⟩
theorem trim (h : BB w0 gb gl gc w) : Calls Tryd.prog 30 #[.slice (some ⟨w.heap.size, 0, none⟩) 2 2] (w.alloc (.cells #[.int .i32 20013, .int .i64 2, .int .i64 3, .int .i32 32, .int .i64 1, .int .i64 0] 50)) fun e w' => (∃ A c, e = .returned (.slice A 1 c)) ∧ BB w0 gb gl gc w' := by
  have ho := own_new w 50 3 2 #[.int .i32 20013, .int .i64 2, .int .i64 3, .int .i32 32, .int .i64 1, .int .i64 0] rfl (by omega)
  have hq : Sq (w.alloc (.cells #[.int .i32 20013, .int .i64 2, .int .i64 3, .int .i32 32, .int .i64 1, .int .i64 0] 50)) _ 3 2 (some ⟨w.heap.size, 0, none⟩) (flat [(20013, 2, 3), (32, 1, 0)]) := Sq.own ho
  have hb : Below w.heap.size w (w.alloc (.cells #[.int .i32 20013, .int .i64 2, .int .i64 3, .int .i32 32, .int .i64 1, .int .i64 0] 50)) := (Below.refl _ _).alloc (Nat.le_refl _) _
  refine (trim_walk _ 2 2 (Nat.le_refl _) [(20013, 2, 3), (32, 1, 0)] _ (by omega) hq).mono ?_
  rintro e w' ⟨v, rfl, hv, b⟩
  rw [trim_two] at hv
  obtain ⟨A, c, rfl⟩ := own_shape hv
  exact ⟨⟨A, c, rfl⟩, (h.step hb).step b⟩
theorem line (h : BB w0 gb gl gc w) (c : Nat) : Calls Tryd.prog 34 #[.slice (some ⟨gc, 0, none⟩) 1 c] w fun e w' => e = .returned (.bool true) ∧ BB w0 gb gl gc w' := by
  have k := line_good (some ⟨gc, 0, none⟩) 1 c [(20013, 2, 3)] w h.beg.sp (by omega) (by intro x hx; simp at hx; subst hx; exact ⟨by simp, wide_20013, .inr rfl, by simp⟩) h.beg.sqC1
  exact k.mono fun _ _ ⟨e, b⟩ => ⟨e, h.step b⟩
end BB

end Go.Proofs.YtbhfhkmcnomggaaDoor
