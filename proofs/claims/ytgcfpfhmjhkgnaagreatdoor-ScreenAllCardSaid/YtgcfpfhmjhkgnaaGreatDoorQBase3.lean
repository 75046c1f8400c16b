import Derived.Test.YtgcfpfhmjhkgnaaGreatDoorQBase2
import Derived.Laws.AppendOwnNone
set_option maxRecDepth 100000
set_option maxHeartbeats 1600000
namespace Go.Proofs.YtgcfpfhmjhkgnaaGreatDoor
open Go.ChangeShapes Go.WideShapes Go.ChangeAt Go.RowKit
def blankC (c : Int × Int × Int) : Bool := isB 32 c.1 c.2.1 c.2.2
def trimN (l : List (Int × Int × Int)) : Nat → Nat
 | 0 => 0
 | k + 1 => if (l[k]?.elim false blankC) then trimN l k else k + 1
theorem trimN_yes {l : List (Int × Int × Int)} {k : Nat} {c : Int × Int × Int} (h : l[k]? = some c) (hb : blankC c = true) : trimN l (k + 1) = trimN l k := by simp [trimN, h, hb]
theorem trimN_no {l : List (Int × Int × Int)} {k : Nat} {c : Int × Int × Int} (h : l[k]? = some c) (hb : blankC c = false) : trimN l (k + 1) = k + 1 := by simp [trimN, h, hb]
def trimL (l : List (Int × Int × Int)) : List (Int × Int × Int) := l.take (trimN l l.length)
def TrimPost (l : List (Int × Int × Int)) (w : World) (e : Ending) (w' : World) : Prop := ∃ v, e = .returned v ∧ HasC w' w.heap.size v (trimL l) ∧ Below w.heap.size w w'
theorem infoCell : (Tryz.prog.info? 33).map (fun i => (i.zero, i.size, i.bytes)) = some (some (.agg #[.int .i32 0, .int .i64 0, .int .i64 0]), 3, 24) := by kernel_rfl
theorem add_at (b off j : Nat) : (⟨b, off, none⟩ : Addr).add j = ⟨b, off + j, none⟩ := by unfold Addr.add; split <;> simp_all
theorem flat_take (l : List (Int × Int × Int)) (k : Nat) : flat (l.take k) = (flat l).take (k * 3) := by
 induction l generalizing k with
 | nil => simp [flat]
 | cons c l ih =>
  cases k with
  | zero => simp [flat]
  | succ k =>
   have e : (k + 1) * 3 = k * 3 + 1 + 1 + 1 := by omega
   rw [e]
   simp [flat, ih]
theorem flat_one (l : List (Int × Int × Int)) : ∀ u ∈ flat l, u.oneCell' = true := by
 induction l with
 | nil => intro u hu; simp [flat] at hu
 | cons c l ih =>
  intro u hu
  simp only [flat, List.mem_cons] at hu
  rcases hu with rfl | rfl | rfl | hu
  ·rfl
  ·rfl
  ·rfl
  ·exact ih u hu
theorem sq_news {w w2 : World} {B n k b off : Nat} {l : List (Int × Int × Int)} (hq : Sq w B 3 n (some ⟨b, off, none⟩) (flat l)) (hb : Below B w w2) (hk : 0 < n) : ∀ j u, (flat (l.take k))[j]? = some u → w2.cell? ((⟨b, off, none⟩ : Addr).add j) = some u := by
 intro j u hu
 obtain ⟨b', off', e, hB, hc⟩ := (hq.below hb).spot hk
 injection e with e
 injection e with e1 e2 e3
 subst e1 e2
 rw [add_at]
 refine hc j u ?_
 rw [flat_take, List.getElem?_take] at hu
 split at hu
 ·exact hu
 ·cases hu
theorem fit24 {n : Nat} (h : n ≤ 1073741824) : 0 + n ≤ maxLen ∧ (0 + n) * 24 ≤ 140737488355328 := by unfold maxLen; omega
theorem flat_take_len {l : List (Int × Int × Int)} {k : Nat} (h : k ≤ l.length) : (flat (l.take k)).length = k * 3 := by rw [flat_length, List.length_take]; omega
theorem trim_walk (A : Option Addr) (n c : Nat) (hc : n ≤ c) (l : List (Int × Int × Int)) (w : World) (hn : n ≤ 1073741824) (hq : Sq w w.heap.size 3 n A (flat l)) :
  Calls Tryz.prog 62 #[.slice A n c] w fun e w' => TrimPost l w e w' := by
 obtain ⟨i0, hi, hz0, hz1, hz2⟩ := info_parts infoCell
 have hln : l.length = n := by have := hq.len; rw [flat_length] at this; omega
 have LN := Lib.hid hln
 clear hln
 go_enter Tryz.func62, Tryz.ntmps62
 go_wp2
 go_loopw [3] (fun i wr => ∃ k : Nat, i = .int .i64 k ∧ k ≤ n ∧ trimN l k = trimN l n ∧ Below w.heap.size w wr) (fun i _ => (intOf i).toNat)
 case atStart => exact ⟨n, rfl, Nat.le_refl _, rfl, Below.refl _ _⟩
 case round =>
  obtain ⟨k, rfl, hk, ht, hbelow⟩ := hrel
  have hsz : w.heap.size ≤ wr.heap.size := hbelow.size
  rcases Nat.eq_zero_or_pos k with rfl | hp
  ·have e0 : trimL l = [] := by unfold trimL; rw [LN.out, ← ht]; simp [trimN]
   have E0 := Lib.hid e0
   have BL := Lib.hid hbelow
   clear hq hbelow ht e0
   rcases A with _ | ⟨b, off, o⟩
   ·go_wp2
    go_ret
    exact ⟨_, rfl, by rw [E0.out]; exact World.ownsRow_nil _ _ _ _, BL.out⟩
   ·go_wp2_with (at_builtin; refine wpList_append_own _ rfl _ _ 22 rfl w.heap.size 33 i0 (.agg #[.int .i32 0, .int .i64 0, .int .i64 0]) 3 24 Tryz.underlying22 hi hz0 hz1 hz2 rfl (by decide) (.slice none 0 0) 0 [] rfl (World.ownsRow_nil _ _ _ _) ⟨b, off, o⟩ 0 c [] rfl rfl (by simp) (by simp) (by decide) (by decide) hsz ?_; intro v' w3 hown hg _)
    go_wp2
    go_ret
    exact ⟨_, rfl, by rw [E0.out]; exact hown, BL.out.grown hg hsz (by simp [Value.ownBlock])⟩
  ·obtain ⟨j, rfl⟩ : ∃ j, k = j + 1 := ⟨k - 1, by omega⟩
   obtain ⟨b, off, rfl, hb, ⟨r, m, a⟩, hcc, q0, q1, q2⟩ := (hq.below hbelow).three (show j < n by omega)
   obtain ⟨B, hB⟩ : ∃ B, isB 32 r m a = B := ⟨_, rfl⟩
   have SG := fun w => isBlank_walk r m a w
   rw [hB] at SG
   have SGH := Lib.hid SG
   have HBB := Lib.hid hB
   have HC := Lib.hid hcc
   have HT := Lib.hid ht
   have BL := Lib.hid hbelow
   have Q := Lib.hid hq
   clear SG hB hcc ht hbelow hq
   cases B
   ·go_wp2_with (first | (go_at_call 103; refine (SGH.out _).mono ?_; rintro e w2 ⟨rfl, hb2⟩) | (at_builtin; refine wpList_append_own _ rfl _ _ 22 rfl w.heap.size 33 i0 (.agg #[.int .i32 0, .int .i64 0, .int .i64 0]) 3 24 Tryz.underlying22 hi hz0 hz1 hz2 rfl (by decide) (.slice none 0 0) 0 [] rfl (World.ownsRow_nil _ _ _ _) ⟨b, off, none⟩ (j + 1) c (flat (l.take (j + 1))) rfl (flat_take_len (by have := LN.out; omega)) (by exact sq_news Q.out (BL.out.trans (hb2.mono hsz)) (by omega)) (flat_one _) (fit24 (by omega)).1 (fit24 (by omega)).2 (Nat.le_trans hsz hb2.size) ?_; intro v' w3 hown hg _))
    go_wp2
    go_ret
    have e : trimL l = l.take (j + 1) := by unfold trimL; rw [LN.out, ← HT.out, trimN_no HC.out HBB.out]
    have h : (l.take (j + 1)).length = 0 + (j + 1) := by rw [List.length_take]; have := LN.out; omega
    refine ⟨_, rfl, ?_, (BL.out.trans (hb2.mono hsz)).grown hg (Nat.le_trans hsz hb2.size) (by simp [Value.ownBlock])⟩
    rw [e]
    unfold HasC
    rw [h]
    exact hown
   ·go_wp2_with (go_at_call 103; refine (SGH.out _).mono ?_; rintro e w2 ⟨rfl, hb2⟩)
    go_roundw
    case rel => exact ⟨j, by go_num, by omega, (trimN_yes HC.out HBB.out).symm.trans HT.out, BL.out.trans (hb2.mono hsz)⟩
    case measure => simp [intOf]
theorem write_walk (A : Option Addr) (n c : Nat) (l : List Int) (w : World) {B : Nat} (hq : Sq w B 1 n A (l.map (Value.int .i32))) :
  Calls Tryz.prog 137 #[.slice A n c] w fun e w' => e = .returned (.string (runesBytes l)) ∧ w = w' := by
 have hln := hq.size_ints
 have K : (convert 54 9 (.slice A n c)).run Tryz.prog w = .ok (.string (runesBytes l)) w := by
  rcases Nat.eq_zero_or_pos n with h0 | h0
  ·subst h0
   have e : l = [] := List.eq_nil_of_length_eq_zero hln
   subst e
   rcases A with _ | ad
   ·exact run_convert_runes_nil w 54 9 21 0 c Tryz.underlying54 Tryz.underlying21 Tryz.underlying9
   ·exact run_convert_runes w 54 9 21 ad 0 c [] (Nat.le_refl _) Tryz.underlying54 Tryz.underlying21 Tryz.underlying9 (fun j hj => absurd hj (Nat.not_lt_zero j))
  ·obtain ⟨b, off, rfl, _, hc⟩ := hq.spot h0
   have h := run_convert_runes w 54 9 21 ⟨b, off, none⟩ n c l (by omega) Tryz.underlying54 Tryz.underlying21 Tryz.underlying9 (fun j hj => by
    rw [add_at, hc j (.int .i32 (l.getD j 0)) (by simp [List.getD, hj])])
   rw [take_all l (by omega)] at h
   exact h
 clear hq hln
 go_enter Tryz.func137, Tryz.ntmps137
 go_wp2
 go_ret
 exact ⟨rfl, rfl⟩
def theL : List Int := [97, 65533, 20013]
def theC : List (Int × Int × Int) := [(20013, 2, 3), (0, 0, 3)]
structure Beg (N gb gl gc : Nat) (w : World) : Prop where
 sp : Spans w
 rd : Rd w N st0
 b0 : w.cell? ⟨gb, 0, none⟩ = some (.int .i32 233)
 l : ∀ j u, (theL.map (Value.int .i32))[j]? = some u → w.cell? ⟨gl, j, none⟩ = some u
 c : ∀ j u, (flat theC)[j]? = some u → w.cell? ⟨gc, j, none⟩ = some u
 gb : gb < w.heap.size
 gl : gl < w.heap.size
 gc : gc < w.heap.size
theorem Beg.below {N gb gl gc : Nat} {w w' : World} (h : Beg N gb gl gc w) (hb : Below w.heap.size w w') : Beg N gb gl gc w' :=
 ⟨h.sp.below hb h.sp.size, ⟨(hb.block N h.rd.lt).trans h.rd.row, h.rd.ok⟩, (hb.cell (p := ⟨gb, 0, none⟩) h.gb).trans h.b0, fun j u hu => (hb.cell (p := ⟨gl, j, none⟩) h.gl).trans (h.l j u hu),
  fun j u hu => (hb.cell (p := ⟨gc, j, none⟩) h.gc).trans (h.c j u hu), Nat.lt_of_lt_of_le h.gb hb.size, Nat.lt_of_lt_of_le h.gl hb.size, Nat.lt_of_lt_of_le h.gc hb.size⟩
theorem Beg.sqL {N gb gl gc : Nat} {w : World} (h : Beg N gb gl gc w) : Sq w w.heap.size 1 3 (some ⟨gl, 0, none⟩) (theL.map (Value.int .i32)) := ⟨rfl, fun _ => ⟨gl, 0, rfl, h.gl, fun j u hu => by rw [Nat.zero_add]; exact h.l j u hu⟩⟩
theorem Beg.sqC {N gb gl gc : Nat} {w : World} (h : Beg N gb gl gc w) : Sq w w.heap.size 3 2 (some ⟨gc, 0, none⟩) (flat theC) := ⟨rfl, fun _ => ⟨gc, 0, rfl, h.gc, fun j u hu => by rw [Nat.zero_add]; exact h.c j u hu⟩⟩
theorem Beg.sqC1 {N gb gl gc : Nat} {w : World} (h : Beg N gb gl gc w) : Sq w w.heap.size 3 1 (some ⟨gc, 0, none⟩) (flat [(20013, 2, 3)]) := ⟨rfl, fun _ => ⟨gc, 0, rfl, h.gc, fun j u hu => by
 rw [Nat.zero_add]
 refine h.c j u ?_
 match j, hu with
 | 0, hu => exact hu
 | 1, hu => exact hu
 | 2, hu => exact hu
 | j + 3, hu => simp [flat] at hu⟩⟩
theorem st_195 : stS st0 195 = ⟨3, 1, 1, 128, 191⟩ ∧ stO st0 195 = [] := by simp [stS, stO, goes, st0, begS, begO, fol, lead, brk]
theorem st_169 : stS ⟨3, 1, 1, 128, 191⟩ 169 = st0 ∧ stO ⟨3, 1, 1, 128, 191⟩ 169 = [233] := by simp [stS, stO, goes, onS, onO]
theorem theL_all : allO (octs ⟨#[97, 255, 228, 184, 173]⟩) = theL := by
 have e : octs ⟨#[97, 255, 228, 184, 173]⟩ = [97, 255, 228, 184, 173] := by decide
 rw [e]
 simp [allO, runO, runS, stS, stO, goes, st0, begS, begO, onS, onO, fol, lead, brk, theL]
theorem theL_write : runesBytes theL = ⟨#[97, 239, 191, 189, 228, 184, 173]⟩ := by decide +kernel
theorem theC_of : ofL 20013 3 = theC := by decide
theorem theC_text : textL theC = [228, 184, 173] := by decide +kernel
theorem wide_20013 : wof 20013 = 2 := by decide
theorem wide_97 : wof 97 = 1 := by decide
theorem wide_7 : wof 7 = 0 := by decide
theorem trim_two : trimL [(20013, 2, 3), (32, 1, 0)] = [(20013, 2, 3)] := by decide
theorem add_zero (p : Addr) : p.add 0 = p := by unfold Addr.add; split <;> simp_all
theorem slice_head (w : World) (gc cc : Nat) (h : 2 ≤ cc) : (Instr.sliceAt 22 (.slice (some ⟨gc, 0, none⟩) 2 cc) none (some (.int .i64 1)) none).run Tryz.prog w = .ok (.slice (some ⟨gc, 0, none⟩) 1 cc) w := by
 have h0 : (cc : Nat) ≠ 0 := by omega
 have h1 : (1 : Int) ≤ (cc : Int) := by omega
 have hz : (sizeOf (Tryz.prog.elem 22)).run Tryz.prog w = .ok 3 w := by kernel_rfl
 rw [run_sliceAt_slice _ _ _ _ _ _ Tryz.underlying22, run_slice_h _ _ _ _ _ Tryz.underlying22 _ _ (by omega) h1, hz]
 simp [Result.andThen, sliced, h0, add_zero]
theorem own_at {w : World} {base : Nat} {e : TypeId} {s n : Nat} {v : Value} {xs : List Value} (h : w.ownsRow base e s v n xs) (hn : 0 < n) : ∃ g c, v = .slice (some ⟨g, 0, none⟩) n c ∧ n ≤ c ∧ base ≤ g ∧ g < w.heap.size ∧ ∀ j u, xs[j]? = some u → w.cell? ⟨g, j, none⟩ = some u := by
 rcases h.2 with ⟨_, h0⟩ | ⟨g, cap, cur, rfl, hb, hg, hc, _, _, htake⟩
 ·omega
 ·refine ⟨g, cap, rfl, hc, hb, (Array.getElem?_eq_some_iff.1 hg).1, fun j u hu => ?_⟩
  rw [cell_of_row w g j cur e (0, 0) hg]
  rw [← htake, List.getElem?_take] at hu
  split at hu
  ·simpa using hu
  ·cases hu
theorem spans_drew {w : World} (h : Spans w) : Spans w.drew := ⟨h.size, h.first, h.last, h.wide⟩
structure BB (w0 : World) (gb gl gc : Nat) (w : World) : Prop where
 beg : Beg w0.heap.size gb gl gc w
 old : Below w0.heap.size w0 w
namespace BB
variable {w0 : World} {gb gl gc : Nat} {w w' : World}
theorem step (h : BB w0 gb gl gc w) (hb : Below w.heap.size w w') : BB w0 gb gl gc w' := ⟨h.beg.below hb, h.old.trans (hb.mono h.old.size)⟩
theorem drew (h : BB w0 gb gl gc w) : BB w0 gb gl gc w.drew := ⟨⟨spans_drew h.beg.sp, ⟨h.beg.rd.row, h.beg.rd.ok⟩, h.beg.b0, h.beg.l, h.beg.c, h.beg.gb, h.beg.gl, h.beg.gc⟩, h.old.drew⟩
theorem waits (h : BB w0 gb gl gc w) : Calls Tryz.prog 136 #[.pointer (some ⟨w0.heap.size, 0, none⟩)] w fun e w' => e = .returned (.int .i64 0) ∧ w = w' := waits_any _ _ st0 h.beg.rd
theorem write (h : BB w0 gb gl gc w) (c : Nat) : Calls Tryz.prog 137 #[.slice (some ⟨gl, 0, none⟩) 3 c] w fun e w' => e = .returned (.string ⟨#[97, 239, 191, 189, 228, 184, 173]⟩) ∧ w = w' := by
 have k := write_walk (some ⟨gl, 0, none⟩) 3 c theL w h.beg.sqL
 rw [theL_write] at k
 exact k
theorem of2 (h : BB w0 gb gl gc w) : Calls Tryz.prog 70 #[.int .i32 20013] w fun e w' => e = .returned (.int .i64 2) ∧ w = w' := by
 have k := of_walk 20013 (by omega) (by omega) w h.beg.sp
 rw [wide_20013] at k
 exact k
theorem of1 (h : BB w0 gb gl gc w) : Calls Tryz.prog 70 #[.int .i32 97] w fun e w' => e = .returned (.int .i64 1) ∧ w = w' := by
 have k := of_walk 97 (by omega) (by omega) w h.beg.sp
 rw [wide_97] at k
 exact k
theorem of0 (h : BB w0 gb gl gc w) : Calls Tryz.prog 70 #[.int .i32 7] w fun e w' => e = .returned (.int .i64 0) ∧ w = w' := by
 have k := of_walk 7 (by omega) (by omega) w h.beg.sp
 rw [wide_7] at k
 exact k
theorem may (h : BB w0 gb gl gc w) : Calls Tryz.prog 64 #[cellV 0 0 3] w fun e w' => e = .returned (.bool true) ∧ BB w0 gb gl gc w' := (may_half 3 (by omega) (by omega) w).mono fun _ _ ⟨e, b⟩ => ⟨e, h.step b⟩
theorem blank (h : BB w0 gb gl gc w) : Calls Tryz.prog 63 #[] w fun e w' => e = .returned (cellV 32 1 0) ∧ BB w0 gb gl gc w' := (blank_walk w).mono fun _ _ ⟨e, b⟩ => ⟨e, h.step b⟩
theorem pad (h : BB w0 gb gl gc w) : Calls Tryz.prog 105 #[] w fun e w' => e = .returned (cellV 0 1 0) ∧ BB w0 gb gl gc w' := (pad_walk w).mono fun _ _ ⟨e, b⟩ => ⟨e, h.step b⟩
theorem isBlank (h : BB w0 gb gl gc w) : Calls Tryz.prog 103 #[cellV 32 1 0] w fun e w' => e = .returned (.bool true) ∧ BB w0 gb gl gc w' := (isBlank_walk 32 1 0 w).mono fun _ _ ⟨e, b⟩ => ⟨e, h.step b⟩
theorem isPad (h : BB w0 gb gl gc w) : Calls Tryz.prog 65 #[cellV 0 1 0] w fun e w' => e = .returned (.bool true) ∧ BB w0 gb gl gc w' := (isPad_walk 0 1 0 w).mono fun _ _ ⟨e, b⟩ => ⟨e, h.step b⟩
theorem text (h : BB w0 gb gl gc w) (c : Nat) : Calls Tryz.prog 138 #[.slice (some ⟨gc, 0, none⟩) 2 c] w fun e w' => e = .returned (.string ⟨#[228, 184, 173]⟩) ∧ BB w0 gb gl gc w' := by
 have k := cellText_walk (some ⟨gc, 0, none⟩) 2 c theC w (by omega) (by intro x hx; simp [theC] at hx; rcases hx with rfl | rfl <;> simp) h.beg.sqC
 rw [theC_text] at k
 exact k.mono fun _ _ ⟨e, b⟩ => ⟨e, h.step b⟩
theorem trim (h : BB w0 gb gl gc w) : Calls Tryz.prog 62 #[.slice (some ⟨w.heap.size, 0, none⟩) 2 2] (w.alloc (.cells #[.int .i32 20013, .int .i64 2, .int .i64 3, .int .i32 32, .int .i64 1, .int .i64 0] 33)) fun e w' => (∃ A c, e = .returned (.slice A 1 c)) ∧ BB w0 gb gl gc w' := by
 have ho := own_new w 33 3 2 #[.int .i32 20013, .int .i64 2, .int .i64 3, .int .i32 32, .int .i64 1, .int .i64 0] rfl (by omega)
 have hq : Sq (w.alloc (.cells #[.int .i32 20013, .int .i64 2, .int .i64 3, .int .i32 32, .int .i64 1, .int .i64 0] 33)) _ 3 2 (some ⟨w.heap.size, 0, none⟩) (flat [(20013, 2, 3), (32, 1, 0)]) := Sq.own ho
 have hb : Below w.heap.size w (w.alloc (.cells #[.int .i32 20013, .int .i64 2, .int .i64 3, .int .i32 32, .int .i64 1, .int .i64 0] 33)) := (Below.refl _ _).alloc (Nat.le_refl _) _
 refine (trim_walk _ 2 2 (Nat.le_refl _) [(20013, 2, 3), (32, 1, 0)] _ (by omega) hq).mono ?_
 rintro e w' ⟨v, rfl, hv, b⟩
 rw [trim_two] at hv
 obtain ⟨A, c, rfl⟩ := own_shape hv
 exact ⟨⟨A, c, rfl⟩, (h.step hb).step b⟩
theorem line (h : BB w0 gb gl gc w) (c : Nat) : Calls Tryz.prog 139 #[.slice (some ⟨gc, 0, none⟩) 1 c] w fun e w' => e = .returned (.bool true) ∧ BB w0 gb gl gc w' := by
 have k := line_good (some ⟨gc, 0, none⟩) 1 c [(20013, 2, 3)] w h.beg.sp (by omega) (by intro x hx; simp at hx; subst hx; exact ⟨by simp, wide_20013, .inr rfl, by simp⟩) h.beg.sqC1
 exact k.mono fun _ _ ⟨e, b⟩ => ⟨e, h.step b⟩
end BB
theorem add_spot (b off j : Nat) : (⟨b, off, none⟩ : Addr).add j = ⟨b, off + j, none⟩ := by unfold Addr.add; split <;> simp_all
theorem run_app_nil {P : Program} {w : World} {base : Nat} {t ty e : TypeId} {i : TypeInfo} {size : Nat} (ht : P.underlying t = some (.slice e)) (hi : P.info? e = some i) {v : Value} {n : Nat} {xs : List Value} (hown : w.ownsRow base e size v n xs) (c : Nat) :
  (Builtin.append_ #[t, t] ty #[v, .slice none 0 c]).run P w = .ok v w := by
 rcases hown.2 with ⟨rfl, rfl⟩ | ⟨g, cap, cur, rfl, _, _, hnc, _⟩
 ·simp [Builtin.append_, run_underlying ht, sizeOf, typeInfo, hi, Builtin.lenOf, Builtin.firstCells]
 ·simp [Builtin.append_, run_underlying ht, sizeOf, typeInfo, hi, Builtin.lenOf, Builtin.firstCells, hnc, storeCells]
theorem wpl_app {P : Program} {w : World} {ops : Array Oper} {rest : List Oper} {o : Oper} {a : Act} {Q : Exit → Act → World → Prop} (hgd : o.guard = none) (s x : Operand) (t : TypeId)
  (ho : o.op = .call { callee := .builtin .append, args := #[s, x], argTypes := #[t, t] })
  (base : Nat) (e : TypeId) (i : TypeInfo) (z : Value) (size bytes : Nat) (ht : P.underlying t = some (.slice e)) (hi : P.info? e = some i) (hz : i.zero = some z)
  (hsize : i.size = size) (hby : i.bytes = bytes) (hzs : z.cells.size = size) (hsz : 0 < size)
  (v : Value) (n : Nat) (xs : List Value) (hs : a.eval s = v) (hown : w.ownsRow base e size v n xs)
  (A : Option Addr) (m c : Nat) (news : List Value) (hx : a.eval x = .slice A m c) (B : Nat) (hq : Sq w B size m A news) (h1 : ∀ u ∈ news, u.oneCell' = true)
  (h63 : n + m ≤ maxLen) (hbytes : (n + m) * bytes ≤ 140737488355328) (hbase : base ≤ w.heap.size)
  (h : ∀ v' w', w'.ownsRow base e size v' (n + m) (xs ++ news) → w.grownBy w' v.ownBlock → (v'.ownBlock = v.ownBlock ∨ v'.ownBlock = some w.heap.size) → wpList P ops Q rest (a.put o.dst v') w') : wpList P ops Q (o :: rest) a w := by
 rcases A with _ | ad
 ·have hm : m = 0 := by
   rcases Nat.eq_zero_or_pos m with h0 | h0
   ·exact h0
   ·obtain ⟨_, _, e, _⟩ := hq.spot h0
    cases e
  subst hm
  have hn : news = [] := List.eq_nil_of_length_eq_zero (by have := hq.len; omega)
  subst hn
  have hrun := run_app_nil (P := P) (ty := o.type) ht hi hown c
  refine wpList_plain hgd fun K hK => ?_
  unfold Oper.wp
  simp only [execOp, ho, resolve, invoke, builtin, Sem.run_bind, Sem.run_pure, Result.andThen_ok, List.map_toArray, List.map_cons, List.map_nil, hs, hx, hrun]
  exact hK _ _ (h v w (by simpa using hown) ⟨rfl, rfl, rfl, Nat.le_refl _, fun _ _ _ => rfl⟩ (.inl rfl))
 ·refine wpList_append_own_at w hgd s x t ho base e i z size bytes ht hi hz hsize hby hzs hsz v n xs hs hown ad m c news hx hq.len ?_ h1 h63 hbytes hbase fun v' w' h2 h3 _ h5 => h v' w' h2 h3 h5
  intro j u hu
  have hj : 0 < m := by
   rcases Nat.eq_zero_or_pos m with h0 | h0
   ·subst h0
    have hn : news = [] := List.eq_nil_of_length_eq_zero (by have := hq.len; omega)
    subst hn
    simp at hu
   ·exact h0
  obtain ⟨b, off, e, _, hc⟩ := hq.spot hj
  injection e with e
  subst e
  rw [add_spot]
  exact hc j u hu
