/-
  More of utf.Reader: begin, goOn, read, and the methods of its face; All.
  More of utf.Reader: goOn, read, and the methods of its face; All.
  The face of utf: Put, End, Waits, All, of a Reader and of none.
-/
import Derived.Test.YtalhlgiklochdaaDoorReader
import Derived.RegionTactic
import Derived.ChangeAlike
namespace Go.Proofs.YtalhlgiklochdaaDoor
open Go.ChangeShapes Go.WideShapes Go.ChangeAt Go.RowKit

set_option maxRecDepth 100000 in
set_option maxHeartbeats 400000 in
theorem begin_ascii (b base : Nat) (v : Value) (xs : List Int) (x : Int) (hx0 : 0 ≤ x) (hx1 : x ≤ 255) (h128 : x < 128) (w : World) (st : St) (h : Rd w b st) (hv : Has w base v xs) (hvb : v.ownBlock ≠ some b) (hn : xs.length ≤ 1099511627776) (hbase : base ≤ w.heap.size) :
    Calls Tryd.prog 91 #[.pointer (some ⟨b, 0, none⟩), v, .int .u8 x] w fun e w' => Told base b v (xs ++ [x]) st w e w' := by
  obtain ⟨i0, hi, hz0, hz1, hz2⟩ := info_parts info21
  obtain ⟨A, c, rfl⟩ := hv.shape
  have HO : w.ownsRow base 21 1 (.slice A xs.length c) xs.length (xs.map (Value.int .i32)) := hv
  have HV := Lib.hid hvb
  clear hvb hv
  go_enter Tryd.func91, Tryd.ntmps91
  go_wp2_with (at_builtin; refine wpList_append_own_at _ rfl _ _ 109 rfl base 21 i0 (.int .i32 0) 1 4 Tryd.underlying109 hi hz0 hz1 hz2 rfl (by decide) (.slice A xs.length c) xs.length _ rfl (HO.alloc _) ⟨w.heap.size, 0, none⟩ 1 1 [.int .i32 x] rfl rfl (cell_new_at rfl _ _) (one_rune _) (fits1 hn) (fits4 hn) (by simp; omega) ?_; intro v' w1 hown' hgrow _ hat)
  go_wp2
  go_ret
  exact told_app h hown' HV.out hgrow hat

set_option maxRecDepth 100000 in
set_option maxHeartbeats 400000 in
theorem begin_bad (b base : Nat) (v : Value) (xs : List Int) (x : Int) (hx0 : 0 ≤ x) (hx1 : x ≤ 255) (h128 : 128 ≤ x) (w : World) (st : St) (h : Rd w b st) (hv : Has w base v xs) (hvb : v.ownBlock ≠ some b) (hn : xs.length ≤ 1099511627776) (hbase : base ≤ w.heap.size) (hf : fol x = (0, 0, 0)) :
    Calls Tryd.prog 91 #[.pointer (some ⟨b, 0, none⟩), v, .int .u8 x] w fun e w' => Told base b v (xs ++ [65533]) st w e w' := by
  have FW := follow_walk x hx0 hx1 w
  rw [hf] at FW
  have FWH := Lib.hid FW
  obtain ⟨i0, hi, hz0, hz1, hz2⟩ := info_parts info21
  obtain ⟨A, c, rfl⟩ := hv.shape
  have HO : w.ownsRow base 21 1 (.slice A xs.length c) xs.length (xs.map (Value.int .i32)) := hv
  have HV := Lib.hid hvb
  clear hvb hv FW hf
  go_enter Tryd.func91, Tryd.ntmps91
  go_wp2_with (first
    | (go_at_call 94; refine FWH.out.mono ?_; rintro e w' ⟨rfl, rfl⟩)
    | (at_builtin; refine wpList_append_own_at _ rfl _ _ 109 rfl base 21 i0 (.int .i32 0) 1 4 Tryd.underlying109 hi hz0 hz1 hz2 rfl (by decide) (.slice A xs.length c) xs.length _ rfl (HO.alloc _) ⟨w.heap.size, 0, none⟩ 1 1 [.int .i32 65533] rfl rfl (cell_new_at rfl _ _) (one_rune _) (fits1 hn) (fits4 hn) (by simp; omega) ?_; intro v' w1 hown' hgrow _ hat))
  go_wp2
  go_ret
  exact told_app h hown' HV.out hgrow hat

/-- begin, whatever the byte, while nothing waits. -/
theorem begin_any (b base : Nat) (v : Value) (xs : List Int) (x : Int) (hx0 : 0 ≤ x) (hx1 : x ≤ 255) (w : World) (h : Rd w b st0) (hv : Has w base v xs) (hvb : v.ownBlock ≠ some b) (hn : xs.length ≤ 1099511627776) (hbase : base ≤ w.heap.size) :
    Calls Tryd.prog 91 #[.pointer (some ⟨b, 0, none⟩), v, .int .u8 x] w fun e w' => Told base b v (xs ++ begO x) (begS x) w e w' := by
  by_cases h128 : x < 128
  · have e1 : begO x = [x] := by simp [begO, h128]
    have e2 : begS x = st0 := by simp [begS, h128]
    rw [e1, e2]
    exact begin_ascii b base v xs x hx0 hx1 h128 w st0 h hv hvb hn hbase
  · rcases fol_cases x with ⟨_, e⟩ | ⟨_, _, e⟩ | ⟨_, e⟩ | ⟨_, e⟩ | ⟨_, _, _, e⟩ | ⟨_, e⟩ | ⟨_, _, e⟩ | ⟨_, e⟩
    · have e1 : begO x = [65533] := by simp [begO, h128, e]
      have e2 : begS x = st0 := by simp [begS, h128, e]
      rw [e1, e2]
      exact begin_bad b base v xs x hx0 hx1 (by omega) w st0 h hv hvb hn hbase e
    all_goals
      have e1 : begO x = [] := by simp [begO, h128, e]
      rw [e1, List.append_nil]
      exact begin_more b base v xs x _ _ _ hx0 hx1 (by omega) w st0 h hv hvb e (by simp)
end Go.Proofs.YtalhlgiklochdaaDoor
namespace Go.Proofs.YtalhlgiklochdaaDoor
open Go.ChangeShapes Go.WideShapes Go.ChangeAt Go.RowKit

set_option maxRecDepth 100000 in
set_option maxHeartbeats 400000 in
theorem goOn_last (b base : Nat) (v : Value) (xs : List Int) (x : Int) (hx0 : 0 ≤ x) (hx1 : x ≤ 255) (w : World) (st : St) (h : Rd w b st) (hv : Has w base v xs) (hvb : v.ownBlock ≠ some b) (hn : xs.length ≤ 1099511627776) (hbase : base ≤ w.heap.size) (hm : st.missing = 1) (hs0 : 0 ≤ st.sign) (hs1 : st.sign < 131072) :
    Calls Tryd.prog 90 #[.pointer (some ⟨b, 0, none⟩), v, .int .u8 x] w fun e w' => Told base b v (xs ++ [st.sign * 64 + x % 64]) st0 w e w' := by
  obtain ⟨i0, hi, hz0, hz1, hz2⟩ := info_parts info21
  obtain ⟨A, c, rfl⟩ := hv.shape
  have c0 : w.cell? ⟨b, 0, none⟩ = some (.int .i32 st.sign) := h.cell 0
  have c1 : w.cell? ⟨b, 1, none⟩ = some (.int .i64 st.waits) := h.cell 1
  have c2 : w.cell? ⟨b, 2, none⟩ = some (.int .i64 1) := by rw [← hm]; exact h.cell 2
  have c3 : w.cell? ⟨b, 3, none⟩ = some (.int .u8 st.low) := h.cell 3
  have c4 : w.cell? ⟨b, 4, none⟩ = some (.int .u8 st.high) := h.cell 4
  have f0 := h.free 0
  have f1 := h.free 1
  have f2 := h.free 2
  have f3 := h.free 3
  have f4 := h.free 4
  have e1 := u8_and63 x hx0 (show x < 256 by omega)
  have e2 : bits .or .i32 (st.sign * 64) (x % 64) = st.sign * 64 + x % 64 := i32_or6 _ _ (by omega) (by omega) (by omega) (by omega) (by omega)
  have HO : (((((w.setCell ⟨b, 0, none⟩ (.int .i32 0)).setCell ⟨b, 1, none⟩ (.int .i64 0)).setCell ⟨b, 2, none⟩ (.int .i64 0)).setCell ⟨b, 3, none⟩ (.int .u8 0)).setCell ⟨b, 4, none⟩ (.int .u8 0)).ownsRow base 21 1 (.slice A xs.length c) xs.length (xs.map (Value.int .i32)) := own_put st0 hv hvb
  have HV := Lib.hid hvb
  clear hvb hv hm
  go_enter Tryd.func90, Tryd.ntmps90
  go_wp2_with (at_builtin; refine wpList_append_own_at _ rfl _ _ 109 rfl base 21 i0 (.int .i32 0) 1 4 Tryd.underlying109 hi hz0 hz1 hz2 rfl (by decide) (.slice A xs.length c) xs.length _ rfl (HO.alloc _) ⟨w.heap.size, 0, none⟩ 1 1 [.int .i32 (st.sign * 64 + x % 64)] rfl rfl (cell_new_at (put5_size w b st0) _ _) (one_rune _) (fits1 hn) (fits4 hn) (put5_base hbase b st0 _) ?_; intro v' w1 hown' hgrow _ hat)
  go_wp2
  go_ret
  exact told_put h st0_ok hown' HV.out hgrow hat

theorem told_drew {base b : Nat} {v : Value} {xs : List Int} {st' : St} {w : World} {e : Ending} {w' : World} (h : Told base b v xs st' w e w') : Told base b v xs st' w e w'.drew := by
  obtain ⟨v', e1, a1, a2, a3, a4⟩ := h
  exact ⟨v', e1, a1, ⟨a2.row, a2.ok⟩, ⟨a3.os, a3.tape, a3.output, a3.size, a3.block⟩, a4⟩

set_option maxRecDepth 100000 in
set_option maxHeartbeats 400000 in
theorem goOn_more (b base : Nat) (v : Value) (xs : List Int) (x : Int) (hx0 : 0 ≤ x) (hx1 : x ≤ 255) (w : World) (st : St) (h : Rd w b st) (hv : Has w base v xs) (hvb : v.ownBlock ≠ some b) (hm : 2 ≤ st.missing) (hm3 : st.missing ≤ 3) (hp : 0 < st.waits) (hw3 : st.waits ≤ 3) (hs0 : 0 ≤ st.sign) (hs1 : st.sign < 131072) :
    Calls Tryd.prog 90 #[.pointer (some ⟨b, 0, none⟩), v, .int .u8 x] w fun e w' => Told base b v xs (onS st x) w e w' := by
  have hok := onS_ok st x h.ok hp hx0
  have T := told_set (st' := onS st x) h hok hv hvb
  have c0 : w.cell? ⟨b, 0, none⟩ = some (.int .i32 st.sign) := h.cell 0
  have c1 : w.cell? ⟨b, 1, none⟩ = some (.int .i64 st.waits) := h.cell 1
  have c2 : w.cell? ⟨b, 2, none⟩ = some (.int .i64 st.missing) := h.cell 2
  have c3 : w.cell? ⟨b, 3, none⟩ = some (.int .u8 st.low) := h.cell 3
  have c4 : w.cell? ⟨b, 4, none⟩ = some (.int .u8 st.high) := h.cell 4
  have f0 := h.free 0
  have f1 := h.free 1
  have f2 := h.free 2
  have f3 := h.free 3
  have f4 := h.free 4
  have e1 := u8_and63 x hx0 (show x < 256 by omega)
  have e2 : bits .or .i32 (st.sign * 64) (x % 64) = st.sign * 64 + x % 64 := i32_or6 _ _ (by omega) (by omega) (by omega) (by omega) (by omega)
  have hb : onS st x = ⟨st.sign * 64 + x % 64, st.waits + 1, st.missing - 1, 128, 191⟩ := by
    have h1 : ¬ st.missing = 1 := by omega
    simp [onS, h1]
  rw [hb] at T ⊢
  have TH := Lib.hid T
  clear T hb hok h hv hvb
  go_enter Tryd.func90, Tryd.ntmps90
  go_wp2
  go_region
  all_goals go_wp2
  all_goals go_ret
  all_goals exact told_drew TH.out

/-- goOn, whatever is missing. -/
theorem goOn_any (b base : Nat) (v : Value) (xs : List Int) (x : Int) (hx0 : 0 ≤ x) (hx1 : x ≤ 255) (w : World) (st : St) (h : Rd w b st) (hv : Has w base v xs) (hvb : v.ownBlock ≠ some b) (hn : xs.length ≤ 1099511627776) (hbase : base ≤ w.heap.size) (hp : 0 < st.waits) :
    Calls Tryd.prog 90 #[.pointer (some ⟨b, 0, none⟩), v, .int .u8 x] w fun e w' => Told base b v (xs ++ onO st x) (onS st x) w e w' := by
  have k1 := h.ok.waits
  have k2 := h.ok.missing
  have k3 := h.ok.pos hp
  have k4 := h.ok.sign
  by_cases hm : st.missing = 1
  · have e1 : onO st x = [st.sign * 64 + x % 64] := by simp [onO, hm]
    have e2 : onS st x = st0 := by simp [onS, hm]
    rw [e1, e2]
    exact goOn_last b base v xs x hx0 hx1 w st h hv hvb hn hbase hm k4.1 (by omega)
  · have e1 : onO st x = [] := by simp [onO, hm]
    rw [e1, List.append_nil]
    exact goOn_more b base v xs x hx0 hx1 w st h hv hvb (by omega) k2.2 hp k1.2 k4.1 (by omega)

theorem Told.shape {base b : Nat} {v : Value} {xs : List Int} {st' : St} {w : World} {e : Ending} {w' : World} (h : Told base b v xs st' w e w') : ∃ v', e = .returned v' ∧ Has w' base v' xs ∧ Rd w' b st' ∧ Kept (some b) v.ownBlock w w' ∧ (v'.ownBlock = v.ownBlock ∨ ∃ k, v'.ownBlock = some k ∧ w.heap.size ≤ k) := h
theorem told_two {base b : Nat} {v v1 : Value} {xs ys : List Int} {st1 st2 : St} {w w1 : World} {e : Ending} {w2 : World} (hk : Kept (some b) v.ownBlock w w1) (ha : v1.ownBlock = v.ownBlock ∨ ∃ k, v1.ownBlock = some k ∧ w.heap.size ≤ k) (h2 : Told base b v1 ys st2 w1 e w2) (_ : Told base b v xs st1 w (.returned v1) w1) : Told base b v ys st2 w e w2 := by
  obtain ⟨v2, rfl, a1, a2, a3, a4⟩ := h2
  refine ⟨v2, rfl, a1, a2, ⟨a3.os.trans hk.os, a3.tape.trans hk.tape, a3.output.trans hk.output, Nat.le_trans hk.size a3.size, fun k h0 h1 h2 => ?_⟩, ?_⟩
  · rw [a3.block k (Nat.lt_of_lt_of_le h0 hk.size) h1 ?_]
    · exact hk.block k h0 h1 h2
    · rcases ha with e | ⟨j, e, hj⟩
      · rw [e]; exact h2
      · rw [e]; intro e'; injection e' with e'; omega
  · rcases a4 with e | ⟨j, e, hj⟩
    · rcases ha with e' | ⟨j, e', hj⟩
      · exact .inl (e.trans e')
      · exact .inr ⟨j, e.trans e', hj⟩
    · exact .inr ⟨j, e, Nat.le_trans hk.size hj⟩
theorem told_ne {b : Nat} {v v1 : Value} {w : World} (hvb : v.ownBlock ≠ some b) (hb : b < w.heap.size) (ha : v1.ownBlock = v.ownBlock ∨ ∃ k, v1.ownBlock = some k ∧ w.heap.size ≤ k) : v1.ownBlock ≠ some b := by
  rcases ha with e | ⟨j, e, hj⟩
  · rw [e]; exact hvb
  · rw [e]; intro e'; injection e' with e'; omega

set_option maxRecDepth 100000 in
set_option maxHeartbeats 400000 in
theorem read_on (b base : Nat) (v : Value) (xs : List Int) (x : Int) (hx0 : 0 ≤ x) (hx1 : x ≤ 255) (w : World) (st : St) (h : Rd w b st) (hv : Has w base v xs) (hvb : v.ownBlock ≠ some b) (hn : xs.length ≤ 1099511627776) (hbase : base ≤ w.heap.size) (hp : 0 < st.waits) (hlo : st.low ≤ x) (hhi : x ≤ st.high) :
    Calls Tryd.prog 85 #[.pointer (some ⟨b, 0, none⟩), v, .int .u8 x] w fun e w' => Told base b v (xs ++ onO st x) (onS st x) w e w' := by
  have C := goOn_any b base v xs x hx0 hx1 w st h hv hvb hn hbase hp
  have CH := Lib.hid C
  have c1 : w.cell? ⟨b, 1, none⟩ = some (.int .i64 st.waits) := h.cell 1
  have c3 : w.cell? ⟨b, 3, none⟩ = some (.int .u8 st.low) := h.cell 3
  have c4 : w.cell? ⟨b, 4, none⟩ = some (.int .u8 st.high) := h.cell 4
  clear C h hv hvb
  go_enter Tryd.func85, Tryd.ntmps85
  go_wp2_with (go_at_call 90; refine CH.out.mono ?_; rintro e w' ⟨v', rfl, ht⟩)
  go_ret
  exact ⟨v', rfl, ht⟩

set_option maxRecDepth 100000 in
set_option maxHeartbeats 800000 in
theorem read_off (b base : Nat) (v : Value) (xs : List Int) (x : Int) (hx0 : 0 ≤ x) (hx1 : x ≤ 255) (w : World) (st : St) (h : Rd w b st) (hv : Has w base v xs) (hvb : v.ownBlock ≠ some b) (hn : xs.length + 1 ≤ 1099511627776) (hbase : base ≤ w.heap.size) (hp : st.waits = 0 ∨ (0 < st.waits ∧ x < st.low) ∨ (0 < st.waits ∧ st.low ≤ x ∧ st.high < x)) :
    Calls Tryd.prog 85 #[.pointer (some ⟨b, 0, none⟩), v, .int .u8 x] w fun e w' => Told base b v (xs ++ (brk st ++ begO x)) (begS x) w e w' := by
  have C := breakOff_any b base v xs w st h hv hvb (by omega) hbase
  have CH := Lib.hid C
  have D : ∀ v1 w1, Told base b v (xs ++ brk st) st0 w (.returned v1) w1 → Calls Tryd.prog 91 #[.pointer (some ⟨b, 0, none⟩), v1, .int .u8 x] w1 fun e w' => Told base b v (xs ++ (brk st ++ begO x)) (begS x) w e w' := by
    intro v1 w1 ht
    obtain ⟨v', e, a1, a2, a3, a4⟩ := ht.shape
    injection e with e
    subst e
    have hl : (xs ++ brk st).length ≤ 1099511627776 := by
      have : (brk st).length ≤ 1 := by unfold brk; split <;> simp
      simp; omega
    refine (begin_any b base v1 (xs ++ brk st) x hx0 hx1 w1 a2 a1 (told_ne hvb h.lt a4) hl (Nat.le_trans hbase a3.size)).mono fun e w2 h2 => ?_
    rw [← List.append_assoc]
    exact told_two a3 a4 h2 ht
  have DH := Lib.hid D
  have c1 : w.cell? ⟨b, 1, none⟩ = some (.int .i64 st.waits) := h.cell 1
  have c3 : w.cell? ⟨b, 3, none⟩ = some (.int .u8 st.low) := h.cell 3
  have c4 : w.cell? ⟨b, 4, none⟩ = some (.int .u8 st.high) := h.cell 4
  clear C D h hv hvb
  rcases hp with hp | ⟨hp, hq⟩ | ⟨hp, hq, hq'⟩
  · rw [hp] at c1
    have HP := Lib.hid hp
    clear hp
    go_enter Tryd.func85, Tryd.ntmps85
    go_wp2_with (first
      | (go_at_call 86; refine CH.out.mono ?_; rintro e w1 ⟨v1, rfl, ht⟩)
      | (go_at_call 91; refine (DH.out v1 w1 ⟨v1, rfl, ht⟩).mono ?_; rintro e w2 ⟨v2, rfl, ht2⟩))
    go_ret
    exact ⟨v2, rfl, ht2⟩
  all_goals
    go_enter Tryd.func85, Tryd.ntmps85
    go_wp2_with (first
      | (go_at_call 86; refine CH.out.mono ?_; rintro e w1 ⟨v1, rfl, ht⟩)
      | (go_at_call 91; refine (DH.out v1 w1 ⟨v1, rfl, ht⟩).mono ?_; rintro e w2 ⟨v2, rfl, ht2⟩))
    go_ret
    exact ⟨v2, rfl, ht2⟩

/-- read: one step of the machine. -/
theorem read_any (b base : Nat) (v : Value) (xs : List Int) (x : Int) (hx0 : 0 ≤ x) (hx1 : x ≤ 255) (w : World) (st : St) (h : Rd w b st) (hv : Has w base v xs) (hvb : v.ownBlock ≠ some b) (hn : xs.length + 1 ≤ 1099511627776) (hbase : base ≤ w.heap.size) :
    Calls Tryd.prog 85 #[.pointer (some ⟨b, 0, none⟩), v, .int .u8 x] w fun e w' => Told base b v (xs ++ stO st x) (stS st x) w e w' := by
  by_cases g : goes st x
  · have e1 : stO st x = onO st x := by simp [stO, g]
    have e2 : stS st x = onS st x := by simp [stS, g]
    rw [e1, e2]
    exact read_on b base v xs x hx0 hx1 w st h hv hvb (by omega) hbase g.1 g.2.1 g.2.2
  · have e1 : stO st x = brk st ++ begO x := by simp [stO, g]
    have e2 : stS st x = begS x := by simp [stS, g]
    rw [e1, e2]
    have k := h.ok.waits
    refine read_off b base v xs x hx0 hx1 w st h hv hvb hn hbase ?_
    unfold goes at g
    omega
end Go.Proofs.YtalhlgiklochdaaDoor
namespace Go.Proofs.YtalhlgiklochdaaDoor
open Go.ChangeShapes Go.WideShapes Go.ChangeAt Go.RowKit

set_option maxRecDepth 100000 in
set_option maxHeartbeats 400000 in
theorem put_any (b : Nat) (x : Int) (hx0 : 0 ≤ x) (hx1 : x ≤ 255) (w : World) (st : St) (h : Rd w b st) :
    Calls Tryd.prog 75 #[.pointer (some ⟨b, 0, none⟩), .int .u8 x] w fun e w' => Told w.heap.size b (.slice none 0 0) (stO st x) (stS st x) w e w' := by
  have C := read_any b w.heap.size (.slice none 0 0) [] x hx0 hx1 w st h (Has.nothing _ _) (by simp [Value.ownBlock]) (by simp) (Nat.le_refl _)
  have CH := Lib.hid C
  clear C h
  go_enter Tryd.func75, Tryd.ntmps75
  go_wp2_with (go_at_call 85; refine CH.out.mono ?_; rintro e w' ⟨v', rfl, ht⟩)
  go_ret
  exact ⟨v', rfl, ht⟩
set_option maxRecDepth 100000 in
theorem waits_any (b : Nat) (w : World) (st : St) (h : Rd w b st) :
    Calls Tryd.prog 78 #[.pointer (some ⟨b, 0, none⟩)] w fun e w' => e = .returned (.int .i64 st.waits) ∧ w = w' := by
  have c1 : w.cell? ⟨b, 1, none⟩ = some (.int .i64 st.waits) := h.cell 1
  clear h
  go_enter Tryd.func78, Tryd.ntmps78
  go_wp2
  go_ret
  exact ⟨rfl, rfl⟩
set_option maxRecDepth 100000 in
theorem put_nil (x : Int) (w : World) : Calls Tryd.prog 75 #[.pointer none, .int .u8 x] w fun e w' => e = .returned (.slice none 0 0) ∧ w = w' := by
  go_enter Tryd.func75, Tryd.ntmps75
  go_wp2
  go_ret
  exact ⟨rfl, rfl⟩
set_option maxRecDepth 100000 in
theorem waits_nil (w : World) : Calls Tryd.prog 78 #[.pointer none] w fun e w' => e = .returned (.int .i64 0) ∧ w = w' := by
  go_enter Tryd.func78, Tryd.ntmps78
  go_wp2
  go_ret
  exact ⟨rfl, rfl⟩

theorem Has.lower {w : World} {base base' : Nat} {v : Value} {xs : List Int} (h : Has w base v xs) (hb : base' ≤ base) : Has w base' v xs := by
  refine ⟨h.1, ?_⟩
  rcases h.2 with e | ⟨g, cap, cur, e1, e2, r⟩
  · exact .inl e
  · exact .inr ⟨g, cap, cur, e1, Nat.le_trans hb e2, r⟩
theorem Has.below {w w' : World} {B base : Nat} {v : Value} {xs : List Int} (h : Has w base v xs) (hb : Below B w w') (hv : ∀ k, v.ownBlock = some k → k < B) : Has w' base v xs := by
  refine ⟨h.1, ?_⟩
  rcases h.2 with e | ⟨g, cap, cur, rfl, e2, e3, r⟩
  · exact .inl e
  · exact .inr ⟨g, cap, cur, rfl, e2, (hb.block g (hv g rfl)).trans e3, r⟩
theorem Has.ne {w : World} {base b : Nat} {v : Value} {xs : List Int} (h : Has w base v xs) (hb : b < base) : v.ownBlock ≠ some b := fun e => by
  have := (World.ownsRow.lt h b e).1; omega
theorem Has.lt {w : World} {base : Nat} {v : Value} {xs : List Int} (h : Has w base v xs) : ∀ k, v.ownBlock = some k → k < w.heap.size := fun k e => (World.ownsRow.lt h k e).2
theorem Has.sq {w : World} {base : Nat} {A : Option Addr} {n c : Nat} {xs : List Int} (h : Has w base (.slice A n c) xs) : n = xs.length ∧ Sq w w.heap.size 1 n A (xs.map (Value.int .i32)) := by
  obtain ⟨A', c', e⟩ := h.shape
  injection e with e1 e2 e3
  subst e1 e2 e3
  exact ⟨rfl, Sq.own h⟩
theorem Kept.below {b r : Option Nat} {w w' : World} {B : Nat} (h : Kept b r w w') (hB : B ≤ w.heap.size) (hb : ∀ k, b = some k → B ≤ k) (hr : ∀ k, r = some k → B ≤ k) : Below B w w' :=
  ⟨h.os, h.tape, h.output, h.size, fun k hk => h.block k (by omega) (fun e => by have := hb k e.symm; omega) (fun e => by have := hr k e.symm; omega)⟩

/-- What All answers. -/
def AllPost (l : List Int) (w : World) (e : Ending) (w' : World) : Prop := ∃ v, e = .returned v ∧ Has w' w.heap.size v l ∧ Below w.heap.size w w'
/-- What holds at each round of All. -/
def AllAt (s : ByteArray) (w : World) (k : Nat) (v : Value) (wr : World) : Prop := k ≤ s.size ∧ Has wr (w.heap.size + 1) v (runO st0 ((octs s).take k)) ∧ Rd wr w.heap.size (runS st0 ((octs s).take k)) ∧ Below w.heap.size w wr

set_option maxRecDepth 100000 in
set_option maxHeartbeats 800000 in
theorem all_walk (s : ByteArray) (hs : s.size ≤ 274877906944) (w : World) :
    Calls Tryd.prog 76 #[.string s] w fun e w' => AllPost (allO (octs s)) w e w' := by
  go_enter Tryd.func76, Tryd.ntmps76
  go_wp2
  go_loopw [4, 8] (fun v i wr => ∃ k : Nat, i = .int .i64 k ∧ AllAt s w k v wr) (fun _ i _ => s.size - (intOf i).toNat)
  case atStart =>
    refine ⟨0, rfl, Nat.zero_le _, Has.nothing _ _, ⟨?_, st0_ok⟩, (Below.refl _ _).alloc (Nat.le_refl _) _⟩
    exact heap_alloc_new w _
  case round =>
    obtain ⟨k, rfl, hat⟩ := hrel
    by_cases hlt : k < s.size
    · have hx := octs_range s (nth (octs s) k) (by rw [nth_get (by rw [octs_length]; exact hlt)]; exact List.getElem_mem _)
      have hnx := nth_octs s k hlt
      rw [hnx] at hx
      have C := fun hn => read_any w.heap.size (w.heap.size + 1) u4 (runO st0 ((octs s).take k)) _ hx.1 hx.2 wr _ hat.2.2.1 hat.2.1 (hat.2.1.ne (Nat.lt_succ_self _)) hn hat.2.2.1.lt
      have CH := Lib.hid (C (by
        have := runO_length ((octs s).take k) st0
        have := List.length_take_le k (octs s)
        omega))
      have NX := Lib.hid hnx
      clear C hx hnx
      go_wp2_with (go_at_call 85; refine CH.out.mono ?_; rintro e w' ⟨v', rfl, ht⟩)
      go_roundw
      case rel =>
        refine ⟨k + 1, by go_num, by omega, ?_, ?_, ?_⟩
        · rw [take_next (by rw [octs_length]; exact hlt), runO_append, NX.out]; simpa [runO] using ht.1
        · rw [take_next (by rw [octs_length]; exact hlt), runS_append, NX.out]; exact ht.2.1
        · exact hat.2.2.2.trans (ht.2.2.1.below (Nat.le_of_lt hat.2.2.1.lt) (fun j e => by injection e with e; omega) (fun j e => by have := (World.ownsRow.lt hat.2.1 j e).1; omega))
      case measure => simp [intOf]; omega
    · have hk : (octs s).take k = octs s := take_all _ (by rw [octs_length]; omega)
      obtain ⟨_, h1, h2, h3⟩ := hat
      rw [hk] at h1 h2
      have C := fun hn => breakOff_any w.heap.size (w.heap.size + 1) u4 (runO st0 (octs s)) wr _ h2 h1 (h1.ne (Nat.lt_succ_self _)) hn h2.lt
      have CH := Lib.hid (C (by
        have := runO_length (octs s) st0
        rw [octs_length] at this
        omega))
      have HB := Lib.hid (fun w' (hkp : Kept (some w.heap.size) u4.ownBlock wr w') => h3.trans (hkp.below (B := w.heap.size) (Nat.le_of_lt h2.lt) (fun j e => by injection e with e; omega) (fun j e => by have := (World.ownsRow.lt h1 j e).1; omega)))
      clear C hk h1 h2 h3
      go_wp2_with (go_at_call 86; refine CH.out.mono ?_; rintro e w' ⟨v', rfl, ht⟩)
      go_ret
      exact ⟨v', rfl, Has.lower ht.1 (by omega), HB.out _ ht.2.2.1⟩
end Go.Proofs.YtalhlgiklochdaaDoor
