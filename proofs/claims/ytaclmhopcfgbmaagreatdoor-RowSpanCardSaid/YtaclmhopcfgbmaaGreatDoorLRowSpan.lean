/-
  The statement RowSpan: what is erased is blank; all others are as they were, but for halves at the edges; erased again it is the same. For every row (of which the statement reads the first 310 cells) and every pair of integers; it holds where the table of widths is as its initialiser lays it, which the card ties to the program's text.
-/
import Derived.Test.YtaclmhopcfgbmaaGreatDoorQBegun0
import Derived.Test.YtaclmhopcfgbmaaGreatDoorQBase5
import Derived.Test.YtaclmhopcfgbmaaGreatDoorQSum0
import Derived.Test.YtaclmhopcfgbmaaGreatDoorQRefRow1
import Derived.Test.YtaclmhopcfgbmaaGreatDoorQBase2
import Derived.Test.YtaclmhopcfgbmaaGreatDoorQBase4
import Derived.Test.YtaclmhopcfgbmaaGreatDoorQBase7
import Derived.BigQuiet
import Derived.Deep.CutRange
namespace Go.Proofs.YtaclmhopcfgbmaaGreatDoor.rowSpan
open Go.ChangeShapes Go.WideShapes Go.ChangeAt Go.RowKit
open Rw
theorem at_in {l : List Cel} {f t i : Nat} (hok : eraseOk l (f : Int) (t : Int) = true) (hi : f ≤ i ∧ i < t) : cAt (eraseRes l (f : Int) (t : Int)) i = (32, 1, 0) := by
 have hb : t ≤ l.length := by
  unfold eraseOk at hok
  simp only [Bool.and_eq_true, decide_eq_true_eq] at hok
  omega
 unfold eraseRes
 rw [hok, decide_eq_true (show (f : Int) < (t : Int) by omega), Bool.and_self, if_pos rfl, Int.toNat_natCast, show ((t : Int) - (f : Int)).toNat = t - f by omega, ovL_at (by omega)]
 unfold ovS
 rw [if_pos ⟨hi.1, by rw [blanksL_length]; omega⟩, cAt_blanksL]
theorem at_out {l : List Cel} {f t i : Nat} (hok : eraseOk l (f : Int) (t : Int) = true) (hil : i < l.length) (hi : ¬ (f ≤ i ∧ i < t)) (h1 : i + 1 ≠ f) (h2 : i ≠ t) : cAt (eraseRes l (f : Int) (t : Int)) i = cAt l i := by
 unfold eraseRes
 rw [hok, Bool.true_and]
 split
 ·rename_i h
  have hlt : f < t := by simpa using h
  rw [Int.toNat_natCast, show ((t : Int) - (f : Int)).toNat = t - f by omega, ovL_at hil]
  unfold ovS
  rw [blanksL_length, if_neg (by omega), if_neg (by omega), if_neg (by omega)]
 ·rfl
theorem erase_len (l : List Cel) (a b : Int) : (eraseRes l a b).length = l.length := by
 unfold eraseRes
 split
 ·exact ovL_length _ _ _
 ·rfl
theorem erase_good {l : List Cel} {a b : Int} (hok : eraseOk l a b = true) : mayL (eraseRes l a b) = true := by
 have ho := hok
 unfold eraseOk at ho
 simp only [Bool.and_eq_true, decide_eq_true_eq] at ho
 unfold eraseRes
 rw [hok, Bool.true_and]
 split
 ·rename_i h
  have hlt : a < b := by simpa using h
  obtain ⟨h1, h2⟩ := (mayL_iff l).1 ho.1.1.1
  exact (mayL_iff _).2 ⟨by rw [ovL_length]; exact h1, ovL_good h2 (blanksL_whole (by omega)) (by rw [blanksL_length]; omega)⟩
 ·exact ho.1.1.1
theorem again {l : List Cel} {f t : Nat} (hok : eraseOk l (f : Int) (t : Int) = true) : eraseOk (eraseRes l (f : Int) (t : Int)) (f : Int) (t : Int) = true ∧ eraseRes (eraseRes l (f : Int) (t : Int)) (f : Int) (t : Int) = eraseRes l (f : Int) (t : Int) := by
 have ho := hok
 unfold eraseOk at ho
 simp only [Bool.and_eq_true, decide_eq_true_eq] at ho
 have hok2 : eraseOk (eraseRes l (f : Int) (t : Int)) (f : Int) (t : Int) = true := by
  unfold eraseOk
  rw [erase_good hok, erase_len, decide_eq_true ho.1.1.2, decide_eq_true ho.1.2, decide_eq_true ho.2]
  rfl
 refine ⟨hok2, ?_⟩
 have G := ((mayL_iff _).1 (erase_good hok)).2
 refine ext_cAt (erase_len _ _ _) fun i hi => ?_
 rw [erase_len] at hi
 by_cases hin : f ≤ i ∧ i < t
 ·rw [at_in hok2 hin, at_in hok hin]
 ·by_cases hlt : f < t
  ·have hf := at_in hok (i := f) ⟨Nat.le_refl _, hlt⟩
   have ht := at_in hok (i := t - 1) ⟨by omega, by omega⟩
   obtain ⟨E, hE⟩ : ∃ E, eraseRes l (f : Int) (t : Int) = E := ⟨_, rfl⟩
   rw [hE] at G hf ht hi hok2 ⊢
   unfold eraseRes
   rw [hok2, decide_eq_true (show (f : Int) < (t : Int) by omega), Bool.and_self, if_pos rfl, Int.toNat_natCast, show ((t : Int) - (f : Int)).toNat = t - f by omega, ovL_at hi]
   unfold ovS
   rw [blanksL_length, if_neg (by omega)]
   split
   ·rename_i h
    have := (G.next i).1 h.2
    rw [h.1, hf] at this
    cases this
   ·split
    ·rename_i h
     have hp := (G.pair i).2 h.2
     unfold cPrev at hp
     rw [if_neg (by omega), show i - 1 = t - 1 by omega, ht] at hp
     cases hp
    ·rfl
  ·have e : eraseRes (eraseRes l (f : Int) (t : Int)) (f : Int) (t : Int) = eraseRes l (f : Int) (t : Int) := by
    conv => lhs; unfold eraseRes
    rw [decide_eq_false (show ¬ (f : Int) < (t : Int) by omega), Bool.and_false, if_neg (by simp)]
    unfold eraseRes
    rw [decide_eq_false (show ¬ (f : Int) < (t : Int) by omega), Bool.and_false, if_neg (by simp)]
   rw [e]
theorem again_wrap {l : List Cel} {f t : Nat} (wr : Bool) (hok : eraseOk l (f : Int) (t : Int) = true) : eraseWrap (eraseWrap wr l (f : Int) (t : Int)) (eraseRes l (f : Int) (t : Int)) (f : Int) (t : Int) = eraseWrap wr l (f : Int) (t : Int) := by
 unfold eraseWrap
 rw [(again hok).1, hok, erase_len]
 split <;> rfl
theorem eqL_refl (l : List Cel) : eqL l l = true := by simp [eqL]
theorem neq_same (a b c : Int) (w : World) : (binOp .neq 54 (.agg #[.int .i32 a, .int .i64 b, .int .i64 c]) (.agg #[.int .i32 a, .int .i64 b, .int .i64 c])).run Tryz.prog w = .ok (.bool false) w := by
 have h1 : (a == a) = true := by simp
 have h2 : (b == b) = true := by simp
 have h3 : (c == c) = true := by simp
 go_simp
set_option maxRecDepth 100000 in
set_option maxHeartbeats 12800000 in
theorem walk (r : RowIn) (y : Int) (hy : -9223372036854775808 ≤ y ∧ y ≤ 9223372036854775807) (z : Int) (hz : -9223372036854775808 ≤ z ∧ z ≤ 9223372036854775807) (w : World) (hs : Spans w) (hr : r.Ok w w.heap.size) :
  Calls Tryz.prog 7 #[rowV r.A r.n r.c r.wrap, .int .i64 y, .int .i64 z] w fun e w' => e = .returned (.bool true) ∧ Below w.heap.size w w' := by
 obtain ⟨rA, rn, rc, rw_, rl⟩ := r
 have S := Lib.hid hs
 obtain ⟨h1, h2, h3, h4⟩ := hr
 dsimp only at h1 h2 h3 h4
 have HR := Lib.hid (And.intro h3 h4)
 obtain ⟨b0, hb0⟩ : ∃ b0, w.heap.size = b0 := ⟨_, rfl⟩
 obtain ⟨w0, hw0⟩ : ∃ w0, w.alloc (.cells #[.slice rA rn rc, .bool rw_] 40) = w0 := ⟨_, rfl⟩
 have B0 := Lib.hid (show Below w.heap.size w w0 ∧ RowAt w0 b0 (.slice rA rn rc) rw_ from by
  rw [← hw0, ← hb0]
  exact ⟨(Below.refl _ _).alloc (Nat.le_refl _) _, heap_alloc_new w _⟩)
 have HB0 := Lib.hid hb0
 have HW0 := Lib.hid hw0
 have H1 := Lib.hid (And.intro h1 h2)
 clear hs h1 h2 h3 h4 hb0 hw0
 go_enter Tryz.func7, Tryz.ntmps7
 go_wp2_with fail
 rw [HB0.out]
 change Calls _ _ _ (w.alloc (.cells #[.slice rA rn rc, .bool rw_] 40)) _
 rw [HW0.out]
 refine (Bg.begun7_walk w0 (S.out.below B0.out.1 S.out.size)).mono ?_
 rintro e w1 ⟨rfl, b1⟩
 have R1 := Lib.hid (show RowAt w1 b0 (.slice rA rn rc) rw_ from (b1.block b0 B0.out.2.lt).trans B0.out.2)
 have B1 := Lib.hid (B0.out.1.trans (b1.mono B0.out.1.size))
 have k0 : w1.cell? ⟨b0, 0, none⟩ = some (.slice rA rn rc) := R1.out.get 0
 have k1 : w1.cell? ⟨b0, 1, none⟩ = some (.bool rw_) := R1.out.get 1
 have LR := Lib.hid (lawRow_walk rA rn rc rw_ rl w1 ((HR.out.2.below B1.out).up B1.out.size) H1.out.1 H1.out.2)
 have HL := Lib.hid (show ∀ c ∈ cut310 rl, -2147483648 ≤ c.1 ∧ c.1 ≤ 2147483647 from fun c hc => HR.out.1 c (List.mem_of_mem_take hc))
 have S1 := Lib.hid (S.out.below B1.out S.out.size)
 clear b1 B0 HW0
 go_wp2_with fail
 refine LR.out.mono ?_
 rintro e w2 ⟨v2, rfl, hv2, b2⟩
 obtain ⟨A2, c2, rfl, _⟩ := HasC.shape hv2
 obtain ⟨l, hl⟩ : ∃ l, cut310 rl = l := ⟨_, rfl⟩
 have hl310 : l.length ≤ 310 := by rw [← hl]; exact cut310_len rl
 rw [hl] at hv2 HL ⊢
 obtain ⟨n, hn⟩ : ∃ n, l.length = n := ⟨_, rfl⟩
 rw [hn] at hv2 hl310 ⊢
 have LN := Lib.hid hn
 have r2 : RowAt w2 b0 (.slice rA rn rc) rw_ := (b2.block b0 R1.out.lt).trans R1.out
 have q0 := r2.get 0
 have q1 := r2.get 1
 have qf0 := r2.free 0
 have qf1 := r2.free 1
 have OF := (OnlyRow.cell b0 0 w2 (.slice A2 n c2)).trans (OnlyRow.cell b0 1 _ (.bool rw_))
 have RF := Lib.hid (RowAt.put2 r2 (.slice A2 n c2) rw_)
 have hb0lt := R1.out.lt
 have HF := Lib.hid (HasC.keep hv2 (fun j e => OF.block j (by have := (HasC.lt hv2 j e).1; omega)))
 have B2 := Lib.hid (show Below w.heap.size w ((w2.setCell ⟨b0, 0, none⟩ (.slice A2 n c2)).setCell ⟨b0, 1, none⟩ (.bool rw_)) from (B1.out.trans (b2.mono B1.out.size)).trans ((Turned.ofOnly OF).toBelow (B1.out.trans (b2.mono B1.out.size)).size (fun k hk e => by have := HB0.out; omega)))
 clear hn hl hv2 b2 OF LR k0 k1 S1 HR R1 H1 B1 hb0lt r2
 go_upto_region 5 with fail
 generalize (w2.setCell ⟨b0, 0, none⟩ (.slice A2 n c2)).setCell ⟨b0, 1, none⟩ (.bool rw_) = w3 at RF HF B2 ⊢
 have k0 : w3.cell? ⟨b0, 0, none⟩ = some (.slice A2 n c2) := RF.out.get 0
 have k1 : w3.cell? ⟨b0, 1, none⟩ = some (.bool rw_) := RF.out.get 1
 have S3 := Lib.hid (S.out.below B2.out S.out.size)
 have Q3 := Lib.hid (HasC.sq HF.out)
 have RR := Lib.hid (refRow_walk A2 n c2 rw_ l w3 HL.out Q3.out (by omega))
 clear q0 q1 qf0 qf1 S
 go_wp2_with fail
 refine RR.out.mono ?_
 rintro e w4 ⟨rfl, b4⟩
 have R4 := Lib.hid (show RowAt w4 b0 (.slice A2 n c2) rw_ from (b4.block b0 RF.out.lt).trans RF.out)
 have B4 := Lib.hid (B2.out.trans (b4.mono B2.out.size))
 have Q4 := Lib.hid ((Q3.out.below b4).up b4.size)
 have S4 := Lib.hid (S3.out.below b4 S3.out.size)
 have k0 : w4.cell? ⟨b0, 0, none⟩ = some (.slice A2 n c2) := R4.out.get 0
 have k1 : w4.cell? ⟨b0, 1, none⟩ = some (.bool rw_) := R4.out.get 1
 clear b4 RR RF HF B2 Q3 S3
 obtain ⟨mb, hmb⟩ : ∃ mb, mayL l = mb := ⟨_, rfl⟩
 rw [hmb]
 cases mb with
 | false =>
  clear hmb
  go_wp2
  go_ret
  exact ⟨rfl, B4.out⟩
 | true =>
  have MB := Lib.hid hmb
  clear hmb
  by_cases hy0 : y < 0
  ·go_wp2
   go_ret
   exact ⟨rfl, B4.out⟩
  by_cases hzy : z < y
  ·go_wp2
   go_ret
   exact ⟨rfl, B4.out⟩
  by_cases hzn : (n : Int) < z
  ·go_wp2
   go_ret
   exact ⟨rfl, B4.out⟩
  obtain ⟨f, rfl⟩ := Int.eq_ofNat_of_zero_le (show 0 ≤ y by omega)
  obtain ⟨t, rfl⟩ := Int.eq_ofNat_of_zero_le (show 0 ≤ z by omega)
  have hok : eraseOk l (f : Int) (t : Int) = true := by
   unfold eraseOk
   rw [MB.out, LN.out, decide_eq_true (show (0 : Int) ≤ (f : Int) by omega), decide_eq_true (show (f : Int) ≤ (t : Int) by omega), decide_eq_true (show (t : Int) ≤ (n : Int) by omega)]
   rfl
  have EW := Lib.hid (rowErase_walk A2 n c2 rw_ l (f : Int) (t : Int) w4 S4.out HL.out Q4.out (by omega))
  rw [hok] at EW
  have OK := Lib.hid hok
  clear hok MB hy
  go_wp2_with fail
  refine EW.out.mono ?_
  rintro e w5 ⟨A5, n5, c5, rfl, hv5, b5⟩
  have hn5 : n5 = n := by
   obtain ⟨_, _, e, _⟩ := HasC.shape hv5
   injection e with _ e _
   rw [e, erase_len, LN.out]
  subst hn5
  obtain ⟨E, hE⟩ : ∃ E, eraseRes l (f : Int) (t : Int) = E := ⟨_, rfl⟩
  obtain ⟨we, hwe⟩ : ∃ we, eraseWrap rw_ l (f : Int) (t : Int) = we := ⟨_, rfl⟩
  have EE := Lib.hid hE
  have WE := Lib.hid hwe
  rw [hE] at hv5
  rw [hwe]
  obtain ⟨b8, hb8⟩ : ∃ b8, w5.heap.size = b8 := ⟨_, rfl⟩
  obtain ⟨w6, hw6⟩ : ∃ w6, w5.alloc (.cells #[.slice A5 n5 c5, .bool we] 40) = w6 := ⟨_, rfl⟩
  have ba : Below w5.heap.size w5 w6 := by rw [← hw6]; exact (Below.refl _ _).alloc (Nat.le_refl _) _
  have R8 := Lib.hid (show RowAt w6 b8 (.slice A5 n5 c5) we from by rw [← hw6, ← hb8]; exact heap_alloc_new w5 _)
  have R0 := Lib.hid (show RowAt w6 b0 (.slice A2 n5 c2) rw_ from (ba.block b0 (Nat.lt_of_lt_of_le R4.out.lt b5.size)).trans ((b5.block b0 R4.out.lt).trans R4.out))
  have QE := Lib.hid (show Sq w6 w6.heap.size 3 n5 A5 (flat E) from ((HasC.sq hv5).below ba).up ba.size)
  have QL := Lib.hid (show Sq w6 w6.heap.size 3 n5 A2 (flat l) from (((Q4.out.below b5).up b5.size).below ba).up ba.size)
  have B6 := Lib.hid (show Below w.heap.size w w6 from (B4.out.trans (b5.mono B4.out.size)).trans (ba.mono (Nat.le_trans B4.out.size b5.size)))
  have S6 := Lib.hid ((S4.out.below b5 S4.out.size).below ba (Nat.lt_of_lt_of_le S4.out.size b5.size))
  have HLE := Lib.hid (show ∀ c ∈ E, -2147483648 ≤ c.1 ∧ c.1 ≤ 2147483647 from fun c hc => by
   rw [← hE] at hc
   unfold eraseRes at hc
   split at hc
   ·exact Sc.ovL_signs HL.out (Sc.blanks_signs _) c hc
   ·exact HL.out c hc)
  have HB8 := Lib.hid hb8
  have HW6 := Lib.hid hw6
  have s0 : w6.cell? ⟨b8, 0, none⟩ = some (.slice A5 n5 c5) := R8.out.get 0
  have s1 : w6.cell? ⟨b8, 1, none⟩ = some (.bool we) := R8.out.get 1
  have t0 : w6.cell? ⟨b0, 0, none⟩ = some (.slice A2 n5 c2) := R0.out.get 0
  have t0' : (w5.alloc (.cells #[.slice A5 n5 c5, .bool we] 40)).cell? ⟨b0, 0, none⟩ = some (.slice A2 n5 c2) := by rw [hw6]; exact t0
  clear hv5 b5 ba hE hwe hb8 hw6 EW R4 Q4 S4 B4 k0 k1
  go_upto_region 10 with fail
  rw [HB8.out]
  change Code.wp _ _ _ _ (w5.alloc (.cells #[.slice A5 n5 c5, .bool we] 40))
  rw [HW6.out]
  clear t0' HB8 HW6
  go_cut [58, 59] from 14 to 59 (fun s58 s59 wx => s58 = .int .i64 (n5 : Int) ∧ s59 = .int .i64 0 ∧ wx = w6)
  case first =>
   go_wp2
   go_meet
   exact ⟨rfl, rfl, rfl⟩
  obtain ⟨rfl, rfl, hwc⟩ := hcut
  rw [hwc]
  clear hwc
  go_wp2_with fail
  have I0 := Lib.hid (Below.refl w6.heap.size w6)
  have hfn : f ≤ t ∧ t ≤ n5 := by omega
  clear hz hy0 hzy hzn
  go_loopw [10, 11, 59] (fun _ _ v59 wx => ∃ i : Nat, v59 = .int .i64 i ∧ i ≤ n5 ∧ Hid (Below w6.heap.size w6 wx)) (fun _ _ v59 _ => n5 - (intOf v59).toNat)
  case atStart => exact ⟨0, rfl, Nat.zero_le _, I0⟩
  case round =>
   obtain ⟨i, rfl, hi, BX⟩ := hrel
   clear I0
   have d8 : wr.cell? ⟨b8, 0, none⟩ = some (.slice A5 n5 c5) := (BX.out.cell (p := ⟨b8, 0, none⟩) R8.out.lt).trans s0
   have d0 : wr.cell? ⟨b0, 0, none⟩ = some (.slice A2 n5 c2) := (BX.out.cell (p := ⟨b0, 0, none⟩) R0.out.lt).trans t0
   by_cases hin : i < n5
   ·have hi0 : (0 : Int) ≤ (i : Int) := by omega
    have hin' : (i : Int) < (n5 : Int) := by omega
    have hinc : IntKind.i64.wrap ((i : Int) + 1) = (i : Int) + 1 := IntWalk.i64_in _ (by omega)
    have hsub : IntKind.i64.wrap ((f : Int) - 1) = (f : Int) - 1 := IntWalk.i64_in _ (by omega)
    have qe := QE.out.below BX.out
    have ql := QL.out.below BX.out
    obtain ⟨ge, oe, rfl, hge, _⟩ := qe.spot (by omega)
    obtain ⟨gl, ol, rfl, hgl, _⟩ := ql.spot (by omega)
    have hEl : E.length = n5 := by rw [← EE.out, erase_len, LN.out]
    obtain ⟨⟨x, m, a⟩, hx⟩ : ∃ c, cAt E i = c := ⟨_, rfl⟩
    obtain ⟨e0, e1, e2⟩ := Sq.cellsAt qe (k := i) (c := (x, m, a)) (by rw [cAt_get (by omega), hx])
    obtain ⟨⟨x', m', a'⟩, hx'⟩ : ∃ c, cAt l i = c := ⟨_, rfl⟩
    obtain ⟨l0, l1, l2⟩ := Sq.cellsAt ql (k := i) (c := (x', m', a')) (by rw [cAt_get (by have := LN.out; omega), hx'])
    have GE := Lib.hid (And.intro hge hgl)
    clear qe ql
    by_cases hinn : f ≤ i ∧ i < t
    ·have hb := at_in OK.out hinn
     rw [EE.out, hx] at hb
     injection hb with h1 h2
     injection h2 with h2 h3
     subst h1 h2 h3
     have g1 : (f : Int) ≤ (i : Int) := by omega
     have g2 : (i : Int) < (t : Int) := by omega
     have hE := neq_same 32 1 0
     have DD := Lib.hid (show ∀ W, Below wr.heap.size wr W → W.cell? ⟨b8, 0, none⟩ = some (.slice (some ⟨ge, oe, none⟩) n5 c5) ∧ W.cell? ⟨ge, oe + i * 3, none⟩ = some (.int .i32 32) ∧ W.cell? ⟨ge, oe + i * 3 + 1, none⟩ = some (.int .i64 1) ∧ W.cell? ⟨ge, oe + i * 3 + 2, none⟩ = some (.int .i64 0) ∧ Below w6.heap.size w6 W from fun W b => by
      have l1 := Nat.lt_of_lt_of_le R8.out.lt BX.out.size
      have l2 := Nat.lt_of_lt_of_le GE.out.1 BX.out.size
      exact ⟨(b.cell (p := ⟨b8, 0, none⟩) l1).trans d8, (b.cell (p := ⟨ge, oe + i * 3, none⟩) l2).trans e0, (b.cell (p := ⟨ge, oe + i * 3 + 1, none⟩) l2).trans e1, (b.cell (p := ⟨ge, oe + i * 3 + 2, none⟩) l2).trans e2, BX.out.trans (b.mono BX.out.size)⟩)
     clear hinn hx hx' l0 l1 l2 d0
     go_upto_region 14 with fail
     refine Ord.start (S := fun W => Below wr.drew.heap.size wr.drew W) (n := 38) (by kernel_rfl) (by kernel_rfl) (Below.refl _ _) ?_
     apply span_region (w1 := wr.drew) (f := f) (t := t) (b0 := b0) (b8 := b8) (i := i) (ge := ge) (oe := oe) (n := n5) (c5 := c5) (p0 := rowV rA rn rc rw_) (p6 := u6) (p7 := .bool true) (p9 := .bool true) (p14 := u14) (p15 := u15) (p16 := u16) (p17 := u17) (p18 := u18) (p19 := u19) (p20 := u20) (p21 := u21) (p22 := u22) (p23 := u23) (p24 := u24) (p25 := u25) (p26 := u26) (p27 := u27) (p28 := u28) (p29 := u29) (p30 := u30) (p31 := u31) (p32 := u32) (p33 := u33) (p34 := u34) (p35 := u35) (p36 := u36) (p37 := u37) (p38 := u38) (p39 := u39) (p40 := u40) (p41 := u41) (p42 := u42) (p43 := u43) (p44 := u44) (p45 := u45) (p46 := u46) (p47 := u47) (p48 := u48) (p49 := u49) (p50 := u50) (p51 := u51) (p52 := u52) (p53 := u53) (p54 := u54) (p55 := u55) (p56 := u56) (p57 := u57) (p58 := .int .i64 (n5 : Int)) (p59 := .int .i64 (i : Int)) (p4 := undef) (p5 := undef) (p12 := undef) (p13 := undef) (p109 := undef) (p110 := undef) (p111 := undef) (p112 := undef) (p113 := undef) (p114 := undef) (p115 := undef) (p116 := undef) (p117 := undef) (p118 := undef) (p119 := undef) (p120 := undef) (p121 := undef)
     case R => exact ⟨by kernel_rfl, by kernel_rfl⟩
     case hQ => exact fun _ _ _ _ _ h => h
     case c0 => exact fun W h => (DD.out W ((Below.refl _ _).drew.trans h)).1
     case hi0 => exact hi0
     case hin => exact hin'
     case e0 => exact fun W h => (DD.out W ((Below.refl _ _).drew.trans h)).2.1
     case e1 => exact fun W h => (DD.out W ((Below.refl _ _).drew.trans h)).2.2.1
     case e2 => exact fun W h => (DD.out W ((Below.refl _ _).drew.trans h)).2.2.2.1
     case BL => exact fun W => refBlank_walk W
     case F => constructor <;> rfl
     case hS => exact Below.refl _ _
     intro a2 W2 F2 f107 hW2
     have B9 := Lib.hid ((DD.out W2 ((Below.refl _ _).drew.trans hW2)).2.2.2.2)
     refine span_frame F2.size F2.defers F2.s0 F2.s1 F2.s2 F2.s3 F2.s4 F2.s5 F2.s6 F2.s7 F2.s8 F2.s9 F2.s10 F2.s11 F2.s12 F2.s13 F2.s14 F2.s15 F2.s16 F2.s17 F2.s18 F2.s19 F2.s20 F2.s21 F2.s22 F2.s23 F2.s24 F2.s25 F2.s26 F2.s27 F2.s28 F2.s29 F2.s30 F2.s31 F2.s32 F2.s33 F2.s34 F2.s35 F2.s36 F2.s37 F2.s38 F2.s39 F2.s40 F2.s41 F2.s42 F2.s43 F2.s44 F2.s45 F2.s46 F2.s47 F2.s48 F2.s49 F2.s50 F2.s51 F2.s52 F2.s53 F2.s54 F2.s55 F2.s56 F2.s57 F2.s58 F2.s59 f107 F2.s109 F2.s110 F2.s111 F2.s112 F2.s113 F2.s114 F2.s115 F2.s116 F2.s117 F2.s118 F2.s119 F2.s120 F2.s121 ?_
     intros
     clear F2 f107 hW2 DD d8
     try dsimp only
     go_wp2
     go_roundw
     case rel => exact ⟨i + 1, by first | rfl | (congr 1; done) | (congr 1; omega), by omega, B9⟩
     case measure => first | (simp [intOf]; done) | (simp [intOf]; omega)
    ·have BD := fun nq => Lib.hid (Below.drewN BX.out nq)
     have G1 := hinn
     by_cases g0 : i + 1 = f
     ·have g1 : ¬ (f : Int) ≤ (i : Int) := by omega
      have g3 : ((i : Int) != (f : Int) - 1) = false := by simp; omega
      clear hinn hx hx' l0 l1 l2 e0 e1 e2 d0 d8 G1
      go_upto_region 14 with fail
      go_quiet (fail)
      rename_i nq
      go_wp2
      go_roundw
      case rel => exact ⟨i + 1, by first | rfl | (congr 1; done) | (congr 1; omega), by omega, BD nq⟩
      case measure => first | (simp [intOf]; done) | (simp [intOf]; omega)
     ·have g3 : ((i : Int) != (f : Int) - 1) = true := by simp; omega
      have hcond : ¬ (f : Int) ≤ (i : Int) ∨ ((f : Int) ≤ (i : Int) ∧ ¬ (i : Int) < (t : Int)) := by omega
      by_cases g4 : i = t
      ·subst g4
       have g5 : ((i : Int) != (i : Int)) = false := by simp
       clear hinn hx hx' l0 l1 l2 e0 e1 e2 d0 d8 G1
       rcases hcond with g1 | ⟨g1, g2⟩
       all_goals
        go_upto_region 14 with fail
        go_quiet (fail)
        rename_i nq
        go_wp2
        go_roundw
        case rel => exact ⟨i + 1, by first | rfl | (congr 1; done) | (congr 1; omega), by omega, BD nq⟩
        case measure => first | (simp [intOf]; done) | (simp [intOf]; omega)
      ·have g5 : ((i : Int) != (t : Int)) = true := by simp; omega
       have hs := at_out OK.out (by have := LN.out; omega) hinn g0 g4
       rw [EE.out, hx, hx'] at hs
       injection hs with h1 h2
       injection h2 with h2 h3
       subst h1 h2 h3
       have hE := neq_same x m a
       clear hinn hx hx' G1
       rcases hcond with g1 | ⟨g1, g2⟩
       all_goals
        go_upto_region 14 with fail
        go_quiet (fail)
        rename_i nq
        go_wp2
        go_roundw
        case rel => exact ⟨i + 1, by first | rfl | (congr 1; done) | (congr 1; omega), by omega, BD nq⟩
        case measure => first | (simp [intOf]; done) | (simp [intOf]; omega)
   ·obtain rfl : i = n5 := by omega
    have DB := Lib.hid (show RowAt wr b8 (.slice A5 i c5) we from (BX.out.block b8 R8.out.lt).trans R8.out)
    have QX := Lib.hid ((QE.out.below BX.out).up BX.out.size)
    have SX := S6.out.below BX.out S6.out.size
    have hag := again OK.out
    rw [EE.out] at hag
    have EW2 := Lib.hid (rowErase_walk A5 i c5 we E (f : Int) (t : Int) wr SX HLE.out QX.out (by omega))
    rw [hag.1, hag.2] at EW2
    have hwa := again_wrap rw_ OK.out
    rw [EE.out, WE.out] at hwa
    rw [hwa] at EW2
    have d81 : wr.cell? ⟨b8, 1, none⟩ = some (.bool we) := DB.out.get 1
    have BW := Lib.hid (B6.out.trans (BX.out.mono B6.out.size))
    have LE := Lib.hid (show E.length = i from by rw [← EE.out, erase_len, LN.out])
    clear hag hwa SX BX d0
    go_wp2_with fail
    refine EW2.out.mono ?_
    rintro e w9 ⟨A9, n9, c9, rfl, hv9, b9⟩
    have hn9 : n9 = i := by
     obtain ⟨_, _, e, _⟩ := HasC.shape hv9
     injection e with _ e _
     rw [e, LE.out]
    subst hn9
    obtain ⟨g12, hg12⟩ : ∃ g, w9.heap.size = g := ⟨_, rfl⟩
    obtain ⟨w10, hw10⟩ : ∃ w10, w9.alloc (.cells #[.slice A9 n9 c9, .bool we] 40) = w10 := ⟨_, rfl⟩
    have b10 : Below w9.heap.size w9 w10 := by rw [← hw10]; exact (Below.refl _ _).alloc (Nat.le_refl _) _
    have R12 := Lib.hid (show RowAt w10 g12 (.slice A9 n9 c9) we from by rw [← hw10, ← hg12]; exact heap_alloc_new w9 _)
    have R8' := Lib.hid (show RowAt w10 b8 (.slice A5 n9 c5) we from (b10.block b8 (Nat.lt_of_lt_of_le DB.out.lt b9.size)).trans ((b9.block b8 DB.out.lt).trans DB.out))
    have EQ := Lib.hid (show Calls Tryz.prog 25 #[rowV A5 n9 c5 we, rowV A9 n9 c9 we] w10 fun e w' => e = .returned (.bool true) ∧ Below w10.heap.size w10 w' from by
     refine (eqRow_walk A5 A9 n9 c5 n9 c9 we we E E w10 (by omega) (by omega) ((((QX.out.below b9).up b9.size).below b10).up b10.size) (((HasC.sq hv9).below b10).up b10.size)).mono ?_
     rintro e w' ⟨rfl, hb⟩
     rw [eqL_refl, beq_self_eq_true]
     exact ⟨rfl, hb⟩)
    have B10 := Lib.hid (show Below w.heap.size w w10 from (BW.out.trans (b9.mono BW.out.size)).trans (b10.mono (Nat.le_trans BW.out.size b9.size)))
    have k0 : w10.cell? ⟨b8, 0, none⟩ = some (.slice A5 n9 c5) := R8'.out.get 0
    have k1 : w10.cell? ⟨b8, 1, none⟩ = some (.bool we) := R8'.out.get 1
    have k2 : w10.cell? ⟨g12, 0, none⟩ = some (.slice A9 n9 c9) := R12.out.get 0
    have k3 : w10.cell? ⟨g12, 1, none⟩ = some (.bool we) := R12.out.get 1
    have k0' : (w9.alloc (.cells #[.slice A9 n9 c9, .bool we] 40)).cell? ⟨b8, 0, none⟩ = some (.slice A5 n9 c5) := by rw [hw10]; exact k0
    have k1' : (w9.alloc (.cells #[.slice A9 n9 c9, .bool we] 40)).cell? ⟨b8, 1, none⟩ = some (.bool we) := by rw [hw10]; exact k1
    have HG := Lib.hid hg12
    have HW := Lib.hid hw10
    clear hv9 b9 b10 hg12 hw10 EW2 QX DB BW d8 d81 s0 s1 t0
    go_wp2_with fail
    first
     | (rw [HW.out]; rw [HG.out])
     | rw [HW.out]
     | skip
    refine EQ.out.mono ?_
    rintro e w11 ⟨rfl, b11⟩
    have B11 := Lib.hid (B10.out.trans (b11.mono B10.out.size))
    clear EQ b11 B10 k0' k1'
    go_wp2
    go_ret
    exact ⟨rfl, B11.out⟩
set_option maxRecDepth 100000 in
theorem contract (H : Type) (enc : TypeId × Value → H) (W : World) (base : Nat) (args : Array Value) (ds gs : List (DataW H)) (before : List MemPlace)
  (hval : ∀ (j : Nat) t v, Tryz.f7.params[j]? = some t → args[j]? = some v → Value.okWide Tryz.prog W .any base t v)
  (hW : DataW.Whole enc Tryz.prog Tryz.f7.params.toList Rows.rowSpanSpec.vars false W args.toList ds gs before) (hL : laidMetH Tryz.prog Rows.rowSpanRow.laid W) :
  Calls Tryz.prog 7 args W fun e W' => ∃ v, e = .returned v ∧ Rows.rowSpanSpec.post enc Tryz.prog Tryz.f7 false true false false W args v W' := by
 have hW' := hW
 obtain ⟨p, q, hA0, hV, rfl, hfz, hnd⟩ := hW
 have hA : DataW.TrodAll enc Tryz.prog W 0 (fun _ => true) true Tryz.f7.params.toList args.toList ds p := hA0
 rw [Tryz.params7] at hA hval
 obtain ⟨v0, vs0, d0, ds0, p0, q0, hargs, rfl, rfl, h0, r0⟩ := trodAll_cons hA
 obtain ⟨v1, vs1, d1, ds1, p1, q1, rfl, rfl, rfl, h1, r1⟩ := trodAll_cons r0
 obtain ⟨v2, vs2, d2, ds2, p2, q2, rfl, rfl, rfl, h2, r2⟩ := trodAll_cons r1
 obtain ⟨rfl, rfl, rfl⟩ := trodAll_nil r2
 obtain rfl : args = #[v0, v1, v2] := by cases args; simp_all
 obtain ⟨rfl, rfl⟩ := trodVars_none hV
 obtain ⟨x, rfl, hx⟩ := open_row (hval 0 40 v0 rfl rfl) h0
 obtain ⟨y, rfl, rfl, rfl, wy⟩ := open_int Tryz.underlying3 (hval 1 3 v1 rfl rfl) h1
 obtain ⟨z, rfl, rfl, rfl, wz⟩ := open_int Tryz.underlying3 (hval 2 3 v2 rfl rfl) h2
 clear hA0
 refine (walk x y (wf_i64 wy) z (wf_i64 wz) W (spans_of hL) hx).mono fun e W' ⟨he, hg⟩ => ?_
 subst he
 exact ⟨_, rfl, close rfl hW' ⟨rfl, rfl, rfl⟩ (by kernel_rfl) (by kernel_rfl) hg⟩
set_option maxRecDepth 100000 in
theorem laid_met (os : Os) : laidMet Tryz.prog Rows.rowSpanRow.laid ((laidWorld os).forCall (fun _ _ => 0) ⟨#[], #[.agg #[.slice none 0 0, .bool false], .int .i64 0, .int .i64 0], []⟩).memory :=
 laidMet_of_run' 8 (by kernel_rfl) (by kernel_rfl)
set_option maxRecDepth 100000 in
theorem reads (os : Os) {H : Type} (enc : TypeId × Value → H) : ∃ places, DataW.whole enc Tryz.prog ((laidWorld os).forCall (fun _ _ => 0) ⟨#[], #[.agg #[.slice none 0 0, .bool false], .int .i64 0, .int .i64 0], []⟩).memory Tryz.f7.params.toList Rows.rowSpanSpec.vars false (#[.agg #[.slice none 0 0, .bool false], .int .i64 0, .int .i64 0] : Array Value).toList 8 = some ([.agg [.nil, .lit (.bool false)], .lit (.int .i64 0), .lit (.int .i64 0)], [], places) :=
 ⟨[], by kernel_rfl⟩
set_option maxRecDepth 100000 in
theorem lifted (os : Os) (started : os.Started) (H : Type) (enc : TypeId × Value → H) (F : Stop.Interp) :
  ReturnsInHanded {} Tryz.checked os 7 .any ((OpenSpec.ofChange Rows.rowSpanSpec).preRow enc Tryz.prog Tryz.f7 Rows.rowSpanRow.domain false Rows.rowSpanRow.laid) (((OpenSpec.ofChange Rows.rowSpanSpec).at F).post enc Tryz.prog Tryz.f7 false true false false) := by
 obtain ⟨places, hx⟩ := reads os enc
 refine returnsInHanded_of_row (C := Tryz.checked) (s := OpenSpec.ofChange Rows.rowSpanSpec) ownNone started (by kernel_rfl) Tryz.func7
  (witness_row_at (enc := enc) (C := Tryz.checked) false (laidWorld os) #[.agg #[.slice none 0 0, .bool false], .int .i64 0, .int .i64 0] rfl (by kernel_rfl) (by kernel_rfl) (by kernel_rfl)
   (OpenSpec.preRow_of_cond 8 hx (by kernel_rfl) (fun k hk => by cases hk) (by kernel_rfl) (laid_met os))) ?_
 intro W base args ds gs before hval hW _ _ _ hL _ _
 exact contract H enc W base args ds gs before hval hW hL
set_option maxRecDepth 100000 in
set_option maxHeartbeats 0 in
theorem facts : joinedFacts Tryz.checked.prog 7 Tryz.f7 (OpenSpec.ofChange Rows.rowSpanSpec).bare Rows.rowSpanRow = true := by
 have h1 := Sum.tables.1
 have h2 := Sum.tables.2.1
 have h3 := Sum.tables.2.2
 have h4 := Sum.mayEnter
 have e1 : Rows.rowSpanRow.lifted = Rows.rowSpanRow.lifted := by kernel_rfl
 have e2 : Rows.rowSpanRow.make = Rows.rowSpanRow.make := by kernel_rfl
 have h5 : (Rows.rowSpanRow.lifted == Tryz.checked.prog.liftsFinal) = true := by rw [e1]; exact Sum.lifts
 have h6 : (Tryz.checked.prog.make == some Rows.rowSpanRow.make) = true := by rw [e2]; exact Sum.make
 unfold joinedFacts
 repeat' (with_reducible refine Sum.and_mk ?_ ?_)
 all_goals first
  | with_reducible exact h1
  | with_reducible exact h2
  | with_reducible exact h4
  | with_reducible exact h5
  | with_reducible exact h6
  | (rw [h3]; as_aux_lemma => kernel_rfl)
  | (clear h1 h2 h3 h4 h5 h6 e1 e2; as_aux_lemma => kernel_rfl)
set_option maxRecDepth 100000 in
theorem said : Rows.RowSpanSaid :=
 OpenClaim.holds_of_cond 7 Tryz.f7 rfl rfl rfl rfl rfl rfl rfl ⟨rfl, rfl, rfl, rfl, rfl⟩ rfl rfl rfl rfl rfl (by kernel_rfl) Tryz.func7 facts
  (of_decide_eq_true (by kernel_rfl)) (by unfold Func.isWrapper; first | (rw [if_pos (by decide +kernel)]; kernel_rfl) | (rw [if_neg (by decide +kernel)]; exact ⟨rfl, rfl⟩))
  (fun os started H enc _ F => by rw [OpenClaim.pre_eq_preRow]; exact lifted os started H enc F)
set_option maxRecDepth 100000 in
theorem plain (f : FuncId) (fn : Func) (hf : Tryz.pinned.checked.prog.funcNamed "rotulus/rotuluslaw7.RowSpan" = some f) (hfn : Tryz.pinned.checked.prog.funcs[f]? = some fn) :
  false = Tryz.pinned.checked.prog.looks [] ∧ ∀ (j : Nat) t, fn.params[j]? = some t → Tryz.pinned.checked.prog.wantsStandIn t = false := by
 obtain rfl : f = 7 := Option.some.inj ((show Tryz.prog.funcNamed "rotulus/rotuluslaw7.RowSpan" = some 7 by kernel_rfl).symm.trans hf) |>.symm
 obtain rfl : fn = Tryz.f7 := (Option.some.inj (Tryz.func7.symm.trans hfn)).symm
 refine ⟨by kernel_rfl, fun j t ht => ?_⟩
 rw [Tryz.params7] at ht
 have hm := Array.mem_of_getElem? ht
 simp at hm
 rcases hm with rfl | rfl
 ·exact (show Tryz.prog.wantsStandIn 40 = false by kernel_rfl)
 ·exact (show Tryz.prog.wantsStandIn 3 = false by kernel_rfl)
set_option maxRecDepth 100000 in
theorem card : Rows.RowSpanCardSaid :=
 Claim7.holds_tied_plain_at .later [] _ _ _ _ said (fun _ h => by cases h) (by kernel_rfl) (fun _ h => by cases h) rowSpan_row_tie rfl ⟨rfl, rfl⟩ (by kernel_rfl) rfl plain (by kernel_rfl)
end Go.Proofs.YtaclmhopcfgbmaaGreatDoor.rowSpan
