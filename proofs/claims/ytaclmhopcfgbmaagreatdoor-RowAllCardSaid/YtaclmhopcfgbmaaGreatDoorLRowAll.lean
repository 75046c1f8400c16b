/-
  The statement RowAll: the program's rows and the reference's answer alike. For every row, column, cells, span and width; it holds where the table of widths is as its initialiser lays it, which the card ties to the program's text.
-/
import Derived.Test.YtaclmhopcfgbmaaGreatDoorQBegun0
import Derived.Test.YtaclmhopcfgbmaaGreatDoorQBase5
import Derived.Test.YtaclmhopcfgbmaaGreatDoorQSum0
import Derived.Test.YtaclmhopcfgbmaaGreatDoorQRefRow1
import Derived.Test.YtaclmhopcfgbmaaGreatDoorQRefRow3
import Derived.Test.YtaclmhopcfgbmaaGreatDoorQRefRow2
import Derived.Test.YtaclmhopcfgbmaaGreatDoorQBase2
import Derived.Test.YtaclmhopcfgbmaaGreatDoorQBase4
import Derived.Test.YtaclmhopcfgbmaaGreatDoorQRow0
import Derived.Test.YtaclmhopcfgbmaaGreatDoorQRow2
import Derived.Test.YtaclmhopcfgbmaaGreatDoorQBase6
import Derived.BigQuiet
import Derived.Deep.CutRange
namespace Go.Proofs.YtaclmhopcfgbmaaGreatDoor.rowAll
open Go.ChangeShapes Go.WideShapes Go.ChangeAt Go.RowKit
open Rw
theorem eqL_refl (l : List Cel) : eqL l l = true := by simp [eqL]
theorem erase_len (l : List Cel) (a b : Int) : (eraseRes l a b).length = l.length := by
 unfold eraseRes
 split
 ·exact ovL_length _ _ _
 ·rfl
theorem set_len (l : List Cel) (a : Int) (L : List Cel) : (setRes l a L).length = l.length := by
 unfold setRes
 split
 ·exact ovL_length _ _ _
 ·rfl
theorem erase_may {l : List Cel} (a b : Int) (hm : mayL l = true) : mayL (eraseRes l a b) = true := by
 unfold eraseRes
 split
 ·rename_i h
  obtain ⟨h1, h2⟩ := (mayL_iff l).1 hm
  have ho : eraseOk l a b = true ∧ a < b := by simpa using h
  have h3 := ho.1
  unfold eraseOk at h3
  simp only [Bool.and_eq_true, decide_eq_true_eq] at h3
  exact (mayL_iff _).2 ⟨by rw [ovL_length]; exact h1, ovL_good h2 (blanksL_whole (by omega)) (by rw [blanksL_length]; omega)⟩
 ·exact hm
theorem set_may {l : List Cel} (a : Int) (L : List Cel) (hm : mayL l = true) : mayL (setRes l a L) = true := by
 unfold setRes
 split
 ·rename_i h
  obtain ⟨h1, h2⟩ := (mayL_iff l).1 hm
  unfold setOk at h
  simp only [Bool.and_eq_true, decide_eq_true_eq] at h
  exact (mayL_iff _).2 ⟨by rw [ovL_length]; exact h1, ovL_good h2 (isOne_whole h.1.1.2) (by omega)⟩
 ·exact hm
theorem erase_signs {l : List Cel} (a b : Int) (hl : ∀ c ∈ l, -2147483648 ≤ c.1 ∧ c.1 ≤ 2147483647) : ∀ c ∈ eraseRes l a b, -2147483648 ≤ c.1 ∧ c.1 ≤ 2147483647 := by
 unfold eraseRes
 split
 ·exact Sc.ovL_signs hl (Sc.blanks_signs _)
 ·exact hl
theorem set_signs {l L : List Cel} (a : Int) (hl : ∀ c ∈ l, -2147483648 ≤ c.1 ∧ c.1 ≤ 2147483647) (hL : ∀ c ∈ L, -2147483648 ≤ c.1 ∧ c.1 ≤ 2147483647) : ∀ c ∈ setRes l a L, -2147483648 ≤ c.1 ∧ c.1 ≤ 2147483647 := by
 unfold setRes
 split
 ·exact Sc.ovL_signs hl hL
 ·exact hl
theorem laid_row (w5 : World) (A : Option Addr) (n c : Nat) (wrap : Bool) : Below w5.heap.size w5 (w5.alloc (.cells #[.slice A n c, .bool wrap] 40)) ∧ RowAt (w5.alloc (.cells #[.slice A n c, .bool wrap] 40)) w5.heap.size (.slice A n c) wrap :=
 ⟨(Below.refl _ _).alloc (Nat.le_refl _) _, heap_alloc_new w5 _⟩
theorem row_keep {W W' : World} {g : Nat} {v : Value} {wr : Bool} (h : RowAt W g v wr) (b : Below W.heap.size W W') : RowAt W' g v wr := (b.block g h.lt).trans h
theorem hasC_n {w : World} {base n c : Nat} {A : Option Addr} {l : List Cel} (h : HasC w base (.slice A n c) l) : l.length = n ∧ n ≤ c := by
 obtain ⟨_, _, e, h2⟩ := HasC.shape h
 injection e with _ e1 e2
 exact ⟨e1.symm, by omega⟩
theorem sq_n {w : World} {B n : Nat} {A : Option Addr} {l : List Cel} (h : Sq w B 3 n A (flat l)) : l.length = n := by
 have := h.len
 rw [flat_length] at this
 omega
set_option maxRecDepth 100000 in
set_option maxHeartbeats 12800000 in
theorem walk (r : RowIn) (y : Int) (_hy : -9223372036854775808 ≤ y ∧ y ≤ 9223372036854775807) (A2 : Option Addr) (n2 c2 : Nat) (L0 : List (Int × Int × Int)) (hc2 : n2 ≤ c2) (_hm2 : c2 ≤ maxLen) (hr2 : Signs L0) (z : Int) (_hz : -9223372036854775808 ≤ z ∧ z ≤ 9223372036854775807) (u : Int) (_hu : -9223372036854775808 ≤ u ∧ u ≤ 9223372036854775807) (v : Int) (_hv : -9223372036854775808 ≤ v ∧ v ≤ 9223372036854775807) (w : World) (hs : Spans w) (hr : r.Ok w w.heap.size) (hq2 : Sq w w.heap.size 3 n2 A2 (flat L0)) :
  Calls Tryz.prog 5 #[rowV r.A r.n r.c r.wrap, .int .i64 y, .slice A2 n2 c2, .int .i64 z, .int .i64 u, .int .i64 v] w fun e w' => e = .returned (.bool true) ∧ Below w.heap.size w w' := by
 obtain ⟨rA, rn, rc, rw_, rl⟩ := r
 have S := Lib.hid hs
 obtain ⟨h1, h2, h3, h4⟩ := hr
 dsimp only at h1 h2 h3 h4
 have HR := Lib.hid (And.intro h3 h4)
 obtain ⟨m, hm⟩ : ∃ m : Nat, min (n2 : Int) 4 = (m : Int) := ⟨min n2 4, by omega⟩
 have hm1 : m ≤ n2 := by omega
 have hm4 : m ≤ 4 := by omega
 have hmc : m ≤ c2 := by omega
 obtain ⟨L, hL⟩ : ∃ L, L0.take m = L := ⟨_, rfl⟩
 have Q2 := Lib.hid (show Sq w w.heap.size 3 m A2 (flat L) by rw [← hL]; exact sq_take hq2 hm1)
 have HL2 := Lib.hid (show ∀ c ∈ L, -2147483648 ≤ c.1 ∧ c.1 ≤ 2147483647 from fun c hc => hr2 c (by rw [← hL] at hc; exact List.mem_of_mem_take hc))
 obtain ⟨b0, hb0⟩ : ∃ b0, w.heap.size = b0 := ⟨_, rfl⟩
 obtain ⟨w0, hw0⟩ : ∃ w0, w.alloc (.cells #[.slice rA rn rc, .bool rw_] 40) = w0 := ⟨_, rfl⟩
 have B0 := Lib.hid (show Below w.heap.size w w0 ∧ RowAt w0 b0 (.slice rA rn rc) rw_ from by
  rw [← hw0, ← hb0]
  exact ⟨(Below.refl _ _).alloc (Nat.le_refl _) _, heap_alloc_new w _⟩)
 have HB0 := Lib.hid hb0
 have HW0 := Lib.hid hw0
 have H1 := Lib.hid (And.intro h1 h2)
 clear hs h1 h2 h3 h4 hb0 hw0 hL hq2 hr2
 go_enter Tryz.func5, Tryz.ntmps5
 go_wp2_with fail
 rw [HB0.out]
 change Calls _ _ _ (w.alloc (.cells #[.slice rA rn rc, .bool rw_] 40)) _
 rw [HW0.out]
 refine (Bg.begun7_walk w0 (S.out.below B0.out.1 S.out.size)).mono ?_
 rintro e w1 ⟨rfl, b1⟩
 have R1 := Lib.hid (show RowAt w1 b0 (.slice rA rn rc) rw_ from (b1.block b0 B0.out.2.lt).trans B0.out.2)
 have B1 := Lib.hid (B0.out.1.trans (b1.mono B0.out.1.size))
 have k0 : w1.cell? ⟨b0, 0, none⟩ = some (.slice rA rn rc) := R1.out.get 0
 have k1 : w1.cell? ⟨b0, 1, none⟩ = some (.bool rw_) := R1.out.get 1
 have LR := Lib.hid (show ∀ W, Below w1.heap.size w1 W → Calls Tryz.prog 20 #[rowV rA rn rc rw_] W fun e w' => RowPost rw_ rl W e w' from fun W b => lawRow_walk rA rn rc rw_ rl W ((HR.out.2.below (B1.out.trans (b.mono B1.out.size))).up (B1.out.trans (b.mono B1.out.size)).size) H1.out.1 H1.out.2)
 have HL := Lib.hid (show ∀ c ∈ cut310 rl, -2147483648 ≤ c.1 ∧ c.1 ≤ 2147483647 from fun c hc => HR.out.1 c (List.mem_of_mem_take hc))
 obtain ⟨l, hl⟩ : ∃ l, cut310 rl = l := ⟨_, rfl⟩
 have hl310 : l.length ≤ 310 := by rw [← hl]; exact cut310_len rl
 rw [hl] at HL
 obtain ⟨n, hn⟩ : ∃ n, l.length = n := ⟨_, rfl⟩
 rw [hn] at hl310
 have LN := Lib.hid (And.intro hl hn)
 clear b1 B0 HW0 hl hn
 go_upto_region 4 with fail
 go_cut [2] from 25 to 31 (fun s2 wx => ∃ A3 c3, s2 = .slice A2 m c2 ∧ n ≤ c3 ∧ Hid (RowAt wx b0 (.slice A3 n c3) rw_) ∧ Hid (Sq wx wx.heap.size 3 n A3 (flat l)) ∧ Hid (Below w.heap.size w wx))
 case first =>
  go_region_with (go_at_call 20; refine (LR.out _ (Below.refl _ _).drew).mono ?_; rintro e w2 ⟨v2, rfl, hv2, b2'⟩; (have b2 : Below w1.heap.size w1 w2 := ((Below.refl w1.heap.size w1).drew).trans b2'); rw [LN.out.1] at hv2; obtain ⟨A3, c3, rfl, hc3⟩ := HasC.shape hv2; rw [LN.out.2] at hv2 hc3; rw [LN.out.2]; (have r2 : RowAt w2 b0 (.slice rA rn rc) rw_ := (b2.block b0 R1.out.lt).trans R1.out); (have q0 := r2.get 0); (have q1 := r2.get 1); (have qf0 := r2.free 0); (have qf1 := r2.free 1); (have OF := (OnlyRow.cell b0 0 w2 (.slice A3 n c3)).trans (OnlyRow.cell b0 1 _ (.bool rw_))); (have RF := Lib.hid (RowAt.put2 r2 (.slice A3 n c3) rw_)); (have hb0lt := R1.out.lt); (have HF := Lib.hid (HasC.sq (HasC.keep hv2 (fun j e => OF.block j (by have h1 := (HasC.lt hv2 j e).1; simp at h1; omega))))); (have B2 := Lib.hid (show Below w.heap.size w ((w2.setCell ⟨b0, 0, none⟩ (.slice A3 n c3)).setCell ⟨b0, 1, none⟩ (.bool rw_)) from (B1.out.trans (b2.mono B1.out.size)).trans ((Turned.ofOnly OF).toBelow (B1.out.trans (b2.mono B1.out.size)).size (fun k hk e => by have := HB0.out; omega)))); clear hv2 b2 b2' OF hb0lt r2)
  all_goals
   go_wp2
   go_meet
   exact ⟨_, _, rfl, hc3, RF, HF, B2⟩
 case rest =>
  obtain ⟨A3, c3, rfl, hc3, RF, Q3, B3⟩ := hcut
  clear LR R1 B1 k0 k1 HR H1 hm1 hm _hy _hz _hu _hv hmc hc2 _hm2
  obtain ⟨w4, hw4⟩ : ∃ w4, wc = w4 := ⟨_, rfl⟩
  rw [hw4] at RF Q3 B3 ⊢
  clear hw4
  obtain ⟨ok1, hok1⟩ : ∃ o, setOk l y L = o := ⟨_, rfl⟩
  obtain ⟨lS, hlS⟩ : ∃ x, setRes l y L = x := ⟨_, rfl⟩
  obtain ⟨ok2, hok2⟩ : ∃ o, eraseOk l z u = o := ⟨_, rfl⟩
  obtain ⟨we, hwe⟩ : ∃ o, eraseWrap rw_ l z u = o := ⟨_, rfl⟩
  obtain ⟨lE, hlE⟩ : ∃ x, eraseRes l z u = x := ⟨_, rfl⟩
  have LS := Lib.hid (show lS.length = n ∧ (∀ c ∈ lS, -2147483648 ≤ c.1 ∧ c.1 ≤ 2147483647) ∧ (mayL l = true → mayL lS = true) from by
   rw [← hlS]
   exact ⟨by rw [set_len]; exact LN.out.2, set_signs y HL.out HL2.out, set_may y L⟩)
  have LE := Lib.hid (show lE.length = n ∧ (∀ c ∈ lE, -2147483648 ≤ c.1 ∧ c.1 ≤ 2147483647) ∧ (mayL l = true → mayL lE = true) from by
   rw [← hlE]
   exact ⟨by rw [erase_len]; exact LN.out.2, erase_signs z u HL.out, erase_may z u⟩)
  have S4 := Lib.hid (S.out.below B3.out S.out.size)
  have Q24 := Lib.hid ((Q2.out.below B3.out).up B3.out.size)
  have k0 : w4.cell? ⟨b0, 0, none⟩ = some (.slice A3 n c3) := RF.out.get 0
  have k1 : w4.cell? ⟨b0, 1, none⟩ = some (.bool rw_) := RF.out.get 1
  have SW5 := Lib.hid (rowSet_walk A3 n c3 rw_ l y A2 m c2 L w4 S4.out HL.out HL2.out Q3.out (by omega) (by omega) Q24.out)
  rw [hok1, hlS] at SW5
  go_wp2_with fail
  refine SW5.out.mono ?_
  rintro e w5 ⟨A5, n5, c5, rfl, hv5, b5⟩
  obtain ⟨hn5, hc5'⟩ := hasC_n hv5
  have hln5 := LS.out.1
  obtain rfl : n = n5 := by omega
  obtain ⟨g5, hg5⟩ : ∃ g, w5.heap.size = g := ⟨_, rfl⟩
  obtain ⟨w6, hw6⟩ : ∃ w6, w5.alloc (.cells #[.slice A5 n c5, .bool rw_] 40) = w6 := ⟨_, rfl⟩
  have ba5 := laid_row w5 A5 n c5 rw_
  rw [hw6] at ba5
  have Q6 := Lib.hid (show Sq w6 w6.heap.size 3 n A5 (flat lS) from ((HasC.sq hv5).below ba5.1).up ba5.1.size)
  have R6 := Lib.hid (show RowAt w6 g5 (.slice A5 n c5) rw_ from by rw [← hg5]; exact ba5.2)
  have T6 := Lib.hid (show Below w4.heap.size w4 w6 from b5.trans (ba5.1.mono b5.size))
  have HG5 := Lib.hid hg5
  have HW6 := Lib.hid hw6
  have HC5 := Lib.hid (And.intro hn5 hc5')
  clear SW5 hv5 hln5 b5 ba5 hg5 hw6 hn5 hc5' k0 k1
  go_upto_region 6 with fail
  rw [HG5.out]
  change Code.wp _ _ _ _ (w5.alloc (.cells #[.slice A5 n c5, .bool rw_] 40))
  rw [HW6.out]
  clear HW6 HG5
  have Xw6 := Lib.hid (show Below w4.heap.size w4 w6 from T6.out)
  have k0 : w6.cell? ⟨b0, 0, none⟩ = some (.slice A3 n c3) := (row_keep RF.out Xw6.out).get 0
  have k1 : w6.cell? ⟨b0, 1, none⟩ = some (.bool rw_) := (row_keep RF.out Xw6.out).get 1
  have SW7 := Lib.hid (refSet_walk A3 n c3 rw_ l y A2 m c2 L w6 hc3 HL.out HL2.out ((Q3.out.below Xw6.out).up Xw6.out.size) (by omega) (by omega) ((Q24.out.below Xw6.out).up Xw6.out.size))
  rw [hok1, hlS] at SW7
  go_wp2_with fail
  refine SW7.out.mono ?_
  rintro e w7 ⟨A7, n7, c7, rfl, hc7', hv7, b7⟩
  have hn7 := sq_n hv7
  have hln7 := LS.out.1
  obtain rfl : n = n7 := by omega
  obtain ⟨g7, hg7⟩ : ∃ g, w7.heap.size = g := ⟨_, rfl⟩
  obtain ⟨w8, hw8⟩ : ∃ w8, w7.alloc (.cells #[.slice A7 n c7, .bool rw_] 40) = w8 := ⟨_, rfl⟩
  have ba7 := laid_row w7 A7 n c7 rw_
  rw [hw8] at ba7
  have Q8 := Lib.hid (show Sq w8 w8.heap.size 3 n A7 (flat lS) from ((hv7).below ba7.1).up ba7.1.size)
  have R8 := Lib.hid (show RowAt w8 g7 (.slice A7 n c7) rw_ from by rw [← hg7]; exact ba7.2)
  have T8 := Lib.hid (show Below w6.heap.size w6 w8 from b7.trans (ba7.1.mono b7.size))
  have HG7 := Lib.hid hg7
  have HW8 := Lib.hid hw8
  have HC7 := Lib.hid (And.intro hn7 hc7')
  clear SW7 hv7 hln7 b7 ba7 hg7 hw8 hn7 hc7' k0 k1
  go_upto_region 7 with fail
  rw [HG7.out]
  change Code.wp _ _ _ _ (w7.alloc (.cells #[.slice A7 n c7, .bool rw_] 40))
  rw [HW8.out]
  clear HW8 HG7
  have Xw8 := Lib.hid (show Below w4.heap.size w4 w8 from Xw6.out.trans (T8.out.mono Xw6.out.size))
  have k0 : w8.cell? ⟨b0, 0, none⟩ = some (.slice A3 n c3) := (row_keep RF.out Xw8.out).get 0
  have k1 : w8.cell? ⟨b0, 1, none⟩ = some (.bool rw_) := (row_keep RF.out Xw8.out).get 1
  have SW9 := Lib.hid (rowErase_walk A3 n c3 rw_ l z u w8 (S4.out.below Xw8.out S4.out.size) HL.out ((Q3.out.below Xw8.out).up Xw8.out.size) (by omega))
  rw [hok2, hwe, hlE] at SW9
  go_wp2_with fail
  refine SW9.out.mono ?_
  rintro e w9 ⟨A9, n9, c9, rfl, hv9, b9⟩
  obtain ⟨hn9, hc9'⟩ := hasC_n hv9
  have hln9 := LE.out.1
  obtain rfl : n = n9 := by omega
  obtain ⟨g9, hg9⟩ : ∃ g, w9.heap.size = g := ⟨_, rfl⟩
  obtain ⟨w10, hw10⟩ : ∃ w10, w9.alloc (.cells #[.slice A9 n c9, .bool we] 40) = w10 := ⟨_, rfl⟩
  have ba9 := laid_row w9 A9 n c9 we
  rw [hw10] at ba9
  have Q10 := Lib.hid (show Sq w10 w10.heap.size 3 n A9 (flat lE) from ((HasC.sq hv9).below ba9.1).up ba9.1.size)
  have R10 := Lib.hid (show RowAt w10 g9 (.slice A9 n c9) we from by rw [← hg9]; exact ba9.2)
  have T10 := Lib.hid (show Below w8.heap.size w8 w10 from b9.trans (ba9.1.mono b9.size))
  have HG9 := Lib.hid hg9
  have HW10 := Lib.hid hw10
  have HC9 := Lib.hid (And.intro hn9 hc9')
  clear SW9 hv9 hln9 b9 ba9 hg9 hw10 hn9 hc9' k0 k1
  go_upto_region 8 with fail
  rw [HG9.out]
  change Code.wp _ _ _ _ (w9.alloc (.cells #[.slice A9 n c9, .bool we] 40))
  rw [HW10.out]
  clear HW10 HG9
  have Xw10 := Lib.hid (show Below w4.heap.size w4 w10 from Xw8.out.trans (T10.out.mono Xw8.out.size))
  have k0 : w10.cell? ⟨b0, 0, none⟩ = some (.slice A3 n c3) := (row_keep RF.out Xw10.out).get 0
  have k1 : w10.cell? ⟨b0, 1, none⟩ = some (.bool rw_) := (row_keep RF.out Xw10.out).get 1
  have SW11 := Lib.hid (refErase_walk A3 n c3 rw_ l z u w10 hc3 HL.out ((Q3.out.below Xw10.out).up Xw10.out.size) (by omega))
  rw [hok2, hwe, hlE] at SW11
  go_wp2_with fail
  refine SW11.out.mono ?_
  rintro e w11 ⟨A11, n11, c11, rfl, hc11', hv11, b11⟩
  have hn11 := sq_n hv11
  have hln11 := LE.out.1
  obtain rfl : n = n11 := by omega
  obtain ⟨g11, hg11⟩ : ∃ g, w11.heap.size = g := ⟨_, rfl⟩
  obtain ⟨w12, hw12⟩ : ∃ w12, w11.alloc (.cells #[.slice A11 n c11, .bool we] 40) = w12 := ⟨_, rfl⟩
  have ba11 := laid_row w11 A11 n c11 we
  rw [hw12] at ba11
  have Q12 := Lib.hid (show Sq w12 w12.heap.size 3 n A11 (flat lE) from ((hv11).below ba11.1).up ba11.1.size)
  have R12 := Lib.hid (show RowAt w12 g11 (.slice A11 n c11) we from by rw [← hg11]; exact ba11.2)
  have T12 := Lib.hid (show Below w10.heap.size w10 w12 from b11.trans (ba11.1.mono b11.size))
  have HG11 := Lib.hid hg11
  have HW12 := Lib.hid hw12
  have HC11 := Lib.hid (And.intro hn11 hc11')
  clear SW11 hv11 hln11 b11 ba11 hg11 hw12 hn11 hc11' k0 k1
  go_upto_region 9 with fail
  rw [HG11.out]
  change Code.wp _ _ _ _ (w11.alloc (.cells #[.slice A11 n c11, .bool we] 40))
  rw [HW12.out]
  clear HW12 HG11
  have Xw12 := Lib.hid (show Below w4.heap.size w4 w12 from Xw10.out.trans (T12.out.mono Xw10.out.size))
  have k0 : w12.cell? ⟨b0, 0, none⟩ = some (.slice A3 n c3) := (row_keep RF.out Xw12.out).get 0
  have k1 : w12.cell? ⟨b0, 1, none⟩ = some (.bool rw_) := (row_keep RF.out Xw12.out).get 1
  have T8' := Lib.hid (T10.out.trans (T12.out.mono T10.out.size))
  have T6' := Lib.hid (T8.out.trans (T8'.out.mono T8.out.size))
  have P5 := Lib.hid (show ∀ W, Below w12.heap.size w12 W → RowAt W g5 (.slice A5 n c5) rw_ ∧ Sq W W.heap.size 3 n A5 (flat lS) from fun W b => by
   have bb := T6'.out.trans (b.mono T6'.out.size)
   exact ⟨row_keep R6.out bb, (Q6.out.below bb).up bb.size⟩)
  have P7 := Lib.hid (show ∀ W, Below w12.heap.size w12 W → RowAt W g7 (.slice A7 n c7) rw_ ∧ Sq W W.heap.size 3 n A7 (flat lS) from fun W b => by
   have bb := T8'.out.trans (b.mono T8'.out.size)
   exact ⟨row_keep R8.out bb, (Q8.out.below bb).up bb.size⟩)
  have P9 := Lib.hid (show ∀ W, Below w12.heap.size w12 W → RowAt W g9 (.slice A9 n c9) we ∧ Sq W W.heap.size 3 n A9 (flat lE) from fun W b => by
   have bb := T12.out.trans (b.mono T12.out.size)
   exact ⟨row_keep R10.out bb, (Q10.out.below bb).up bb.size⟩)
  have P11 := Lib.hid (show ∀ W, Below w12.heap.size w12 W → RowAt W g11 (.slice A11 n c11) we ∧ Sq W W.heap.size 3 n A11 (flat lE) from fun W b => ⟨row_keep R12.out b, (Q12.out.below b).up b.size⟩)
  have P3 := Lib.hid (show ∀ W, Below w12.heap.size w12 W → RowAt W b0 (.slice A3 n c3) rw_ ∧ Sq W W.heap.size 3 n A3 (flat l) ∧ Spans W ∧ Below w.heap.size w W from fun W b => by
   have bb := Xw12.out.trans (b.mono Xw12.out.size)
   exact ⟨row_keep RF.out bb, (Q3.out.below bb).up bb.size, S4.out.below bb S4.out.size, B3.out.trans (bb.mono B3.out.size)⟩)
  have E1 := Lib.hid (show ∀ W, Below w12.heap.size w12 W → Calls Tryz.prog 25 #[rowV A5 n c5 rw_, rowV A7 n c7 rw_] W fun e w' => e = .returned (.bool true) ∧ Below W.heap.size W w' from fun W b => by
   refine (eqRow_walk A5 A7 n c5 n c7 rw_ rw_ lS lS W (by omega) (by omega) (P5.out W b).2 (P7.out W b).2).mono ?_
   rintro e w' ⟨rfl, hb⟩
   rw [eqL_refl, beq_self_eq_true]
   exact ⟨rfl, hb⟩)
  have E2 := Lib.hid (show ∀ W, Below w12.heap.size w12 W → Calls Tryz.prog 25 #[rowV A9 n c9 we, rowV A11 n c11 we] W fun e w' => e = .returned (.bool true) ∧ Below W.heap.size W w' from fun W b => by
   refine (eqRow_walk A9 A11 n c9 n c11 we we lE lE W (by omega) (by omega) (P9.out W b).2 (P11.out W b).2).mono ?_
   rintro e w' ⟨rfl, hb⟩
   rw [eqL_refl, beq_self_eq_true]
   exact ⟨rfl, hb⟩)
  have o1 : (ok1 != ok1) = false := by simp
  have o2 : (ok2 != ok2) = false := by simp
  have m0 := ((P5.out w12 (Below.refl _ _)).1).get 0
  have m1 := ((P5.out w12 (Below.refl _ _)).1).get 1
  have m2 := ((P7.out w12 (Below.refl _ _)).1).get 0
  have m3 := ((P7.out w12 (Below.refl _ _)).1).get 1
  clear R6 R8 R10 R12 Q6 Q8 Q10 Q12 T6 T8 T10 T12 T6' T8' Xw6 Xw8 Xw10 Xw12 Q24 S4 RF Q3 k0 k1 Q2 S B3
  go_wp2_with fail
  refine (E1.out w12 (Below.refl _ _)).mono ?_
  rintro e w13 ⟨rfl, b13⟩
  have D13 := Lib.hid b13
  clear m0 m1 m2 m3 b13 E1
  have m0 := ((P9.out w13 D13.out).1).get 0
  have m1 := ((P9.out w13 D13.out).1).get 1
  have m2 := ((P11.out w13 D13.out).1).get 0
  have m3 := ((P11.out w13 D13.out).1).get 1
  go_wp2_with fail
  refine (E2.out w13 D13.out).mono ?_
  rintro e w14 ⟨rfl, b14⟩
  have D14 := Lib.hid (D13.out.trans (b14.mono D13.out.size))
  clear m0 m1 m2 m3 b14 E2
  go_wp2_with fail
  refine (rowBlank_walk v w14).mono ?_
  rintro e w15 ⟨gB, rfl, hv15, b15⟩
  have D15 := Lib.hid (D14.out.trans (b15.mono D14.out.size))
  have hvl := blanksL_length (blankN v)
  have hv300 : blankN v ≤ 300 := by unfold blankN; omega
  obtain ⟨bn, hbn⟩ : ∃ bn, blankN v = bn := ⟨_, rfl⟩
  rw [hbn] at hv15 hvl hv300 ⊢
  have Q15 := Lib.hid (HasC.sq hv15)
  have HB := Lib.hid hbn
  clear hv15 hbn
  have BR := Lib.hid (refBlankRow_walk v w15)
  rw [HB.out] at BR
  go_wp2_with fail
  refine BR.out.mono ?_
  rintro e w16 ⟨A16, n16, c16, rfl, hv16, b16⟩
  have hn16 : n16 = bn := by have := (hasC_n hv16).1; omega
  subst hn16
  have D16 := Lib.hid (D15.out.trans (b16.mono D15.out.size))
  have E3 := Lib.hid (show Calls Tryz.prog 25 #[rowV (some ⟨gB, 0, none⟩) n16 n16 false, rowV A16 n16 c16 false] w16 fun e w' => e = .returned (.bool true) ∧ Below w16.heap.size w16 w' from by
   refine (eqRow_walk _ A16 n16 n16 n16 c16 false false (blanksL n16) (blanksL n16) w16 (by omega) (by omega) ((Q15.out.below b16).up b16.size) (HasC.sq hv16)).mono ?_
   rintro e w' ⟨rfl, hb⟩
   rw [eqL_refl, beq_self_eq_true]
   exact ⟨rfl, hb⟩)
  clear hv16 b16 BR Q15
  go_wp2_with fail
  refine E3.out.mono ?_
  rintro e w17 ⟨rfl, b17⟩
  have D17 := Lib.hid (D16.out.trans (b17.mono D16.out.size))
  clear E3 b17
  have k0 := ((P3.out w17 D17.out).1).get 0
  have k1 := ((P3.out w17 D17.out).1).get 1
  have RR := Lib.hid (refRow_walk A3 n c3 rw_ l w17 HL.out (P3.out w17 D17.out).2.1 (by omega))
  obtain ⟨mb, hmb⟩ : ∃ mb, mayL l = mb := ⟨_, rfl⟩
  rw [hmb] at RR
  have MB := Lib.hid hmb
  clear hmb
  go_wp2_with fail
  refine RR.out.mono ?_
  rintro e w18 ⟨rfl, b18⟩
  have D18 := Lib.hid (D17.out.trans (b18.mono D17.out.size))
  clear RR b18 k0 k1
  cases mb with
  | false =>
   have k0 := ((P3.out w18 D18.out).1).get 0
   have k1 := ((P3.out w18 D18.out).1).get 1
   have US := Lib.hid (rowUsed_walk A3 n c3 rw_ l w18 (P3.out w18 D18.out).2.2.1 HL.out (P3.out w18 D18.out).2.1 hc3 (by omega))
   rw [MB.out, if_neg (by simp)] at US
   go_wp2_with fail
   refine US.out.mono ?_
   rintro e w19 ⟨rfl, b19⟩
   have D19 := Lib.hid (D18.out.trans (b19.mono D18.out.size))
   clear US b19 k0 k1
   have k0 := ((P3.out w19 D19.out).1).get 0
   have k1 := ((P3.out w19 D19.out).1).get 1
   have IB := Lib.hid (rowIsBlank_walk A3 n c3 rw_ l w19 (P3.out w19 D19.out).2.2.1 HL.out (P3.out w19 D19.out).2.1 hc3 (by omega))
   rw [MB.out, Bool.not_false, Bool.true_or] at IB
   go_wp2_with fail
   refine IB.out.mono ?_
   rintro e w20 ⟨rfl, b20⟩
   have D20 := Lib.hid (D19.out.trans (b20.mono D19.out.size))
   clear IB b20
   go_wp2
   go_ret
   exact ⟨rfl, (P3.out w20 D20.out).2.2.2⟩
  | true =>
   have GD := Lib.hid ((mayL_iff l).1 MB.out)
   obtain ⟨I, hI, F, h0, hB, hN⟩ := Cls.below w18
   have HBn := Lib.hid (show ∀ q, Below w12.heap.size w12 (F q) from fun q => D18.out.trans ((hB q).mono D18.out.size))
   have HN := Lib.hid hN
   clear hB hN
   obtain ⟨fo, hfo⟩ : ∃ fo, firstOf l y = fo := ⟨_, rfl⟩
   obtain ⟨tu, htu⟩ : ∃ tu, (trimL l).length = tu := ⟨_, rfl⟩
   obtain ⟨bl, hbl⟩ : ∃ bl, (decide (tu = 0) && !rw_) = bl := ⟨_, rfl⟩
   have CU : ∀ q, Calls Tryz.prog 29 #[rowV A3 n c3 rw_] (F q) fun e w' => e = .returned (.int .i64 (tu : Nat)) ∧ ∃ m, w' = F m := fun q => by
    have h := rowUsed_walk A3 n c3 rw_ l (F q) (P3.out _ (HBn.out q)).2.2.1 HL.out (P3.out _ (HBn.out q)).2.1 hc3 (by omega)
    rw [MB.out, if_pos rfl, htu] at h
    exact h.mono fun e w' ⟨he, hb⟩ => ⟨he, HN.out q w' hb⟩
   have CV : ∀ q, Calls Tryz.prog 31 #[rowV A3 n c3 rw_] (F q) fun e w' => e = .returned (.int .i64 (tu : Nat)) ∧ ∃ m, w' = F m := fun q => by
    have h := refUsed_walk A3 n c3 rw_ hc3 l (F q) (by omega) (P3.out _ (HBn.out q)).2.1
    rw [htu] at h
    exact h.mono fun e w' ⟨he, hb⟩ => ⟨he, HN.out q w' hb⟩
   have CB : ∀ q, Calls Tryz.prog 30 #[rowV A3 n c3 rw_] (F q) fun e w' => e = .returned (.bool bl) ∧ ∃ m, w' = F m := fun q => by
    have h := rowIsBlank_walk A3 n c3 rw_ l (F q) (P3.out _ (HBn.out q)).2.2.1 HL.out (P3.out _ (HBn.out q)).2.1 hc3 (by omega)
    rw [MB.out, htu, Bool.not_true, Bool.false_or, hbl] at h
    exact h.mono fun e w' ⟨he, hb⟩ => ⟨he, HN.out q w' hb⟩
   have CF : ∀ q, Calls Tryz.prog 32 #[rowV A3 n c3 rw_, .int .i64 y] (F q) fun e w' => e = .returned (.int .i64 fo) ∧ ∃ m, w' = F m := fun q => by
    have h := rowFirst_walk A3 n c3 rw_ l y (F q) (P3.out _ (HBn.out q)).2.2.1 HL.out (P3.out _ (HBn.out q)).2.1 (by omega) GD.out.2 GD.out.1
    rw [hfo] at h
    exact h.mono fun e w' ⟨he, hb⟩ => ⟨he, HN.out q w' hb⟩
   have CG : ∀ q, Calls Tryz.prog 33 #[rowV A3 n c3 rw_, .int .i64 y] (F q) fun e w' => e = .returned (.int .i64 fo) ∧ ∃ m, w' = F m := fun q => by
    have h := refFirst_walk A3 n c3 rw_ l y (F q) (P3.out _ (HBn.out q)).2.1 (by omega) GD.out.2
    rw [hfo] at h
    exact h.mono fun e w' ⟨he, hb⟩ => ⟨he, HN.out q w' hb⟩
   have C5 : ∀ q, Calls Tryz.prog 28 #[rowV A5 n c5 rw_] (F q) fun e w' => e = .returned (.bool true) ∧ ∃ m, w' = F m := fun q => by
    have h := refRow_walk A5 n c5 rw_ lS (F q) LS.out.2.1 (P5.out _ (HBn.out q)).2 (by omega)
    rw [LS.out.2.2 MB.out] at h
    exact h.mono fun e w' ⟨he, hb⟩ => ⟨he, HN.out q w' hb⟩
   have C9 : ∀ q, Calls Tryz.prog 28 #[rowV A9 n c9 we] (F q) fun e w' => e = .returned (.bool true) ∧ ∃ m, w' = F m := fun q => by
    have h := refRow_walk A9 n c9 we lE (F q) LE.out.2.1 (P9.out _ (HBn.out q)).2 (by omega)
    rw [LE.out.2.2 MB.out] at h
    exact h.mono fun e w' ⟨he, hb⟩ => ⟨he, HN.out q w' hb⟩
   have C59 : ∀ q args, args = #[rowV A5 n c5 rw_] ∨ args = #[rowV A9 n c9 we] → Calls Tryz.prog 28 args (F q) fun e w' => e = .returned (.bool true) ∧ ∃ m, w' = F m := by
    rintro q args (rfl | rfl)
    ·exact C5 q
    ·exact C9 q
   clear C5 C9
   have i0 := fun q => ((P3.out _ (HBn.out q)).1).get 0
   have i1 := fun q => ((P3.out _ (HBn.out q)).1).get 1
   have i2 := fun q => ((P5.out _ (HBn.out q)).1).get 0
   have i3 := fun q => ((P5.out _ (HBn.out q)).1).get 1
   have i4 := fun q => ((P9.out _ (HBn.out q)).1).get 0
   have i5 := fun q => ((P9.out _ (HBn.out q)).1).get 1
   clear hfo
   go_upto_region 13 with fail
   by_cases h00 : tu = 0
   ·subst h00
    cases rw_
    ·obtain rfl : true = bl := by rw [← hbl]; rfl
     clear htu hbl
     refine Cls.region F h0 (by kernel_rfl) (by kernel_rfl) ?_
     repeat (go_big_quiet_step ((first | (go_at_call 29; exact CU _) | (go_at_call 31; exact CV _) | (go_at_call 30; exact CB _) | (go_at_call 32; exact CF _) | (go_at_call 33; exact CG _) | (go_at_call 28; exact C59 _ _ (by first | exact .inl rfl | exact .inr rfl)))))
     refine wpQuiet_nil ?_
     intro _ hw'
     obtain ⟨nq, hw''⟩ := hw'
     subst hw''
     go_wp2
     go_ret
     exact ⟨rfl, (P3.out _ (HBn.out nq)).2.2.2⟩
    ·obtain rfl : false = bl := by rw [← hbl]; rfl
     clear htu hbl
     refine Cls.region F h0 (by kernel_rfl) (by kernel_rfl) ?_
     repeat (go_big_quiet_step ((first | (go_at_call 29; exact CU _) | (go_at_call 31; exact CV _) | (go_at_call 30; exact CB _) | (go_at_call 32; exact CF _) | (go_at_call 33; exact CG _) | (go_at_call 28; exact C59 _ _ (by first | exact .inl rfl | exact .inr rfl)))))
     refine wpQuiet_nil ?_
     intro _ hw'
     obtain ⟨nq, hw''⟩ := hw'
     subst hw''
     go_wp2
     go_ret
     exact ⟨rfl, (P3.out _ (HBn.out nq)).2.2.2⟩
   ·obtain rfl : false = bl := by rw [← hbl, decide_eq_false h00]; rfl
    have h00b : ((tu : Int) == 0) = false := by simp; omega
    clear htu hbl
    refine Cls.region F h0 (by kernel_rfl) (by kernel_rfl) ?_
    repeat (go_big_quiet_step ((first | (go_at_call 29; exact CU _) | (go_at_call 31; exact CV _) | (go_at_call 30; exact CB _) | (go_at_call 32; exact CF _) | (go_at_call 33; exact CG _) | (go_at_call 28; exact C59 _ _ (by first | exact .inl rfl | exact .inr rfl)))))
    refine wpQuiet_nil ?_
    intro _ hw'
    obtain ⟨nq, hw''⟩ := hw'
    subst hw''
    go_wp2
    go_ret
    exact ⟨rfl, (P3.out _ (HBn.out nq)).2.2.2⟩
set_option maxRecDepth 100000 in
theorem contract (H : Type) (enc : TypeId × Value → H) (W : World) (base : Nat) (args : Array Value) (ds gs : List (DataW H)) (before : List MemPlace)
  (hval : ∀ (j : Nat) t v, Tryz.f5.params[j]? = some t → args[j]? = some v → Value.okWide Tryz.prog W .any base t v)
  (hW : DataW.Whole enc Tryz.prog Tryz.f5.params.toList Rows.rowAllSpec.vars false W args.toList ds gs before) (hL : laidMetH Tryz.prog Rows.rowAllRow.laid W) :
  Calls Tryz.prog 5 args W fun e W' => ∃ v, e = .returned v ∧ Rows.rowAllSpec.post enc Tryz.prog Tryz.f5 false true false false W args v W' := by
 have hW' := hW
 obtain ⟨p, q, hA0, hV, rfl, hfz, hnd⟩ := hW
 have hA : DataW.TrodAll enc Tryz.prog W 0 (fun _ => true) true Tryz.f5.params.toList args.toList ds p := hA0
 rw [Tryz.params5] at hA hval
 obtain ⟨v0, vs0, d0, ds0, p0, q0, hargs, rfl, rfl, h0, r0⟩ := trodAll_cons hA
 obtain ⟨v1, vs1, d1, ds1, p1, q1, rfl, rfl, rfl, h1, r1⟩ := trodAll_cons r0
 obtain ⟨v2, vs2, d2, ds2, p2, q2, rfl, rfl, rfl, h2, r2⟩ := trodAll_cons r1
 obtain ⟨v3, vs3, d3, ds3, p3, q3, rfl, rfl, rfl, h3, r3⟩ := trodAll_cons r2
 obtain ⟨v4, vs4, d4, ds4, p4, q4, rfl, rfl, rfl, h4, r4⟩ := trodAll_cons r3
 obtain ⟨v5, vs5, d5, ds5, p5, q5, rfl, rfl, rfl, h5, r5⟩ := trodAll_cons r4
 obtain ⟨rfl, rfl, rfl⟩ := trodAll_nil r5
 obtain rfl : args = #[v0, v1, v2, v3, v4, v5] := by cases args; simp_all
 obtain ⟨rfl, rfl⟩ := trodVars_none hV
 obtain ⟨x, rfl, hx⟩ := open_row (hval 0 40 v0 rfl rfl) h0
 obtain ⟨y, rfl, rfl, rfl, wy⟩ := open_int Tryz.underlying3 (hval 1 3 v1 rfl rfl) h1
 obtain ⟨Az, nz, cz, z, rfl, hcz, hmz, hrz, hqz⟩ := open_cells (hval 2 38 v2 rfl rfl) h2
 obtain ⟨u, rfl, rfl, rfl, wu⟩ := open_int Tryz.underlying3 (hval 3 3 v3 rfl rfl) h3
 obtain ⟨a5, rfl, rfl, rfl, wa5⟩ := open_int Tryz.underlying3 (hval 4 3 v4 rfl rfl) h4
 obtain ⟨a6, rfl, rfl, rfl, wa6⟩ := open_int Tryz.underlying3 (hval 5 3 v5 rfl rfl) h5
 clear hA0
 refine (walk x y (wf_i64 wy) Az nz cz z hcz hmz hrz u (wf_i64 wu) a5 (wf_i64 wa5) a6 (wf_i64 wa6) W (spans_of hL) hx hqz).mono fun e W' ⟨he, hg⟩ => ?_
 subst he
 exact ⟨_, rfl, close rfl hW' ⟨rfl, rfl, rfl⟩ (by kernel_rfl) (by kernel_rfl) hg⟩
set_option maxRecDepth 100000 in
theorem laid_met (os : Os) : laidMet Tryz.prog Rows.rowAllRow.laid ((laidWorld os).forCall (fun _ _ => 0) ⟨#[], #[.agg #[.slice none 0 0, .bool false], .int .i64 0, .slice none 0 0, .int .i64 0, .int .i64 0, .int .i64 0], []⟩).memory :=
 laidMet_of_run' 8 (by kernel_rfl) (by kernel_rfl)
set_option maxRecDepth 100000 in
theorem reads (os : Os) {H : Type} (enc : TypeId × Value → H) : ∃ places, DataW.whole enc Tryz.prog ((laidWorld os).forCall (fun _ _ => 0) ⟨#[], #[.agg #[.slice none 0 0, .bool false], .int .i64 0, .slice none 0 0, .int .i64 0, .int .i64 0, .int .i64 0], []⟩).memory Tryz.f5.params.toList Rows.rowAllSpec.vars false (#[.agg #[.slice none 0 0, .bool false], .int .i64 0, .slice none 0 0, .int .i64 0, .int .i64 0, .int .i64 0] : Array Value).toList 8 = some ([.agg [.nil, .lit (.bool false)], .lit (.int .i64 0), .nil, .lit (.int .i64 0), .lit (.int .i64 0), .lit (.int .i64 0)], [], places) :=
 ⟨[], by kernel_rfl⟩
set_option maxRecDepth 100000 in
theorem lifted (os : Os) (started : os.Started) (H : Type) (enc : TypeId × Value → H) (F : Stop.Interp) :
  ReturnsInHanded {} Tryz.checked os 5 .any ((OpenSpec.ofChange Rows.rowAllSpec).preRow enc Tryz.prog Tryz.f5 Rows.rowAllRow.domain false Rows.rowAllRow.laid) (((OpenSpec.ofChange Rows.rowAllSpec).at F).post enc Tryz.prog Tryz.f5 false true false false) := by
 obtain ⟨places, hx⟩ := reads os enc
 refine returnsInHanded_of_row (C := Tryz.checked) (s := OpenSpec.ofChange Rows.rowAllSpec) ownNone started (by kernel_rfl) Tryz.func5
  (witness_row_at (enc := enc) (C := Tryz.checked) false (laidWorld os) #[.agg #[.slice none 0 0, .bool false], .int .i64 0, .slice none 0 0, .int .i64 0, .int .i64 0, .int .i64 0] rfl (by kernel_rfl) (by kernel_rfl) (by kernel_rfl)
   (OpenSpec.preRow_of_cond 8 hx (by kernel_rfl) (fun k hk => by cases hk) (by kernel_rfl) (laid_met os))) ?_
 intro W base args ds gs before hval hW _ _ _ hL _ _
 exact contract H enc W base args ds gs before hval hW hL
set_option maxRecDepth 100000 in
set_option maxHeartbeats 0 in
theorem facts : joinedFacts Tryz.checked.prog 5 Tryz.f5 (OpenSpec.ofChange Rows.rowAllSpec).bare Rows.rowAllRow = true := by
 have h1 := Sum.tables.1
 have h2 := Sum.tables.2.1
 have h3 := Sum.tables.2.2
 have h4 := Sum.mayEnter
 have e1 : Rows.rowAllRow.lifted = Rows.rowSpanRow.lifted := by kernel_rfl
 have e2 : Rows.rowAllRow.make = Rows.rowSpanRow.make := by kernel_rfl
 have h5 : (Rows.rowAllRow.lifted == Tryz.checked.prog.liftsFinal) = true := by rw [e1]; exact Sum.lifts
 have h6 : (Tryz.checked.prog.make == some Rows.rowAllRow.make) = true := by rw [e2]; exact Sum.make
 unfold joinedFacts
 repeat' (with_reducible refine Sum.and_mk ?_ ?_)
 all_goals first
  | with_reducible exact h1
  | with_reducible exact h2
  | with_reducible exact h4
  | with_reducible exact h5
  | with_reducible exact h6
  | (rw [h3]; as_aux_lemma => kernel_rfl)
  | (clear h1 h2 h3 h4 h5 h6 e1 e2; as_aux_lemma => kernel_rfl)
set_option maxRecDepth 100000 in
theorem said : Rows.RowAllSaid :=
 OpenClaim.holds_of_cond 5 Tryz.f5 rfl rfl rfl rfl rfl rfl rfl ⟨rfl, rfl, rfl, rfl, rfl⟩ rfl rfl rfl rfl rfl (by kernel_rfl) Tryz.func5 facts
  (of_decide_eq_true (by kernel_rfl)) (by unfold Func.isWrapper; first | (rw [if_pos (by decide +kernel)]; kernel_rfl) | (rw [if_neg (by decide +kernel)]; exact ⟨rfl, rfl⟩))
  (fun os started H enc _ F => by rw [OpenClaim.pre_eq_preRow]; exact lifted os started H enc F)
set_option maxRecDepth 100000 in
theorem plain (f : FuncId) (fn : Func) (hf : Tryz.pinned.checked.prog.funcNamed "rotulus/rotuluslaw7.RowAll" = some f) (hfn : Tryz.pinned.checked.prog.funcs[f]? = some fn) :
  false = Tryz.pinned.checked.prog.looks [] ∧ ∀ (j : Nat) t, fn.params[j]? = some t → Tryz.pinned.checked.prog.wantsStandIn t = false := by
 obtain rfl : f = 5 := Option.some.inj ((show Tryz.prog.funcNamed "rotulus/rotuluslaw7.RowAll" = some 5 by kernel_rfl).symm.trans hf) |>.symm
 obtain rfl : fn = Tryz.f5 := (Option.some.inj (Tryz.func5.symm.trans hfn)).symm
 refine ⟨by kernel_rfl, fun j t ht => ?_⟩
 rw [Tryz.params5] at ht
 have hm := Array.mem_of_getElem? ht
 simp at hm
 rcases hm with rfl | rfl | rfl | rfl
 ·exact (show Tryz.prog.wantsStandIn 40 = false by kernel_rfl)
 ·exact (show Tryz.prog.wantsStandIn 3 = false by kernel_rfl)
 ·exact (show Tryz.prog.wantsStandIn 38 = false by kernel_rfl)
 ·exact (show Tryz.prog.wantsStandIn 3 = false by kernel_rfl)
set_option maxRecDepth 100000 in
theorem card : Rows.RowAllCardSaid :=
 Claim7.holds_tied_plain_at .later [] _ _ _ _ said (fun _ h => by cases h) (by kernel_rfl) (fun _ h => by cases h) rowAll_row_tie rfl ⟨rfl, rfl⟩ (by kernel_rfl) rfl plain (by kernel_rfl)
end Go.Proofs.YtaclmhopcfgbmaaGreatDoor.rowAll
