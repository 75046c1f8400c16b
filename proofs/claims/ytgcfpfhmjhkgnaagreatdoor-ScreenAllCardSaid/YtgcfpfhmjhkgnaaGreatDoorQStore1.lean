import Derived.Test.YtgcfpfhmjhkgnaaGreatDoorQStore0
import Derived.Test.YtgcfpfhmjhkgnaaGreatDoorQBase3
import Derived.Lib.AppendZerosOnto
import Derived.Lib.Walk
set_option maxRecDepth 100000
set_option maxHeartbeats 6400000
namespace Go.Proofs.YtgcfpfhmjhkgnaaGreatDoor
open Go.ChangeShapes Go.WideShapes Go.ChangeAt Go.RowKit
def SrcAt (w : World) (g : Nat) (A : Option Addr) (n c : Nat) (br : Bool) : Prop := w.heap[g]? = some (.cells #[.slice A n c, .bool br] 136 (0, 0))
theorem SrcAt.get {w : World} {g : Nat} {A : Option Addr} {n c : Nat} {br : Bool} (h : SrcAt w g A n c br) (j : Nat) : w.cell? ⟨g, j, none⟩ = #[Value.slice A n c, .bool br][j]? := cell_of_row w g j _ _ (0, 0) h
theorem SrcAt.free {w : World} {g : Nat} {A : Option Addr} {n c : Nat} {br : Bool} (h : SrcAt w g A n c br) (j : Nat) : w.frozen? ⟨g, j, none⟩ = false := by unfold SrcAt at h; simp [World.frozen?, h]
theorem SrcAt.lt {w : World} {g : Nat} {A : Option Addr} {n c : Nat} {br : Bool} (h : SrcAt w g A n c br) : g < w.heap.size := (Array.getElem?_eq_some_iff.1 h).1
theorem SrcAt.left {w : World} {g : Nat} {A : Option Addr} {n c : Nat} {br : Bool} (h : SrcAt w g A n c br) (A' : Option Addr) (n' c' : Nat) : SrcAt (w.setCell ⟨g, 0, none⟩ (.slice A' n' c')) g A' n' c' br := heap_setCell_same w g 0 _ _ _ h
theorem SrcAt.break {w : World} {g : Nat} {A : Option Addr} {n c : Nat} {br : Bool} (h : SrcAt w g A n c br) : SrcAt (w.setCell ⟨g, 1, none⟩ (.bool true)) g A n c true := heap_setCell_same w g 1 _ _ _ h
theorem grown_set (w : World) (g j : Nat) (u : Value) : w.grownBy (w.setCell ⟨g, j, none⟩ u) (some g) :=
 ⟨rfl, rfl, rfl, by simp, fun k _ hk => heap_setCell_other w ⟨g, j, none⟩ k u (fun e => hk (by simp [e]))⟩
theorem grown_trans {a b c : World} {r : Option Nat} (h : a.grownBy b r) (k : b.grownBy c r) : a.grownBy c r :=
 ⟨k.os.trans h.os, k.tape.trans h.tape, k.output.trans h.output, Nat.le_trans h.size k.size, fun i hi hne => (k.block i (Nat.lt_of_lt_of_le hi h.size) hne).trans (h.block i hi hne)⟩
theorem Sq.drop {w : World} {B n : Nat} {b off : Nat} {l : List Int} (h : Sq w B 1 n (some ⟨b, off, none⟩) (l.map (Value.int .u8))) {k : Nat} (hk : k ≤ n) : Sq w B 1 (n - k) (some ⟨b, off + k, none⟩) ((l.drop k).map (Value.int .u8)) := by
 have hl := h.size_ints
 refine ⟨by simp; omega, fun h0 => ?_⟩
 obtain ⟨b', off', e, hb, hc⟩ := h.spot (by omega)
 injection e with e
 injection e with e1 e2
 subst e1 e2
 refine ⟨b, off + k, rfl, hb, fun j u hu => ?_⟩
 rw [Nat.add_assoc]
 refine hc (k + j) u ?_
 rw [List.map_drop, List.getElem?_drop] at hu
 exact hu
def NumR (most : Nat) (b : List Int) (br : Bool) (x : Nat) (m : List Int) (br' : Bool) : Prop := (numL most b = some (x, m) ∧ br' = br) ∨ (numL most b = none ∧ x = 0 ∧ br' = true)
def NumPost (most g B : Nat) (b : List Int) (br : Bool) (w : World) (e : Ending) (w' : World) : Prop :=
 ∃ (A : Option Addr) (n c : Nat) (br' : Bool) (x : Nat) (m : List Int), e = .returned (.int .i64 x) ∧ SrcAt w' g A n c br' ∧ Sq w' B 1 n A (m.map (Value.int .u8)) ∧ n ≤ c ∧ n ≤ 1000000 ∧ (∀ y ∈ m, 0 ≤ y ∧ y ≤ 255) ∧
  w.grownBy w' (some g) ∧ w'.heap.size = w.heap.size ∧ x ≤ most ∧ NumR most b br x m br'
theorem number_walk (most g B : Nat) (A : Option Addr) (n c : Nat) (br : Bool) (b : List Int) (w : World) (hs : SrcAt w g A n c br) (hq : Sq w B 1 n A (b.map (Value.int .u8))) (hBg : B ≤ g) (hc : n ≤ c) (hn : n ≤ 1000000) (hb : ∀ y ∈ b, 0 ≤ y ∧ y ≤ 255) (hm : most ≤ 2000000) :
  Calls Tryz.prog 115 #[.pointer (some ⟨g, 0, none⟩), .int .i64 most] w fun e w' => NumPost most g B b br w e w' := by
 have s0 : w.cell? ⟨g, 0, none⟩ = some (.slice A n c) := hs.get 0
 have s1 : w.cell? ⟨g, 1, none⟩ = some (.bool br) := hs.get 1
 have f0 := hs.free 0
 have f1 := hs.free 1
 have S := Lib.hid hs
 have Q := Lib.hid hq
 have HB := Lib.hid hb
 have LN := Lib.hid hq.size_ints
 obtain ⟨v, hv⟩ : ∃ v, (getL b).1 = v := ⟨_, rfl⟩
 obtain ⟨k, hk⟩ : ∃ k, (getL b).2 = k := ⟨_, rfl⟩
 have VH := Lib.hid hv
 have KH := Lib.hid hk
 have GU := getUint_walk A n c b w hq hb hn
 rw [hv, hk] at GU
 have GUH := Lib.hid GU
 clear hs hq hb hv hk GU
 by_cases hk0 : k = 0
 ·have NL := Lib.hid (show numL most b = none by unfold numL; rw [if_pos (.inl (by rw [KH.out, hk0]))])
  subst hk0
  go_enter Tryz.func115, Tryz.ntmps115
  go_wp2_with fail
  refine GUH.out.mono ?_
  rintro e w' ⟨rfl, rfl⟩
  go_wp2
  go_ret
  exact ⟨A, n, c, true, 0, b, rfl, S.out.break, (Q.out.below ((Below.refl B w).setCell (p := ⟨g, 1, none⟩) hBg _)), hc, hn, HB.out, grown_set _ _ _ _, by simp, Nat.zero_le _, Or.inr ⟨NL.out, rfl, rfl⟩⟩
 ·have hkb := getL_some HB.out (show getL b = (v, k) by rw [← VH.out, ← KH.out]) hk0
  have hkn : k ≤ n := by have := LN.out; omega
  have hv64 : v < 18446744073709551616 := hkb.1
  have d1 : ((k : Int) == 0) = false := by simp; omega
  obtain ⟨b0, off, rfl, _, _⟩ := Q.out.spot (show 0 < n by omega)
  clear hkb
  by_cases hvm : most < v
  ·have NL := Lib.hid (show numL most b = none by unfold numL; rw [if_pos (.inr (by rw [VH.out]; exact hvm))])
   go_enter Tryz.func115, Tryz.ntmps115
   go_wp2_with fail
   refine GUH.out.mono ?_
   rintro e w' ⟨rfl, rfl⟩
   go_wp2
   go_ret
   exact ⟨_, n, c, true, 0, b, rfl, S.out.break, (Q.out.below ((Below.refl B w).setCell (p := ⟨g, 1, none⟩) hBg _)), hc, hn, HB.out, grown_set _ _ _ _, by simp, Nat.zero_le _, Or.inr ⟨NL.out, rfl, rfl⟩⟩
  ·have NL := Lib.hid (show numL most b = some (v, b.drop k) by unfold numL; rw [if_neg (by rw [VH.out, KH.out]; omega), VH.out, KH.out])
   have DR := Lib.hid (fun (y : Int) (h : y ∈ b.drop k) => HB.out y (List.mem_of_mem_drop h))
   have hv0 : v ≤ 2000000 := by omega
   by_cases hkc : k = c
   ·have hnk : n = k := by omega
    have DE := Lib.hid (show b.drop k = [] from List.drop_eq_nil_of_le (by have := LN.out; omega))
    subst hnk
    subst hkc
    go_enter Tryz.func115, Tryz.ntmps115
    go_wp2_with fail
    refine GUH.out.mono ?_
    rintro e w' ⟨rfl, rfl⟩
    go_wp2
    go_ret
    exact ⟨_, 0, 0, br, v, b.drop n, rfl, S.out.left _ _ _, by rw [DE.out]; exact Sq.nothing _ _ _ _, Nat.le_refl _, Nat.zero_le _, DR.out, grown_set _ _ _ _, by simp, by omega, Or.inl ⟨NL.out, rfl⟩⟩
   ·have hkc' : k < c := by omega
    clear hkc
    go_enter Tryz.func115, Tryz.ntmps115
    go_wp2_with fail
    refine GUH.out.mono ?_
    rintro e w' ⟨rfl, rfl⟩
    go_wp2
    go_ret
    exact ⟨_, n - k, c - k, br, v, b.drop k, rfl, S.out.left _ _ _, ((Q.out.drop hkn).below ((Below.refl B w).setCell (p := ⟨g, 0, none⟩) hBg _)), by omega, by omega, DR.out, grown_set _ _ _ _, by simp, by omega, Or.inl ⟨NL.out, rfl⟩⟩
def zeroBreaks (x : Nat) (br : Bool) : Bool := if x = 0 then true else br
def RunR (room : Nat) (b : List Int) (br : Bool) (x : Nat × Cel) (m : List Int) (br' : Bool) : Prop := (runL room b = some (x, m) ∧ br' = br) ∨ (runL room b = none ∧ br' = true)
theorem run_glue {room : Nat} {b m1 m2 m3 m4 : List Int} {br br1 br2 br3 br4 br5 : Bool} {x1 x2 x3 x4 : Nat}
  (h1 : NumR room b br x1 m1 br1) (h2 : br2 = zeroBreaks x1 br1)
  (h3 : NumR 1114111 m1 br2 x2 m2 br3)
  (h4 : NumR 2 m2 br3 x3 m3 br4)
  (h5 : NumR 255 m3 br4 x4 m4 br5) :
  RunR room b br (x1, ((x2 : Int), (x3 : Int), (x4 : Int))) m4 br5 := by
 unfold RunR runL
 unfold NumR at h1 h3 h4 h5
 unfold zeroBreaks at h2
 rcases h1 with ⟨e1, rfl⟩ | ⟨e1, rfl, rfl⟩
 ·rw [e1]
  simp only [Option.bind_some]
  by_cases h0 : x1 = 0
  ·subst h0
   simp only [if_true] at h2 ⊢
   subst h2
   right
   refine ⟨trivial, ?_⟩
   rcases h5 with ⟨_, rfl⟩ | ⟨_, _, rfl⟩
   ·rcases h4 with ⟨_, rfl⟩ | ⟨_, _, rfl⟩
    ·rcases h3 with ⟨_, rfl⟩ | ⟨_, _, rfl⟩ <;> rfl
    ·rfl
   ·rfl
  ·rw [if_neg h0] at h2 ⊢
   subst h2
   rcases h3 with ⟨e3, rfl⟩ | ⟨e3, _, rfl⟩
   ·rw [e3]
    simp only [Option.bind_some]
    rcases h4 with ⟨e4, rfl⟩ | ⟨e4, _, rfl⟩
    ·rw [e4]
     simp only [Option.bind_some]
     rcases h5 with ⟨e5, rfl⟩ | ⟨e5, _, rfl⟩
     ·rw [e5]
      left
      exact ⟨rfl, rfl⟩
     ·rw [e5]
      right
      exact ⟨rfl, rfl⟩
    ·rw [e4]
     right
     refine ⟨rfl, ?_⟩
     rcases h5 with ⟨_, rfl⟩ | ⟨_, _, rfl⟩ <;> rfl
   ·rw [e3]
    right
    refine ⟨rfl, ?_⟩
    rcases h5 with ⟨_, rfl⟩ | ⟨_, _, rfl⟩
    ·rcases h4 with ⟨_, rfl⟩ | ⟨_, _, rfl⟩ <;> rfl
    ·rfl
 ·rw [e1]
  simp only [if_true] at h2
  subst h2
  right
  refine ⟨rfl, ?_⟩
  rcases h5 with ⟨_, rfl⟩ | ⟨_, _, rfl⟩
  ·rcases h4 with ⟨_, rfl⟩ | ⟨_, _, rfl⟩
   ·rcases h3 with ⟨_, rfl⟩ | ⟨_, _, rfl⟩ <;> rfl
   ·rfl
  ·rfl
abbrev runV (x : Nat × Cel) : Value := .agg #[.int .i64 x.1, .int .i32 x.2.1, .int .i64 x.2.2.1, .int .i64 x.2.2.2]
def RunPost (room g B : Nat) (b : List Int) (br : Bool) (w : World) (e : Ending) (w' : World) : Prop :=
 ∃ (A : Option Addr) (n c : Nat) (br' : Bool) (x : Nat × Cel) (m : List Int), e = .returned (runV x) ∧ SrcAt w' g A n c br' ∧ Sq w' B 1 n A (m.map (Value.int .u8)) ∧ n ≤ c ∧ n ≤ 1000000 ∧ (∀ y ∈ m, 0 ≤ y ∧ y ≤ 255) ∧
  w.grownBy w' (some g) ∧ RunR room b br x m br'
theorem runAt_put {w : World} {g : Nat} {x : Nat × Cel} (h : RunAt w g x) (n : Nat) (r m a : Int) : RunAt ((((w.setCell ⟨g, 0, none⟩ (.int .i64 n)).setCell ⟨g, 1, none⟩ (.int .i32 r)).setCell ⟨g, 2, none⟩ (.int .i64 m)).setCell ⟨g, 3, none⟩ (.int .i64 a)) g (n, r, m, a) := by
 have h0 := heap_setCell_same w g 0 _ _ (.int .i64 n) h
 have h1 := heap_setCell_same _ g 1 _ _ (.int .i32 r) h0
 have h2 := heap_setCell_same _ g 2 _ _ (.int .i64 m) h1
 have h3 := heap_setCell_same _ g 3 _ _ (.int .i64 a) h2
 exact h3
theorem grown_more {w w' : World} {r : Option Nat} (h : w.grownBy w' r) {p : Addr} (hp : w.heap.size ≤ p.block) (u : Value) : w.grownBy (w'.setCell p u) r :=
 ⟨h.os, h.tape, h.output, by simpa using h.size, fun k hk hne => (Below.heap_setCell w' p u k (by omega)).trans (h.block k hk hne)⟩
theorem run_walk (room g B : Nat) (A : Option Addr) (n c : Nat) (br : Bool) (b : List Int) (w : World) (hs : SrcAt w g A n c br) (hq : Sq w B 1 n A (b.map (Value.int .u8))) (hBg : B ≤ g) (hc : n ≤ c) (hn : n ≤ 1000000) (hb : ∀ y ∈ b, 0 ≤ y ∧ y ≤ 255) (hm : room ≤ 2000000) :
  Calls Tryz.prog 117 #[.pointer (some ⟨g, 0, none⟩), .int .i64 room] w fun e w' => RunPost room g B b br w e w' := by
 have hgl := hs.lt
 have hBl : B ≤ w.heap.size := by omega
 have r0 : (w.alloc (.cells #[.int .i64 0, .int .i32 0, .int .i64 0, .int .i64 0] 134)).heap[w.heap.size]? = some (.cells #[.int .i64 0, .int .i32 0, .int .i64 0, .int .i64 0] 134 (0, 0)) := heap_alloc_new w _
 have ga := World.grownBy_alloc w (.cells #[.int .i64 0, .int .i32 0, .int .i64 0, .int .i64 0] 134) (some g)
 have z0 : (w.alloc (.cells #[.int .i64 0, .int .i32 0, .int .i64 0, .int .i64 0] 134)).heap.size = w.heap.size + 1 := by simp
 have s1 : SrcAt (w.alloc (.cells #[.int .i64 0, .int .i32 0, .int .i64 0, .int .i64 0] 134)) g A n c br := (Below.heap_alloc w _ g hgl).trans hs
 have NW := Lib.hid (number_walk room g B A n c br b _ s1 (hq.alloc hBl _) hBg hc hn hb hm)
 have R0 := Lib.hid r0
 have GA := Lib.hid ga
 have Z0 := Lib.hid z0
 clear hs hq hb r0 ga z0 s1
 go_enter Tryz.func117, Tryz.ntmps117
 go_wp2_with fail
 refine NW.out.mono ?_
 rintro e w2 ⟨A1, n1, c1, br1, x1, m1, rfl, s2, q2, hc1, hn1, hb1, g2, z2, hx1, d1⟩
 have D1 := Lib.hid d1
 have HB1 := Lib.hid hb1
 have G2 := Lib.hid (grown_trans GA.out g2)
 have R2 := Lib.hid ((g2.block w.heap.size (by rw [Z0.out]; omega) (by simp; omega)).trans R0.out)
 have Z2 := Lib.hid (z2.trans Z0.out)
 have S2 := Lib.hid s2
 have Q2 := Lib.hid q2
 have hx1' : x1 ≤ 2000000 := by omega
 clear d1 hb1 g2 z2 s2 q2 NW
 by_cases hx0 : x1 = 0
 ·subst hx0
  have H2 := Lib.hid (show true = zeroBreaks 0 br1 from rfl)
  have S3 := Lib.hid S2.out.break
  have Q3 := Lib.hid (Q2.out.below ((Below.refl B w2).setCell (p := ⟨g, 1, none⟩) hBg (.bool true)))
  have G3 := Lib.hid (grown_trans G2.out (grown_set w2 g 1 (.bool true)))
  have R3 := Lib.hid ((Below.heap_setCell w2 ⟨g, 1, none⟩ (.bool true) w.heap.size (by show w.heap.size ≠ g; omega)).trans R2.out)
  have Z3 := Lib.hid (show (w2.setCell ⟨g, 1, none⟩ (.bool true)).heap.size = w.heap.size + 1 by simp; exact Z2.out)
  have p1 := S2.out.get 1
  have f1 := S2.out.free 1
  simp at p1
  have N3 := Lib.hid (number_walk 1114111 g B A1 n1 c1 _ m1 _ S3.out Q3.out hBg hc1 hn1 HB1.out (by omega))
  go_wp2_with fail
  refine N3.out.mono ?_
  rintro e w4 ⟨A4, n4, c4, br4, x4, m4, rfl, s4, q4, hc4, hn4, hb4, g4, z4, hx4, d4⟩
  have D4 := Lib.hid d4
  have HB4 := Lib.hid hb4
  have G4 := Lib.hid (grown_trans G3.out g4)
  have R4 := Lib.hid ((g4.block w.heap.size (by rw [Z3.out]; omega) (by simp; omega)).trans R3.out)
  have Z4 := Lib.hid (z4.trans Z3.out)
  have N4 := Lib.hid (number_walk 2 g B A4 n4 c4 _ m4 _ s4 q4 hBg hc4 hn4 hb4 (by omega))
  clear d4 hb4 g4 z4 s4 q4 N3
  go_wp2_with fail
  refine N4.out.mono ?_
  rintro e w5 ⟨A5, n5, c5, br5, x5, m5, rfl, s5, q5, hc5, hn5, hb5, g5, z5, hx5, d5⟩
  have D5 := Lib.hid d5
  have G5 := Lib.hid (grown_trans G4.out g5)
  have R5 := Lib.hid ((g5.block w.heap.size (by rw [Z4.out]; omega) (by simp; omega)).trans R4.out)
  have Z5 := Lib.hid (z5.trans Z4.out)
  have N5 := Lib.hid (number_walk 255 g B A5 n5 c5 _ m5 _ s5 q5 hBg hc5 hn5 hb5 (by omega))
  clear d5 hb5 g5 z5 s5 q5 N4
  go_wp2_with fail
  refine N5.out.mono ?_
  rintro e w6 ⟨A6, n6, c6, br6, x6, m6, rfl, s6, q6, hc6, hn6, hb6, g6, z6, hx6, d6⟩
  have D6 := Lib.hid d6
  have G6 := Lib.hid (grown_trans G5.out g6)
  have R6 := Lib.hid ((g6.block w.heap.size (by rw [Z5.out]; omega) (by simp; omega)).trans R5.out)
  have Z6 := Lib.hid (z6.trans Z5.out)
  have S6 := Lib.hid s6
  have Q6 := Lib.hid q6
  have HB6 := Lib.hid hb6
  have GL := Lib.hid (run_glue D1.out H2.out D4.out D5.out D6.out)
  have k0 : w6.cell? ⟨w.heap.size, 0, none⟩ = some (.int .i64 0) := by rw [cell_of_row _ _ _ _ _ (0, 0) R6.out]; rfl
  have k1 : w6.cell? ⟨w.heap.size, 1, none⟩ = some (.int .i32 0) := by rw [cell_of_row _ _ _ _ _ (0, 0) R6.out]; rfl
  have k2 : w6.cell? ⟨w.heap.size, 2, none⟩ = some (.int .i64 0) := by rw [cell_of_row _ _ _ _ _ (0, 0) R6.out]; rfl
  have k3 : w6.cell? ⟨w.heap.size, 3, none⟩ = some (.int .i64 0) := by rw [cell_of_row _ _ _ _ _ (0, 0) R6.out]; rfl
  have j0 := frozen_of_row _ _ 0 _ _ R6.out
  have j1 := frozen_of_row _ _ 1 _ _ R6.out
  have j2 := frozen_of_row _ _ 2 _ _ R6.out
  have j3 := frozen_of_row _ _ 3 _ _ R6.out
  clear d6 hb6 g6 z6 s6 q6 N5
  go_wp2
  have RF := runAt_put (x := (0, 0, 0, 0)) R6.out 0 (x4 : Int) (x5 : Int) (x6 : Int)
  have BF := (((((Below.refl w.heap.size w6).setCell (p := ⟨w.heap.size, 0, none⟩) (Nat.le_refl _) (.int .i64 0)).setCell (p := ⟨w.heap.size, 1, none⟩) (Nat.le_refl _) (.int .i32 x4)).setCell (p := ⟨w.heap.size, 2, none⟩) (Nat.le_refl _) (.int .i64 x5)).setCell (p := ⟨w.heap.size, 3, none⟩) (Nat.le_refl _) (.int .i64 x6))
  have GF := grown_more (p := ⟨w.heap.size, 3, none⟩) (grown_more (p := ⟨w.heap.size, 2, none⟩) (grown_more (p := ⟨w.heap.size, 1, none⟩) (grown_more (p := ⟨w.heap.size, 0, none⟩) G6.out (Nat.le_refl _) (.int .i64 0)) (Nat.le_refl _) (.int .i32 x4)) (Nat.le_refl _) (.int .i64 x5)) (Nat.le_refl _) (.int .i64 x6)
  generalize (((w6.setCell ⟨w.heap.size, 0, none⟩ (.int .i64 0)).setCell ⟨w.heap.size, 1, none⟩ (.int .i32 x4)).setCell ⟨w.heap.size, 2, none⟩ (.int .i64 x5)).setCell ⟨w.heap.size, 3, none⟩ (.int .i64 x6) = w7 at RF BF GF ⊢
  have e0 := RF.get 0
  have e1 := RF.get 1
  have e2 := RF.get 2
  have e3 := RF.get 3
  refine bodyPost_ret (v := runV (0, ((x4 : Int), (x5 : Int), (x6 : Int)))) (by simp [results, Tryz.results117, go_sem, e0, e1, e2, e3]) rfl ?_
  exact ⟨A6, n6, c6, br6, (0, ((x4 : Int), (x5 : Int), (x6 : Int))), m6, rfl, (BF.block g hgl).trans S6.out, Q6.out.carry (fun p hp => BF.cell (by omega)), hc6, hn6, HB6.out, GF, GL.out⟩
 ·have H2 := Lib.hid (show br1 = zeroBreaks x1 br1 from (if_neg hx0).symm)
  have d1 : ((x1 : Int) == 0) = false := by simp; omega
  have S3 := S2
  have Q3 := Q2
  have G3 := G2
  have R3 := R2
  have Z3 := Z2
  have N3 := Lib.hid (number_walk 1114111 g B A1 n1 c1 _ m1 _ S3.out Q3.out hBg hc1 hn1 HB1.out (by omega))
  go_wp2_with fail
  refine N3.out.mono ?_
  rintro e w4 ⟨A4, n4, c4, br4, x4, m4, rfl, s4, q4, hc4, hn4, hb4, g4, z4, hx4, d4⟩
  have D4 := Lib.hid d4
  have HB4 := Lib.hid hb4
  have G4 := Lib.hid (grown_trans G3.out g4)
  have R4 := Lib.hid ((g4.block w.heap.size (by rw [Z3.out]; omega) (by simp; omega)).trans R3.out)
  have Z4 := Lib.hid (z4.trans Z3.out)
  have N4 := Lib.hid (number_walk 2 g B A4 n4 c4 _ m4 _ s4 q4 hBg hc4 hn4 hb4 (by omega))
  clear d4 hb4 g4 z4 s4 q4 N3
  go_wp2_with fail
  refine N4.out.mono ?_
  rintro e w5 ⟨A5, n5, c5, br5, x5, m5, rfl, s5, q5, hc5, hn5, hb5, g5, z5, hx5, d5⟩
  have D5 := Lib.hid d5
  have G5 := Lib.hid (grown_trans G4.out g5)
  have R5 := Lib.hid ((g5.block w.heap.size (by rw [Z4.out]; omega) (by simp; omega)).trans R4.out)
  have Z5 := Lib.hid (z5.trans Z4.out)
  have N5 := Lib.hid (number_walk 255 g B A5 n5 c5 _ m5 _ s5 q5 hBg hc5 hn5 hb5 (by omega))
  clear d5 hb5 g5 z5 s5 q5 N4
  go_wp2_with fail
  refine N5.out.mono ?_
  rintro e w6 ⟨A6, n6, c6, br6, x6, m6, rfl, s6, q6, hc6, hn6, hb6, g6, z6, hx6, d6⟩
  have D6 := Lib.hid d6
  have G6 := Lib.hid (grown_trans G5.out g6)
  have R6 := Lib.hid ((g6.block w.heap.size (by rw [Z5.out]; omega) (by simp; omega)).trans R5.out)
  have Z6 := Lib.hid (z6.trans Z5.out)
  have S6 := Lib.hid s6
  have Q6 := Lib.hid q6
  have HB6 := Lib.hid hb6
  have GL := Lib.hid (run_glue D1.out H2.out D4.out D5.out D6.out)
  have k0 : w6.cell? ⟨w.heap.size, 0, none⟩ = some (.int .i64 0) := by rw [cell_of_row _ _ _ _ _ (0, 0) R6.out]; rfl
  have k1 : w6.cell? ⟨w.heap.size, 1, none⟩ = some (.int .i32 0) := by rw [cell_of_row _ _ _ _ _ (0, 0) R6.out]; rfl
  have k2 : w6.cell? ⟨w.heap.size, 2, none⟩ = some (.int .i64 0) := by rw [cell_of_row _ _ _ _ _ (0, 0) R6.out]; rfl
  have k3 : w6.cell? ⟨w.heap.size, 3, none⟩ = some (.int .i64 0) := by rw [cell_of_row _ _ _ _ _ (0, 0) R6.out]; rfl
  have j0 := frozen_of_row _ _ 0 _ _ R6.out
  have j1 := frozen_of_row _ _ 1 _ _ R6.out
  have j2 := frozen_of_row _ _ 2 _ _ R6.out
  have j3 := frozen_of_row _ _ 3 _ _ R6.out
  clear d6 hb6 g6 z6 s6 q6 N5
  go_wp2
  have RF := runAt_put (x := (0, 0, 0, 0)) R6.out x1 (x4 : Int) (x5 : Int) (x6 : Int)
  have BF := (((((Below.refl w.heap.size w6).setCell (p := ⟨w.heap.size, 0, none⟩) (Nat.le_refl _) (.int .i64 x1)).setCell (p := ⟨w.heap.size, 1, none⟩) (Nat.le_refl _) (.int .i32 x4)).setCell (p := ⟨w.heap.size, 2, none⟩) (Nat.le_refl _) (.int .i64 x5)).setCell (p := ⟨w.heap.size, 3, none⟩) (Nat.le_refl _) (.int .i64 x6))
  have GF := grown_more (p := ⟨w.heap.size, 3, none⟩) (grown_more (p := ⟨w.heap.size, 2, none⟩) (grown_more (p := ⟨w.heap.size, 1, none⟩) (grown_more (p := ⟨w.heap.size, 0, none⟩) G6.out (Nat.le_refl _) (.int .i64 x1)) (Nat.le_refl _) (.int .i32 x4)) (Nat.le_refl _) (.int .i64 x5)) (Nat.le_refl _) (.int .i64 x6)
  generalize (((w6.setCell ⟨w.heap.size, 0, none⟩ (.int .i64 x1)).setCell ⟨w.heap.size, 1, none⟩ (.int .i32 x4)).setCell ⟨w.heap.size, 2, none⟩ (.int .i64 x5)).setCell ⟨w.heap.size, 3, none⟩ (.int .i64 x6) = w7 at RF BF GF ⊢
  have e0 := RF.get 0
  have e1 := RF.get 1
  have e2 := RF.get 2
  have e3 := RF.get 3
  refine bodyPost_ret (v := runV (x1, ((x4 : Int), (x5 : Int), (x6 : Int)))) (by simp [results, Tryz.results117, go_sem, e0, e1, e2, e3]) rfl ?_
  exact ⟨A6, n6, c6, br6, (x1, ((x4 : Int), (x5 : Int), (x6 : Int))), m6, rfl, (BF.block g hgl).trans S6.out, Q6.out.carry (fun p hp => BF.cell (by omega)), hc6, hn6, HB6.out, GF, GL.out⟩
def GrowPost (w : World) (e : Ending) (w' : World) : Prop := ∃ v, e = .returned v ∧ HasC w' w.heap.size v [] ∧ Below w.heap.size w w'
theorem grow_walk (m : Nat) (w : World) (hm : m ≤ 1000) : Calls Tryz.prog 116 #[.slice none 0 0, .int .i64 m] w fun e w' => GrowPost w e w' := by
 obtain ⟨i0, hi, hz0, hz1, hz2⟩ := info_parts infoCell
 by_cases h0 : m = 0
 ·subst h0
  go_enter Tryz.func116, Tryz.ntmps116
  go_wp2
  go_ret
  exact ⟨_, rfl, World.ownsRow_nil w _ _ _, Below.refl _ _⟩
 ·have hold : (Builtin.firstCells i0.size 0 (.slice none 0 0)).run Tryz.prog w.drew = .ok #[] w.drew := run_firstCells_none w.drew i0.size 0 0 0
  have hrz : ∀ ty, (Builtin.append_ #[22, 3] ty #[.slice none 0 0, .int .i64 (m : Int)]).run Tryz.prog w =
    .ok (.slice (some ⟨w.heap.size, 0, none⟩) (0 + m) (grownCap w (0 + m) 0 33)) (w.drew.alloc (.cells (#[] ++ Builtin.zeroCells #[.int .i32 0, .int .i64 0, .int .i64 0] m ++ Builtin.zeroCells #[.int .i32 0, .int .i64 0, .int .i64 0] (grownCap w (0 + m) 0 33 - (0 + m))) 33)) := fun ty => by
   have h := Lib.run_append_grow_zeros w 22 3 ty 33 i0 (.agg #[.int .i32 0, .int .i64 0, .int .i64 0]) .i64 .i64 Tryz.underlying22 Tryz.underlying3 hi hz0 none 0 0 [] hold m (by omega) (by rw [hz1]; decide) (by omega) (by omega)
    (by rw [hz2]; omega)
    (growslice_fits (by omega) (by rw [hz2]; omega))
   exact h
  have hGn : 0 + m ≤ grownCap w (0 + m) 0 33 := grownCap_ge w _ _ _
  have hGm : grownCap w (0 + m) 0 33 ≤ maxLen := grownCap_le_maxLen w _ _ _ (by unfold maxLen; omega)
  obtain ⟨G, hG⟩ : ∃ G, G = grownCap w (0 + m) 0 33 := ⟨_, rfl⟩
  rw [← hG] at hrz hGn hGm
  rw [Nat.zero_add] at hrz hGn
  have hG63 : G ≤ 9223372036854775807 := by unfold maxLen at hGm; omega
  have GM := Lib.hid hGm
  obtain ⟨cs, hcs⟩ : ∃ cs, #[] ++ Builtin.zeroCells #[Value.int .i32 0, .int .i64 0, .int .i64 0] m ++ Builtin.zeroCells #[Value.int .i32 0, .int .i64 0, .int .i64 0] (G - m) = cs := ⟨_, rfl⟩
  have CS := Lib.hid (show cs.size = G * 3 by rw [← hcs]; simp [size_zeroCells]; omega)
  rw [hcs] at hrz
  clear hold hG hGm hcs
  go_enter Tryz.func116, Tryz.ntmps116
  go_wp2_with (at_builtin; refine Lib.wpList_append_run _ rfl _ _ _ _ rfl _ _ rfl rfl _ _ (hrz _) ?_)
  go_ret
  exact ⟨_, rfl, World.ownsRow_made w.drew cs G (Nat.le_refl _) GM.out CS.out, (Below.refl _ w).drew.alloc (Nat.le_refl _) _⟩
def gotR (b : List Int) : Bool × List Cel × Nat × Nat := match getR mayL b with | some (wr, l, n) => (wr, l, n, 0) | none => (false, [], 0, 1)
theorem gotR_none {b : List Int} (h : getR mayL b = none) : gotR b = (false, [], 0, 1) := by unfold gotR; rw [h]
theorem gotR_some {b : List Int} {wr : Bool} {l : List Cel} {n : Nat} (h : getR mayL b = some (wr, l, n)) : gotR b = (wr, l, n, 0) := by unfold gotR; rw [h]
def GetPost (b : List Int) (w : World) (e : Ending) (w' : World) : Prop :=
 ∃ v, e = .returned (.tuple #[.agg #[v, .bool (gotR b).1], .int .i64 (gotR b).2.2.1, .int .i64 (gotR b).2.2.2]) ∧ HasC w' w.heap.size v (gotR b).2.1 ∧ Below w.heap.size w w'
def RowAt (w : World) (g : Nat) (v : Value) (wrap : Bool) : Prop := w.heap[g]? = some (.cells #[v, .bool wrap] 24 (0, 0))
theorem RowAt.get {w : World} {g : Nat} {v : Value} {wrap : Bool} (h : RowAt w g v wrap) (j : Nat) : w.cell? ⟨g, j, none⟩ = #[v, .bool wrap][j]? := cell_of_row w g j _ _ (0, 0) h
theorem RowAt.free {w : World} {g : Nat} {v : Value} {wrap : Bool} (h : RowAt w g v wrap) (j : Nat) : w.frozen? ⟨g, j, none⟩ = false := frozen_of_row w g j _ _ h
theorem RowAt.lt {w : World} {g : Nat} {v : Value} {wrap : Bool} (h : RowAt w g v wrap) : g < w.heap.size := (Array.getElem?_eq_some_iff.1 h).1
theorem RowAt.put {w : World} {g : Nat} {v : Value} {wrap : Bool} (h : RowAt w g v wrap) (v' : Value) : RowAt (w.setCell ⟨g, 0, none⟩ v') g v' wrap := heap_setCell_same w g 0 _ _ _ h
theorem RowAt.put2 {w : World} {g : Nat} {v : Value} {wrap : Bool} (h : RowAt w g v wrap) (v' : Value) (wrap' : Bool) : RowAt ((w.setCell ⟨g, 0, none⟩ v').setCell ⟨g, 1, none⟩ (.bool wrap')) g v' wrap' := heap_setCell_same _ g 1 _ _ _ (heap_setCell_same w g 0 _ _ _ h)
theorem HasC.nothing (w : World) (base : Nat) : HasC w base (.slice none 0 0) [] := World.ownsRow_nil w base _ _
theorem HasC.shape {w : World} {base : Nat} {v : Value} {l : List Cel} (h : HasC w base v l) : ∃ A c, v = .slice A l.length c ∧ l.length ≤ c := by
 rcases h.2 with ⟨rfl, h0⟩ | ⟨g, cap, cur, rfl, _, _, hc, _⟩
 ·rw [h0]; exact ⟨_, _, rfl, Nat.le_refl _⟩
 ·exact ⟨_, _, rfl, hc⟩
theorem HasC.lt {w : World} {base : Nat} {v : Value} {l : List Cel} (h : HasC w base v l) : ∀ k, v.ownBlock = some k → base ≤ k ∧ k < w.heap.size := fun k e => World.ownsRow.lt h k e
theorem HasC.keep {w w' : World} {base : Nat} {v : Value} {l : List Cel} (h : HasC w base v l) (hk : ∀ k, v.ownBlock = some k → w'.heap[k]? = w.heap[k]?) : HasC w' base v l := by
 refine ⟨h.1, ?_⟩
 rcases h.2 with e | ⟨g, cap, cur, rfl, e2, e3, r⟩
 ·exact .inl e
 ·exact .inr ⟨g, cap, cur, rfl, e2, (hk g rfl).trans e3, r⟩
theorem HasC.mono {w : World} {base base' : Nat} {v : Value} {l : List Cel} (h : HasC w base v l) (hb : base' ≤ base) : HasC w base' v l := by
 refine ⟨h.1, ?_⟩
 rcases h.2 with e | ⟨g, cap, cur, rfl, e2, r⟩
 ·exact .inl e
 ·exact .inr ⟨g, cap, cur, rfl, Nat.le_trans hb e2, r⟩
theorem HasC.sq {w : World} {base n c : Nat} {A : Option Addr} {l : List Cel} (h : HasC w base (.slice A n c) l) : Sq w w.heap.size 3 n A (flat l) := by
 obtain ⟨A', c', e, _⟩ := HasC.shape h
 injection e with e1 e2 e3
 subst e1 e2 e3
 exact Sq.own h
theorem getR_runs {b m : List Int} {hd : Nat} (h : numL 601 b = some (hd, m)) : getR mayL b = (runsL (hd / 2) [] m).bind fun x => if mayL x.1 then some (hd % 2 == 1, x.1, b.length - x.2.length) else none := by
 unfold getR
 rw [h]
 rfl
theorem getR_num {b : List Int} (h : numL 601 b = none) : getR mayL b = none := by
 unfold getR
 rw [h]
 rfl
theorem cel_new_at {w : World} {n : Nat} (h : w.heap.size = n) (x y z : Value) (t : TypeId) : ∀ j v, [x, y, z][j]? = some v → (w.alloc (.cells #[x, y, z] t)).cell? ((⟨n, 0, none⟩ : Addr).add j) = some v := by
 subst h
 intro j v hv
 rw [add_at', cell_of_row _ w.heap.size _ _ _ (0, 0) (heap_alloc_new w _)]
 simpa using hv
theorem cel_cells (r m a : Int) : ∀ u ∈ [Value.int .i32 r, Value.int .i64 m, Value.int .i64 a], u.oneCell' = true := by intro u hu; simp at hu; rcases hu with rfl | rfl | rfl <;> rfl
theorem fitc1 {n : Nat} (h : n ≤ 1000000) : n + 1 ≤ maxLen := by unfold maxLen; omega
theorem fitc2 {n : Nat} (h : n ≤ 1000000) : (n + 1) * 24 ≤ 140737488355328 := by omega
theorem hasC_snoc {w : World} {base : Nat} {v : Value} {l : List Cel} {r m a : Int} (h : w.ownsRow base 33 3 v (l.length + 1) (flat l ++ [.int .i32 r, .int .i64 m, .int .i64 a])) : HasC w base v (l ++ [(r, m, a)]) := by
 unfold HasC
 rw [List.length_append, flat_append]
 exact h
structure GetAt (b m0 : List Int) (hd : Nat) (N2 : Nat) (w : World) (k : Nat) (wr : World) (A : Option Addr) (n c : Nat) (br : Bool) (m : List Int) (v : Value) (l : List Cel) : Prop where
 le : k ≤ hd / 2
 zero : RowAt wr w.heap.size (.slice none 0 0) false
 src : SrcAt wr (w.heap.size + 1) A n c br
 left : Sq wr w.heap.size 1 n A (m.map (Value.int .u8))
 cap : n ≤ c
 few : n ≤ 1000000
 oct : ∀ y ∈ m, 0 ≤ y ∧ y ≤ 255
 row : RowAt wr N2 v (hd % 2 == 1)
 own : HasC wr (w.heap.size + 2) v l
 apart : v.ownBlock ≠ some N2
 far : w.heap.size + 2 ≤ N2
 len : l.length ≤ 300
 small : ∀ c ∈ l, Small c
 below : Below w.heap.size w wr
 short : br = false → m.length ≤ b.length
 whole : br = false → runsL (hd / 2) [] m0 = runsL (hd / 2 - k) l m
structure PutAt (N2 N3 : Nat) (w : World) (j : Nat) (wr : World) (A : Option Addr) (n c : Nat) (m : List Int) (x : Nat × Cel) (wrap : Bool) (v : Value) (l : List Cel) : Prop where
 le : j ≤ x.1
 zero : RowAt wr w.heap.size (.slice none 0 0) false
 src : SrcAt wr (w.heap.size + 1) A n c false
 left : Sq wr w.heap.size 1 n A (m.map (Value.int .u8))
 row : RowAt wr N2 v wrap
 next : RunAt wr N3 x
 own : HasC wr (w.heap.size + 2) v (l ++ List.replicate j x.2)
 apart : v.ownBlock ≠ some N2
 apart3 : v.ownBlock ≠ some N3
 far : w.heap.size + 2 ≤ N2
 far3 : N2 < N3
 below : Below w.heap.size w wr
theorem get_walk (A : Option Addr) (n c : Nat) (b : List Int) (w : World) (hs : Spans w) (hq : Sq w w.heap.size 1 n A (b.map (Value.int .u8))) (hc : n ≤ c) (hn : n ≤ 1000000) (hb : ∀ y ∈ b, 0 ≤ y ∧ y ≤ 255) :
  Calls Tryz.prog 89 #[.slice A n c] w fun e w' => GetPost b w e w' := by
 obtain ⟨i0, hi, hz0, hz1, hz2⟩ := info_parts infoCell
 have LN := Lib.hid hq.size_ints
 have SP := Lib.hid hs
 have w1b : Below w.heap.size w ((w.alloc (.cells #[.slice none 0 0, .bool false] 24)).alloc (.cells #[.slice A n c, .bool false] 136)) := ((Below.refl _ _).alloc (Nat.le_refl _) _).alloc (by simp) _
 have s1 : SrcAt ((w.alloc (.cells #[.slice none 0 0, .bool false] 24)).alloc (.cells #[.slice A n c, .bool false] 136)) (w.heap.size + 1) A n c false := by
  have h := heap_alloc_new (w.alloc (.cells #[.slice none 0 0, .bool false] 24)) (.cells #[.slice A n c, .bool false] 136)
  rw [World.size_alloc] at h
  exact h
 have r1 : RowAt ((w.alloc (.cells #[.slice none 0 0, .bool false] 24)).alloc (.cells #[.slice A n c, .bool false] 136)) w.heap.size (.slice none 0 0) false := (Below.heap_alloc _ _ w.heap.size (by simp)).trans (heap_alloc_new w _)
 have z1 : ((w.alloc (.cells #[.slice none 0 0, .bool false] 24)).alloc (.cells #[.slice A n c, .bool false] 136)).heap.size = w.heap.size + 2 := by simp
 have NW := Lib.hid (number_walk 601 (w.heap.size + 1) w.heap.size A n c false b _ s1 (hq.below w1b) (by omega) hc hn hb (by omega))
 have W1 := Lib.hid w1b
 have R1 := Lib.hid r1
 have Z1 := Lib.hid z1
 have HB := Lib.hid hb
 clear hs hq hb w1b s1 r1 z1
 go_enter Tryz.func89, Tryz.ntmps89
 go_wp2_with fail
 refine NW.out.mono ?_
 rintro e w2 ⟨A2, n2, c2, br2, hd, m2, rfl, s2, q2, hc2, hn2, hb2, g2, z2, hx2, d2⟩
 have D2 := Lib.hid d2
 have S2 := Lib.hid s2
 have Q2 := Lib.hid q2
 have HB2 := Lib.hid hb2
 have R2 := Lib.hid ((g2.block w.heap.size (by rw [Z1.out]; omega) (by simp)).trans R1.out)
 have Z2 := Lib.hid (z2.trans Z1.out)
 have B2 := Lib.hid (W1.out.trans ⟨g2.os, g2.tape, g2.output, g2.size, fun k hk => g2.block k (by rw [Z1.out]; omega) (by simp; omega)⟩)
 clear d2 s2 q2 hb2 g2 z2 NW W1 R1 Z1
 have GW := Lib.hid (grow_walk (hd / 2) w2 (by omega))
 have dv : (hd : Int) / 2 = ((hd / 2 : Nat) : Int) := by omega
 obtain ⟨hf, hhf⟩ : ∃ hf, hd / 2 = hf := ⟨_, rfl⟩
 rw [hhf] at dv GW
 have DV := Lib.hid dv
 have HF := Lib.hid hhf
 clear hhf
 go_wp2_with fail
 refine GW.out.mono ?_
 rintro e w3 ⟨v3, rfl, h3, b3⟩
 have dm : ((hd : Int) % 2 == 1) = (hd % 2 == 1) := by rw [Bool.eq_iff_iff]; simp; omega
 obtain ⟨wq, hwq⟩ : ∃ wq, (hd % 2 == 1) = wq := ⟨_, rfl⟩
 rw [hwq] at dm
 have WH := Lib.hid hwq
 have DM := Lib.hid dm
 have hz3 : w.heap.size + 2 ≤ w3.heap.size := by have := b3.size; rw [Z2.out] at this; exact this
 have b3' : Below (w.heap.size + 2) w2 w3 := by rw [← Z2.out]; exact b3
 have R3 := Lib.hid ((b3'.block w.heap.size (by omega)).trans R2.out)
 have S3 := Lib.hid ((b3'.block (w.heap.size + 1) (by omega)).trans S2.out)
 have Q3 := Lib.hid (Q2.out.below (b3'.mono (by omega : w.heap.size ≤ w.heap.size + 2)))
 have B3 := Lib.hid (B2.out.trans (b3'.mono (by omega)))
 have H3 := Lib.hid (show HasC w3 (w.heap.size + 2) v3 [] by rw [← Z2.out]; exact h3)
 have V3 := Lib.hid (fun k e => (World.ownsRow.lt h3 k e).2)
 obtain ⟨A3, c3, e3, _⟩ := HasC.shape h3
 obtain rfl : v3 = .slice A3 0 c3 := e3
 clear hwq h3 b3 b3'
 go_wp2_with fail
 have RN := Lib.hid (show RowAt (w3.alloc (.cells #[.slice A3 0 c3, .bool wq] 24)) w3.heap.size (.slice A3 0 c3) wq from heap_alloc_new w3 _)
 have GA : GetAt b m2 hd w3.heap.size w 0 (w3.alloc (.cells #[.slice A3 0 c3, .bool wq] 24)) A2 n2 c2 br2 m2 (.slice A3 0 c3) [] :=
  {le := Nat.zero_le _, zero := (Below.heap_alloc w3 _ _ (by omega)).trans R3.out, src := (Below.heap_alloc w3 _ _ (by omega)).trans S3.out, left := Q3.out.alloc (by omega) _, cap := hc2, few := hn2, oct := HB2.out,
   row := by rw [WH.out]; exact RN.out, own := World.ownsRow.alloc H3.out _, apart := (fun e => by have := (HasC.lt H3.out _ e).2; omega), far := hz3, len := Nat.zero_le _, small := (fun c hc => by cases hc), below := B3.out.alloc (by omega) _,
   short := (fun e => by
    rcases D2.out with ⟨h, _⟩ | ⟨_, _, h⟩
    ·have := (numL_some HB.out h).2
     rw [this, List.length_append]
     omega
    ·rw [e] at h; cases h),
   whole := fun _ => rfl }
 have GAH := Lib.hid GA
 obtain ⟨N2, hN2⟩ : ∃ N2, w3.heap.size = N2 := ⟨_, rfl⟩
 generalize w3.alloc (.cells #[.slice A3 0 c3, .bool wq] 24) = w4 at GAH ⊢
 rw [hN2] at GAH ⊢
 clear GA RN R3 S3 Q3 B3 H3 V3 hN2 hz3 R2 S2 Q2 HB2 B2 Z2 GW
 go_loopw [21] (fun i wx => ∃ (k : Nat) (A : Option Addr) (n c : Nat) (m : List Int) (v : Value) (l : List Cel), i = .int .i64 k ∧ GetAt b m2 hd N2 w k wx A n c br2 m v l) (fun i _ => hf - (intOf i).toNat)
 case atStart => exact ⟨0, A2, n2, c2, m2, _, [], rfl, GAH.out⟩
 case round =>
  obtain ⟨k, A4, n4, c4, m4, v, l, rfl, G⟩ := hrel
  have GH := Lib.hid G
  have hk : k ≤ hf := by rw [← HF.out]; exact G.le
  obtain ⟨Av, cv, rfl, _⟩ := HasC.shape G.own
  have hl3 := G.len
  obtain ⟨ln, hln⟩ : ∃ ln, l.length = ln := ⟨_, rfl⟩
  rw [hln] at G GH hl3
  have LL := Lib.hid hln
  have p0 : wr.cell? ⟨N2, 0, none⟩ = some (.slice Av ln cv) := G.row.get 0
  clear hln
  by_cases hlt : k < hf
  ·cases br2
   ·have hm := (show numL 601 b = some (hd, m2) by rcases D2.out with ⟨h, _⟩ | ⟨_, _, h⟩; exact h; cases h)
    have hw := G.whole rfl
    obtain ⟨q, hq⟩ : ∃ q, hd / 2 - (k + 1) = q := ⟨_, rfl⟩
    rw [show hd / 2 - k = q + 1 by have := HF.out; omega] at hw
    obtain ⟨room, hroom⟩ : ∃ room, 300 - ln = room := ⟨_, rfl⟩
    have GR := Lib.hid (show getR mayL b = ((runL room m4).bind fun x => if l.getLast? = some x.1.2 then none else runsL q (l ++ List.replicate x.1.1 x.1.2) x.2).bind fun x => if mayL x.1 then some (hd % 2 == 1, x.1, b.length - x.2.length) else none by
     rw [getR_runs hm, hw, ← hroom, ← LL.out]
     rfl)
    have WN := Lib.hid (show runsL (hd / 2) [] m2 = (runL room m4).bind fun x => if l.getLast? = some x.1.2 then none else runsL q (l ++ List.replicate x.1.1 x.1.2) x.2 by
     rw [hw, ← hroom, ← LL.out]
     rfl)
    have QH := Lib.hid hq
    have SH := Lib.hid (G.short rfl)
    have er : (300 : Int) - (ln : Int) = (room : Int) := by omega
    have RL3 : room + ln = 300 := by omega
    have RW := Lib.hid (run_walk room (w.heap.size + 1) w.heap.size A4 n4 c4 false m4 wr G.src G.left (by omega) G.cap G.few G.oct (by omega))
    have RR : RowAt wr N2 (.slice Av ln cv) wq := by rw [← WH.out]; exact G.row
    have RRH := Lib.hid RR
    have hN2 := RR.lt
    have hfar := G.far
    have hsz := G.below.size
    have OWN := Lib.hid (fun j e => (HasC.lt G.own j e))
    clear G hm hw hq hroom RR
    go_wp2_with fail
    refine RW.out.mono ?_
    rintro e w5 ⟨A5, n5, c5, br5, ⟨cnt, r, mm, a⟩, m5, rfl, s5, q5, hc5, hn5, hb5, g5, d5⟩
    have D5 := Lib.hid d5
    have HB5 := Lib.hid hb5
    have Q5 := Lib.hid q5
    have S5 := Lib.hid s5
    have Z5 := Lib.hid (show RowAt w5 w.heap.size (.slice none 0 0) false from (g5.block w.heap.size (by omega) (by simp)).trans GH.out.zero)
    have R5 := Lib.hid (show RowAt w5 N2 (.slice Av ln cv) wq from (g5.block N2 hN2 (by simp; omega)).trans RRH.out)
    have O5 := Lib.hid (GH.out.own.keep (w' := w5) (fun j e => g5.block j (OWN.out j e).2 (by have := (OWN.out j e).1; simp; omega)))
    have B5 := Lib.hid (GH.out.below.trans ⟨g5.os, g5.tape, g5.output, g5.size, fun k hk => g5.block k (by omega) (by simp; omega)⟩)
    have hsz5 : wr.heap.size ≤ w5.heap.size := g5.size
    have p5 : w5.cell? ⟨N2, 0, none⟩ = some (.slice Av ln cv) := R5.out.get 0
    have s51 : w5.cell? ⟨w.heap.size + 1, 1, none⟩ = some (.bool br5) := s5.get 1
    clear d5 hb5 q5 s5 g5 p0
    clear er
    have N6 := Lib.hid (show RunAt (w5.alloc (.cells #[.int .i64 cnt, .int .i32 r, .int .i64 mm, .int .i64 a] 134)) w5.heap.size (cnt, r, mm, a) from heap_alloc_new w5 _)
    have BA := Lib.hid (Below.heap_alloc w5 (.cells #[.int .i64 cnt, .int .i32 r, .int .i64 mm, .int .i64 a] 134))
    have BB := Lib.hid ((Below.refl w5.heap.size w5).alloc (Nat.le_refl _) (.cells #[.int .i64 cnt, .int .i32 r, .int .i64 mm, .int .i64 a] 134))
    have BS := Lib.hid (show (w5.alloc (.cells #[.int .i64 cnt, .int .i32 r, .int .i64 mm, .int .i64 a] 134)).heap.size = w5.heap.size + 1 by simp)
    have Z6 := Lib.hid (show RowAt (w5.alloc (.cells #[.int .i64 cnt, .int .i32 r, .int .i64 mm, .int .i64 a] 134)) w.heap.size (.slice none 0 0) false from (BA.out _ (by omega)).trans Z5.out)
    have R6 := Lib.hid (show RowAt (w5.alloc (.cells #[.int .i64 cnt, .int .i32 r, .int .i64 mm, .int .i64 a] 134)) N2 (.slice Av ln cv) wq from (BA.out _ (by omega)).trans R5.out)
    have S6 := Lib.hid (show SrcAt (w5.alloc (.cells #[.int .i64 cnt, .int .i32 r, .int .i64 mm, .int .i64 a] 134)) (w.heap.size + 1) A5 n5 c5 br5 from (BA.out _ (by omega)).trans S5.out)
    have O6 := Lib.hid (World.ownsRow.alloc O5.out (.cells #[.int .i64 cnt, .int .i32 r, .int .i64 mm, .int .i64 a] 134))
    have B6 := Lib.hid (B5.out.alloc (by omega) (.cells #[.int .i64 cnt, .int .i32 r, .int .i64 mm, .int .i64 a] 134))
    have Q6 := Lib.hid (Q5.out.alloc (by omega) (.cells #[.int .i64 cnt, .int .i32 r, .int .i64 mm, .int .i64 a] 134))
    have fw := follows_walk Av ln cv l r mm a _ (HasC.sq (O6.out : HasC _ _ _ _)) (by omega)
    obtain ⟨LB, hLB⟩ : ∃ LB, lastB l (r, mm, a) = LB := ⟨_, rfl⟩
    rw [hLB] at fw
    have FW := Lib.hid fw
    have LBH := Lib.hid hLB
    have hs5 : w.heap.size + 1 < w5.heap.size := by omega
    have hs52 : N2 < w5.heap.size := by omega
    have hs50 : w.heap.size < w5.heap.size := by omega
    clear fw hLB
    cases br5
    ·have RS := Lib.hid (show runL room m4 = some ((cnt, r, mm, a), m5) by rcases D5.out with ⟨h, _⟩ | ⟨_, h⟩; exact h; cases h)
     go_wp2_with fail
     refine FW.out.mono ?_
     rintro e w7 ⟨rfl, b7⟩
     have hs57 : w5.heap.size < w7.heap.size := by have := b7.size; rw [BS.out] at this; omega
     have b7' : Below (w5.heap.size + 1) (w5.alloc (.cells #[.int .i64 cnt, .int .i32 r, .int .i64 mm, .int .i64 a] 134)) w7 := by rw [← BS.out]; exact b7
     have Z7 := Lib.hid (show RowAt w7 w.heap.size (.slice none 0 0) false from (b7'.block _ (by omega)).trans Z6.out)
     have R7 := Lib.hid (show RowAt w7 N2 (.slice Av ln cv) wq from (b7'.block _ (by omega)).trans R6.out)
     have S7 := Lib.hid (show SrcAt w7 (w.heap.size + 1) A5 n5 c5 false from (b7'.block _ (by omega)).trans S6.out)
     have N7 := Lib.hid (show RunAt w7 w5.heap.size (cnt, r, mm, a) from (b7'.block _ (by omega)).trans N6.out)
     have O7 := Lib.hid (HasC.keep (w' := w7) (O6.out : HasC _ _ _ _) (fun j e => b7'.block j (by have := (HasC.lt (O5.out : HasC _ _ _ _) j e).2; omega)))
     have Q7 := Lib.hid (Q6.out.below (b7'.mono (by omega : w.heap.size ≤ w5.heap.size + 1)))
     have B7 := Lib.hid (B6.out.trans (b7'.mono (by omega)))
     clear b7 b7' FW N6 BA BB BS Z6 R6 S6 O6 B6 Q6
     cases LB
     ·have hnl : ¬ (l.getLast? = some ((r, mm, a) : Cel)) := by have := LBH.out; unfold lastB at this; simpa using this
      have WN2 := Lib.hid (show runsL (hd / 2) [] m2 = runsL q (l ++ List.replicate cnt ((r, mm, a) : Cel)) m5 by
       rw [WN.out, RS.out]
       simp only [Option.bind_some]
       rw [if_neg hnl])
      have RSM := runL_some GH.out.oct RS.out
      have hcr : cnt ≤ 300 := by have := RSM.2.1; simp only at this; omega
      have CR := Lib.hid (show cnt ≤ room from RSM.2.1)
      have SMX := Lib.hid RSM.2.2.1
      have ML := Lib.hid (show m5.length ≤ b.length by have h1 := SH.out; rw [RSM.2.2.2, List.length_append] at h1; omega)
      have k0 : w7.cell? ⟨w5.heap.size, 0, none⟩ = some (.int .i64 cnt) := N7.out.get 0
      obtain ⟨N3, hN3⟩ : ∃ N3, w5.heap.size = N3 := ⟨_, rfl⟩
      rw [hN3] at hs5 hs52 hs57 N7 k0 ⊢
      have PA : PutAt N2 N3 w 0 w7 A5 n5 c5 m5 (cnt, r, mm, a) wq (.slice Av ln cv) l :=
       {le := Nat.zero_le _, zero := Z7.out, src := S7.out, left := Q7.out, row := R7.out, next := N7.out, own := by rw [List.replicate_zero, List.append_nil]; exact O7.out, apart := GH.out.apart, apart3 := (fun e => by have := (OWN.out _ e).2; omega), far := hfar, far3 := hs52, below := B7.out }
      have PAH := Lib.hid PA
      clear hnl RSM PA hN3 p5 s51
      go_wp2_with fail
      clear k0
      go_loopw [40] (fun i wx => ∃ (j : Nat) (v : Value), i = .int .i64 j ∧ PutAt N2 N3 w j wx A5 n5 c5 m5 (cnt, r, mm, a) wq v l) (fun i _ => cnt - (intOf i).toNat)
      case atStart => exact ⟨0, _, rfl, PAH.out⟩
      case round =>
       obtain ⟨j, v, rfl, P⟩ := hrel
       have PH := Lib.hid P
       have hj : j ≤ cnt := P.le
       obtain ⟨Aw, cw, rfl, _⟩ := HasC.shape P.own
       obtain ⟨lj, hlj⟩ : ∃ lj, (l ++ List.replicate j ((r, mm, a) : Cel)).length = lj := ⟨_, rfl⟩
       rw [hlj] at P PH
       have hlj6 : lj ≤ 1000 := by rw [← hlj, List.length_append, List.length_replicate, LL.out]; omega
       have LJ := Lib.hid hlj
       clear hlj
       by_cases hjt : j < cnt
       ·have y0 : wr.cell? ⟨N2, 0, none⟩ = some (.slice Aw lj cw) := P.row.get 0
        have x1 : wr.cell? ⟨N3, 1, none⟩ = some (.int .i32 r) := P.next.get 1
        have x2 : wr.cell? ⟨N3, 2, none⟩ = some (.int .i64 mm) := P.next.get 2
        have x3 : wr.cell? ⟨N3, 3, none⟩ = some (.int .i64 a) := P.next.get 3
        have hr2 := P.row.lt
        have hr3 : N3 < wr.heap.size := (Array.getElem?_eq_some_iff.1 P.next).1
        have hf2 := P.far
        have hf3 := P.far3
        have hsw := P.below.size
        have OWH := Lib.hid (show wr.ownsRow (w.heap.size + 2) 33 3 (.slice Aw lj cw) (l ++ List.replicate j ((r, mm, a) : Cel)).length (flat (l ++ List.replicate j ((r, mm, a) : Cel))) from P.own)
        clear P
        go_wp2_with (
         at_builtin
         refine wpList_append_own_at _ rfl _ _ 22 rfl (w.heap.size + 2) 33 i0 (.agg #[.int .i32 0, .int .i64 0, .int .i64 0]) 3 24 Tryz.underlying22 hi hz0 hz1 hz2 rfl (by decide) (.slice Aw lj cw) (l ++ List.replicate j ((r, mm, a) : Cel)).length _ rfl (OWH.out.alloc _) ⟨wr.heap.size, 0, none⟩ 1 1 [.int .i32 r, .int .i64 mm, .int .i64 a] rfl rfl (cel_new_at rfl _ _ _ _) (cel_cells _ _ _) (fitc1 (by rw [LJ.out]; omega)) (fitc2 (by rw [LJ.out]; omega)) (by simp; omega) ?_
         intro v' w9 hown hgrow _ hat
         have AP := Lib.hid (fun (e : some N2 = (Value.slice Aw lj cw).ownBlock) => PH.out.apart e.symm)
         have AP3 := Lib.hid (fun (e : some N3 = (Value.slice Aw lj cw).ownBlock) => PH.out.apart3 e.symm)
         have ZL := Lib.hid (show some w.heap.size ≠ (Value.slice Aw lj cw).ownBlock from fun e => by have := (HasC.lt PH.out.own _ e.symm).1; omega)
         have SL := Lib.hid (show some (w.heap.size + 1) ≠ (Value.slice Aw lj cw).ownBlock from fun e => by have := (HasC.lt PH.out.own _ e.symm).1; omega)
         have HA := Lib.hid (fun (k : Nat) (hk : k < wr.heap.size) (hne : some k ≠ (Value.slice Aw lj cw).ownBlock) => (hgrow.block k (by simp; omega) hne).trans (Below.heap_alloc wr _ k hk))
         have AT := Lib.hid hat
         have O9 := Lib.hid (hasC_snoc hown)
         have B9 := Lib.hid ((PH.out.below.alloc hsw _).grown hgrow (by simp; omega) (fun k e => by have := (HasC.lt PH.out.own k e).1; omega))
         have Q9 := Lib.hid (PH.out.left.carry (w' := w9) (fun p hp => World.cell?_of_block (HA.out p.block (by omega) (fun e => by have := (HasC.lt PH.out.own _ e.symm).1; omega))))
         have Z9 := Lib.hid (show RowAt w9 w.heap.size (.slice none 0 0) false from (HA.out _ (by omega) ZL.out).trans PH.out.zero)
         have S9 := Lib.hid (show SrcAt w9 (w.heap.size + 1) A5 n5 c5 false from (HA.out _ (by omega) SL.out).trans PH.out.src)
         have R9 := Lib.hid (show RowAt w9 N2 (.slice Aw lj cw) wq from (HA.out _ hr2 AP.out).trans PH.out.row)
         have X9 := Lib.hid (show RunAt w9 N3 (cnt, r, mm, a) from (HA.out _ hr3 AP3.out).trans PH.out.next)
         obtain ⟨g, cap, hv'⟩ := ownsRow_succ hown
         obtain ⟨lz, hlz⟩ : ∃ z, (l ++ List.replicate j ((r, mm, a) : Cel)).length + 1 = z := ⟨_, rfl⟩
         rw [hlz] at hv'
         have y1 : w9.cell? ⟨N2, 0, none⟩ = some (.slice Aw lj cw) := R9.out.get 0
         have yf := R9.out.free 0
         have NE : g ≠ N2 := (fun e => by
          rcases AT.out with h | h
          ·rw [hv'] at h; exact AP.out (by rw [← e]; exact h)
          ·rw [hv'] at h; simp [Value.ownBlock] at h; omega)
         have NE3 : g ≠ N3 := (fun e => by
          rcases AT.out with h | h
          ·rw [hv'] at h; exact AP3.out (by rw [← e]; exact h)
          ·rw [hv'] at h; simp [Value.ownBlock] at h; omega)
         have NEH := Lib.hid NE
         have NEH3 := Lib.hid NE3
         subst hv'
         clear hown hgrow hat NE NE3 y0 x1 x2 x3 hlz)
        have PN : PutAt N2 N3 w (j + 1) (w9.setCell ⟨N2, 0, none⟩ (.slice (some ⟨g, 0, none⟩) lz cap)) A5 n5 c5 m5 (cnt, r, mm, a) wq (.slice (some ⟨g, 0, none⟩) lz cap) l :=
         {le := hjt, zero := (Below.heap_setCell _ _ _ _ (by show w.heap.size ≠ N2; omega)).trans Z9.out, src := (Below.heap_setCell _ _ _ _ (by show w.heap.size + 1 ≠ N2; omega)).trans S9.out, left := Q9.out.setCell (by show w.heap.size ≤ N2; omega) _, row := R9.out.put _,
          next := (Below.heap_setCell _ _ _ _ (by show N3 ≠ N2; omega)).trans X9.out,
          own := HasC.keep (by simp only; rw [List.replicate_succ', ← List.append_assoc]; exact O9.out) (fun k e => Below.heap_setCell _ _ _ _ (by simp [Value.ownBlock] at e; have := NEH.out; show k ≠ N2; omega)),
          apart := (fun e => by simp [Value.ownBlock] at e; exact NEH.out e), apart3 := (fun e => by simp [Value.ownBlock] at e; exact NEH3.out e), far := hf2, far3 := hf3, below := B9.out.setCell (by show w.heap.size ≤ N2; omega) _ }
        have PNH := Lib.hid PN
        clear PN y1 yf
        go_roundw
        case rel => exact ⟨j + 1, _, by go_num, PNH.out⟩
        case measure => simp [intOf]; omega
       ·have hj' : j = cnt := by omega
        subst hj'
        have GN : GetAt b m2 hd N2 w (k + 1) wr A5 n5 c5 false m5 (.slice Aw lj cw) (l ++ List.replicate j ((r, mm, a) : Cel)) :=
         {le := by have := HF.out; omega, zero := P.zero, src := P.src, left := P.left, cap := hc5, few := hn5, oct := HB5.out, row := by rw [WH.out]; exact P.row, own := P.own, apart := P.apart, far := P.far,
          len := by rw [LJ.out]; have h1 := CR.out; have h2 := LJ.out; rw [List.length_append, List.length_replicate, LL.out] at h2; omega,
          small := (fun x hx => by
           rcases List.mem_append.1 hx with h | h
           ·exact GH.out.small x h
           ·rw [(List.mem_replicate.1 h).2]; exact SMX.out),
          below := P.below, short := fun _ => ML.out, whole := fun _ => by rw [QH.out]; exact WN2.out }
        have GNH := Lib.hid GN
        clear P GN
        go_wp2
        go_roundw
        case rel => exact ⟨k + 1, A5, n5, c5, m5, _, _, by go_num, GNH.out⟩
        case measure => simp [intOf]; omega
     ·have hyl : l.getLast? = some ((r, mm, a) : Cel) := by have := LBH.out; unfold lastB at this; simpa using this
      have NONE := Lib.hid (show getR mayL b = none by
       rw [GR.out, RS.out]
       simp only [Option.bind_some]
       rw [if_pos hyl]
       rfl)
      clear hyl
      have z0 : w7.cell? ⟨w.heap.size, 0, none⟩ = some (.slice none 0 0) := RowAt.get Z7.out 0
      have z1 : w7.cell? ⟨w.heap.size, 1, none⟩ = some (.bool false) := RowAt.get Z7.out 1
      have zf0 := RowAt.free Z7.out 0
      have zg0 := RowAt.free Z7.out 0
      have zg1 := RowAt.free Z7.out 1
      have zf1 := RowAt.free Z7.out 1
      go_wp2
      have RF := RowAt.put2 Z7.out (.slice none 0 0) false
      have BF := (B7.out.setCell (p := ⟨w.heap.size, 0, none⟩) (Nat.le_refl _) (.slice none 0 0)).setCell (p := ⟨w.heap.size, 1, none⟩) (Nat.le_refl _) (.bool false)
      generalize (w7.setCell ⟨w.heap.size, 0, none⟩ (.slice none 0 0)).setCell ⟨w.heap.size, 1, none⟩ (.bool false) = wz at RF BF ⊢
      have e0 := RF.get 0
      have e1 := RF.get 1
      exact bodyPost_ret (v := .tuple #[.agg #[.slice none 0 0, .bool false], .int .i64 0, .int .i64 1]) (by simp [results, Tryz.results89, go_sem, e0, e1]) rfl ⟨.slice none 0 0, by rw [gotR_none NONE.out]; rfl, by rw [gotR_none NONE.out]; exact HasC.nothing _ _, BF⟩
    ·have NONE := Lib.hid (show getR mayL b = none by
      rw [GR.out, show runL room m4 = none by rcases D5.out with ⟨_, h⟩ | ⟨h, _⟩; cases h; exact h]
      rfl)
     have z0 : w5.cell? ⟨w.heap.size, 0, none⟩ = some (.slice none 0 0) := RowAt.get Z5.out 0
     have z1 : w5.cell? ⟨w.heap.size, 1, none⟩ = some (.bool false) := RowAt.get Z5.out 1
     have zf0 := RowAt.free Z5.out 0
     have zg0 := RowAt.free Z6.out 0
     have zg1 := RowAt.free Z6.out 1
     have zf1 := RowAt.free Z5.out 1
     go_wp2
     have RF : RowAt (((w5.setCell ⟨w.heap.size, 0, none⟩ (.slice none 0 0)).setCell ⟨w.heap.size, 1, none⟩ (.bool false)).alloc (.cells #[.int .i64 cnt, .int .i32 r, .int .i64 mm, .int .i64 a] 134)) w.heap.size (.slice none 0 0) false := (Below.heap_alloc _ _ w.heap.size (by simp; omega)).trans (RowAt.put2 Z5.out (.slice none 0 0) false)
     have BF := ((B5.out.setCell (p := ⟨w.heap.size, 0, none⟩) (Nat.le_refl _) (.slice none 0 0)).setCell (p := ⟨w.heap.size, 1, none⟩) (Nat.le_refl _) (.bool false)).alloc (by simp; omega) (.cells #[.int .i64 cnt, .int .i32 r, .int .i64 mm, .int .i64 a] 134)
     generalize ((w5.setCell ⟨w.heap.size, 0, none⟩ (.slice none 0 0)).setCell ⟨w.heap.size, 1, none⟩ (.bool false)).alloc (.cells #[.int .i64 cnt, .int .i32 r, .int .i64 mm, .int .i64 a] 134) = wz at RF BF ⊢
     have e0 := RF.get 0
     have e1 := RF.get 1
     exact bodyPost_ret (v := .tuple #[.agg #[.slice none 0 0, .bool false], .int .i64 0, .int .i64 1]) (by simp [results, Tryz.results89, go_sem, e0, e1]) rfl ⟨.slice none 0 0, by rw [gotR_none NONE.out]; rfl, by rw [gotR_none NONE.out]; exact HasC.nothing _ _, BF⟩
   ·exfalso
    have : hd = 0 := by rcases D2.out with ⟨_, h⟩ | ⟨_, h, _⟩; cases h; exact h
    have := HF.out
    omega
  ·have hk' : k = hf := by omega
   cases br2
   ·have hm := (show numL 601 b = some (hd, m2) by rcases D2.out with ⟨h, _⟩ | ⟨_, _, h⟩; exact h; cases h)
    have hw := G.whole rfl
    rw [show hd / 2 - k = 0 by have := HF.out; omega] at hw
    have GR := Lib.hid (show getR mayL b = if mayL l then some (wq, l, b.length - m4.length) else none by rw [getR_runs hm, hw, WH.out]; rfl)
    have SH := Lib.hid (G.short rfl)
    have MW := Lib.hid (packMay_walk Av ln cv wq l wr (SP.out.below G.below SP.out.size) (fun x hx => by have h := (G.small x hx).1; omega) (HasC.sq G.own) (by omega))
    obtain ⟨B, hB⟩ : ∃ B, mayL l = B := ⟨_, rfl⟩
    rw [hB] at MW GR
    have RR : RowAt wr N2 (.slice Av ln cv) wq := by rw [← WH.out]; exact G.row
    have RRH := Lib.hid RR
    have p1 : wr.cell? ⟨N2, 1, none⟩ = some (.bool wq) := RR.get 1
    have s1 : wr.cell? ⟨w.heap.size + 1, 1, none⟩ = some (.bool false) := G.src.get 1
    have hsz := G.below.size
    have hN2 := RR.lt
    have hs1 := G.src.lt
    clear G hk' hm hw hB RR
    go_wp2_with fail
    refine MW.out.mono ?_
    rintro e w5 ⟨rfl, b5⟩
    have Z5 := Lib.hid (show RowAt w5 w.heap.size (.slice none 0 0) false from (b5.block w.heap.size (by omega)).trans GH.out.zero)
    have R5 := Lib.hid (show RowAt w5 N2 (.slice Av ln cv) wq from (b5.block N2 hN2).trans RRH.out)
    have S5 := Lib.hid (show SrcAt w5 (w.heap.size + 1) A4 n4 c4 false from (b5.block (w.heap.size + 1) hs1).trans GH.out.src)
    have B5 := Lib.hid (GH.out.below.trans (b5.mono hsz))
    have O5 := Lib.hid (GH.out.own.keep (w' := w5) (fun j e => b5.block j (HasC.lt GH.out.own j e).2))
    clear b5 p0 p1 s1
    cases B
    ·have NONE := Lib.hid (show getR mayL b = none from GR.out)
     have z0 : w5.cell? ⟨w.heap.size, 0, none⟩ = some (.slice none 0 0) := RowAt.get Z5.out 0
     have z1 : w5.cell? ⟨w.heap.size, 1, none⟩ = some (.bool false) := RowAt.get Z5.out 1
     have zf0 := RowAt.free Z5.out 0
     have zf1 := RowAt.free Z5.out 1
     go_wp2
     have RF := RowAt.put2 Z5.out (.slice none 0 0) false
     have BF := (B5.out.setCell (p := ⟨w.heap.size, 0, none⟩) (Nat.le_refl _) (.slice none 0 0)).setCell (p := ⟨w.heap.size, 1, none⟩) (Nat.le_refl _) (.bool false)
     generalize (w5.setCell ⟨w.heap.size, 0, none⟩ (.slice none 0 0)).setCell ⟨w.heap.size, 1, none⟩ (.bool false) = wz at RF BF ⊢
     have e0 := RF.get 0
     have e1 := RF.get 1
     exact bodyPost_ret (v := .tuple #[.agg #[.slice none 0 0, .bool false], .int .i64 0, .int .i64 1]) (by simp [results, Tryz.results89, go_sem, e0, e1]) rfl ⟨.slice none 0 0, by rw [gotR_none NONE.out]; rfl, by rw [gotR_none NONE.out]; exact HasC.nothing _ _, BF⟩
    ·have SOME := Lib.hid (show getR mayL b = some (wq, l, b.length - m4.length) from GR.out)
     have hml : m4.length = n4 := by have := GH.out.left.size_ints; exact this
     have LM := Lib.hid hml
     have hn4 : n4 ≤ n := by have := SH.out; have := LN.out; omega
     clear hml
     have z0 : w5.cell? ⟨w.heap.size, 0, none⟩ = some (.slice none 0 0) := Z5.out.get 0
     have z1 : w5.cell? ⟨w.heap.size, 1, none⟩ = some (.bool false) := Z5.out.get 1
     have zf0 := Z5.out.free 0
     have zf1 := Z5.out.free 1
     have r0 : w5.cell? ⟨N2, 0, none⟩ = some (.slice Av ln cv) := R5.out.get 0
     have r1 : w5.cell? ⟨N2, 1, none⟩ = some (.bool wq) := R5.out.get 1
     have s0 : w5.cell? ⟨w.heap.size + 1, 0, none⟩ = some (.slice A4 n4 c4) := S5.out.get 0
     have EN := Lib.hid (show ((b.length - m4.length : Nat) : Int) = (n : Int) - (n4 : Int) by rw [LN.out, LM.out]; omega)
     have RF := Lib.hid (RowAt.put2 Z5.out (.slice Av ln cv) wq)
     have BF := Lib.hid ((B5.out.setCell (p := ⟨w.heap.size, 0, none⟩) (Nat.le_refl _) (.slice Av ln cv)).setCell (p := ⟨w.heap.size, 1, none⟩) (Nat.le_refl _) (.bool wq))
     have OF := Lib.hid (HasC.keep (w' := (w5.setCell ⟨w.heap.size, 0, none⟩ (.slice Av ln cv)).setCell ⟨w.heap.size, 1, none⟩ (.bool wq)) O5.out (fun j e => by
      have h := (HasC.lt O5.out j e).1
      rw [Below.heap_setCell _ _ _ _ (by show j ≠ w.heap.size; omega), Below.heap_setCell _ _ _ _ (by show j ≠ w.heap.size; omega)]))
     go_wp2_with fail
     go_region
     all_goals go_wp2
     all_goals
      generalize (w5.setCell ⟨w.heap.size, 0, none⟩ (.slice Av ln cv)).setCell ⟨w.heap.size, 1, none⟩ (.bool wq) = wz at RF BF OF ⊢
      have e0 := RF.out.get 0
      have e1 := RF.out.get 1
      exact bodyPost_ret (v := .tuple #[.agg #[.slice Av ln cv, .bool wq], .int .i64 ((n : Int) - (n4 : Int)), .int .i64 0]) (by simp [results, Tryz.results89, go_sem, e0, e1]) rfl ⟨.slice Av ln cv, by rw [gotR_some SOME.out]; simp only; rw [EN.out]; rfl, by rw [gotR_some SOME.out]; exact HasC.mono OF.out (by omega), BF.out.drew⟩
   ·have NONE := Lib.hid (getR_num (show numL 601 b = none by rcases D2.out with ⟨_, h⟩ | ⟨h, _⟩; cases h; exact h))
    have s1 : wr.cell? ⟨w.heap.size + 1, 1, none⟩ = some (.bool true) := G.src.get 1
    clear G hk'
    have z0 : wr.cell? ⟨w.heap.size, 0, none⟩ = some (.slice none 0 0) := RowAt.get GH.out.zero 0
    have z1 : wr.cell? ⟨w.heap.size, 1, none⟩ = some (.bool false) := RowAt.get GH.out.zero 1
    have zf0 := RowAt.free GH.out.zero 0
    have zf1 := RowAt.free GH.out.zero 1
    go_wp2
    have RF := RowAt.put2 GH.out.zero (.slice none 0 0) false
    have BF := (GH.out.below.setCell (p := ⟨w.heap.size, 0, none⟩) (Nat.le_refl _) (.slice none 0 0)).setCell (p := ⟨w.heap.size, 1, none⟩) (Nat.le_refl _) (.bool false)
    generalize (wr.setCell ⟨w.heap.size, 0, none⟩ (.slice none 0 0)).setCell ⟨w.heap.size, 1, none⟩ (.bool false) = wz at RF BF ⊢
    have e0 := RF.get 0
    have e1 := RF.get 1
    exact bodyPost_ret (v := .tuple #[.agg #[.slice none 0 0, .bool false], .int .i64 0, .int .i64 1]) (by simp [results, Tryz.results89, go_sem, e0, e1]) rfl ⟨.slice none 0 0, by rw [gotR_none NONE.out]; rfl, by rw [gotR_none NONE.out]; exact HasC.nothing _ _, BF⟩
