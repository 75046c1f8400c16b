/-
  pack's source of numbers: number, run.
  pack's source of numbers: run, the next run.
-/
import Derived.Test.YtalhlgiklochdaaDoorPut
import Derived.Test.YtalhlgiklochdaaDoorUint
namespace Go.Proofs.YtalhlgiklochdaaDoor
open Go.ChangeShapes Go.WideShapes Go.ChangeAt Go.RowKit

/-- A source: what is left, whether it is broken. -/
def SrcAt (w : World) (g : Nat) (A : Option Addr) (n c : Nat) (br : Bool) : Prop := w.heap[g]? = some (.cells #[.slice A n c, .bool br] 82 (0, 0))
theorem SrcAt.get {w : World} {g : Nat} {A : Option Addr} {n c : Nat} {br : Bool} (h : SrcAt w g A n c br) (j : Nat) : w.cell? ⟨g, j, none⟩ = #[Value.slice A n c, .bool br][j]? := cell_of_row w g j _ _ (0, 0) h
theorem SrcAt.free {w : World} {g : Nat} {A : Option Addr} {n c : Nat} {br : Bool} (h : SrcAt w g A n c br) (j : Nat) : w.frozen? ⟨g, j, none⟩ = false := by unfold SrcAt at h; simp [World.frozen?, h]
theorem SrcAt.lt {w : World} {g : Nat} {A : Option Addr} {n c : Nat} {br : Bool} (h : SrcAt w g A n c br) : g < w.heap.size := (Array.getElem?_eq_some_iff.1 h).1
theorem SrcAt.left {w : World} {g : Nat} {A : Option Addr} {n c : Nat} {br : Bool} (h : SrcAt w g A n c br) (A' : Option Addr) (n' c' : Nat) : SrcAt (w.setCell ⟨g, 0, none⟩ (.slice A' n' c')) g A' n' c' br := heap_setCell_same w g 0 _ _ _ h
theorem SrcAt.break {w : World} {g : Nat} {A : Option Addr} {n c : Nat} {br : Bool} (h : SrcAt w g A n c br) : SrcAt (w.setCell ⟨g, 1, none⟩ (.bool true)) g A n c true := heap_setCell_same w g 1 _ _ _ h
theorem grown_set (w : World) (g j : Nat) (u : Value) : w.grownBy (w.setCell ⟨g, j, none⟩ u) (some g) :=
  ⟨rfl, rfl, rfl, by simp, fun k _ hk => heap_setCell_other w ⟨g, j, none⟩ k u (fun e => hk (by simp [e]))⟩
theorem grown_trans {a b c : World} {r : Option Nat} (h : a.grownBy b r) (k : b.grownBy c r) : a.grownBy c r :=
  ⟨k.os.trans h.os, k.tape.trans h.tape, k.output.trans h.output, Nat.le_trans h.size k.size, fun i hi hne => (k.block i (Nat.lt_of_lt_of_le hi h.size) hne).trans (h.block i hi hne)⟩
/-- What is left of bytes behind the first so many. -/
theorem Sq.drop {w : World} {B n : Nat} {b off : Nat} {l : List Int} (h : Sq w B 1 n (some ⟨b, off, none⟩) (l.map (Value.int .u8))) {k : Nat} (hk : k ≤ n) : Sq w B 1 (n - k) (some ⟨b, off + k, none⟩) ((l.drop k).map (Value.int .u8)) := by
  have hl := h.size_ints
  refine ⟨by simp; omega, fun h0 => ?_⟩
  obtain ⟨b', off', e, hb, hc⟩ := h.spot (by omega)
  injection e with e
  injection e with e1 e2
  subst e1 e2
  refine ⟨b, off + k, rfl, hb, fun j u hu => ?_⟩
  rw [Nat.add_assoc]
  refine hc (k + j) u ?_
  rw [List.map_drop, List.getElem?_drop] at hu
  exact hu

/-- What a number is, whether the source is broken then. -/
def NumR (most : Nat) (b : List Int) (br : Bool) (x : Nat) (m : List Int) (br' : Bool) : Prop := (numL most b = some (x, m) ∧ br' = br) ∨ (numL most b = none ∧ x = 0 ∧ br' = true)
def NumPost (most g B : Nat) (b : List Int) (br : Bool) (w : World) (e : Ending) (w' : World) : Prop :=
  ∃ (A : Option Addr) (n c : Nat) (br' : Bool) (x : Nat) (m : List Int), e = .returned (.int .i64 x) ∧ SrcAt w' g A n c br' ∧ Sq w' B 1 n A (m.map (Value.int .u8)) ∧ n ≤ c ∧ n ≤ 1000000 ∧ (∀ y ∈ m, 0 ≤ y ∧ y ≤ 255) ∧
    w.grownBy w' (some g) ∧ w'.heap.size = w.heap.size ∧ x ≤ most ∧ NumR most b br x m br'

set_option maxRecDepth 100000 in
set_option maxHeartbeats 3200000 in
theorem number_walk (most g B : Nat) (A : Option Addr) (n c : Nat) (br : Bool) (b : List Int) (w : World) (hs : SrcAt w g A n c br) (hq : Sq w B 1 n A (b.map (Value.int .u8))) (hBg : B ≤ g) (hc : n ≤ c) (hn : n ≤ 1000000) (hb : ∀ y ∈ b, 0 ≤ y ∧ y ≤ 255) (hm : most ≤ 2000000) :
    Calls Tryd.prog 58 #[.pointer (some ⟨g, 0, none⟩), .int .i64 most] w fun e w' => NumPost most g B b br w e w' := by
  have s0 : w.cell? ⟨g, 0, none⟩ = some (.slice A n c) := hs.get 0
  have s1 : w.cell? ⟨g, 1, none⟩ = some (.bool br) := hs.get 1
  have f0 := hs.free 0
  have f1 := hs.free 1
  have S := Lib.hid hs
  have Q := Lib.hid hq
  have HB := Lib.hid hb
  have LN := Lib.hid hq.size_ints
  obtain ⟨v, hv⟩ : ∃ v, (getL b).1 = v := ⟨_, rfl⟩
  obtain ⟨k, hk⟩ : ∃ k, (getL b).2 = k := ⟨_, rfl⟩
  have VH := Lib.hid hv
  have KH := Lib.hid hk
  have GU := getUint_walk A n c b w hq hb hn
  rw [hv, hk] at GU
  have GUH := Lib.hid GU
  clear hs hq hb hv hk GU
  by_cases hk0 : k = 0
  · have NL := Lib.hid (show numL most b = none by unfold numL; rw [if_pos (.inl (by rw [KH.out, hk0]))])
    subst hk0
    go_enter Tryd.func58, Tryd.ntmps58
    go_wp2_with fail
    refine GUH.out.mono ?_
    rintro e w' ⟨rfl, rfl⟩
    go_wp2
    go_ret
    exact ⟨A, n, c, true, 0, b, rfl, S.out.break, (Q.out.below ((Below.refl B w).setCell (p := ⟨g, 1, none⟩) hBg _)), hc, hn, HB.out, grown_set _ _ _ _, by simp, Nat.zero_le _, Or.inr ⟨NL.out, rfl, rfl⟩⟩
  · have hkb := getL_some HB.out (show getL b = (v, k) by rw [← VH.out, ← KH.out]) hk0
    have hkn : k ≤ n := by have := LN.out; omega
    have hv64 : v < 18446744073709551616 := hkb.1
    have d1 : ((k : Int) == 0) = false := by simp; omega
    obtain ⟨b0, off, rfl, _, _⟩ := Q.out.spot (show 0 < n by omega)
    clear hkb
    by_cases hvm : most < v
    · have NL := Lib.hid (show numL most b = none by unfold numL; rw [if_pos (.inr (by rw [VH.out]; exact hvm))])
      go_enter Tryd.func58, Tryd.ntmps58
      go_wp2_with fail
      refine GUH.out.mono ?_
      rintro e w' ⟨rfl, rfl⟩
      go_wp2
      go_ret
      exact ⟨_, n, c, true, 0, b, rfl, S.out.break, (Q.out.below ((Below.refl B w).setCell (p := ⟨g, 1, none⟩) hBg _)), hc, hn, HB.out, grown_set _ _ _ _, by simp, Nat.zero_le _, Or.inr ⟨NL.out, rfl, rfl⟩⟩
    · have NL := Lib.hid (show numL most b = some (v, b.drop k) by unfold numL; rw [if_neg (by rw [VH.out, KH.out]; omega), VH.out, KH.out])
      have DR := Lib.hid (fun (y : Int) (h : y ∈ b.drop k) => HB.out y (List.mem_of_mem_drop h))
      have hv0 : v ≤ 2000000 := by omega
      by_cases hkc : k = c
      · have hnk : n = k := by omega
        have DE := Lib.hid (show b.drop k = [] from List.drop_eq_nil_of_le (by have := LN.out; omega))
        subst hnk
        subst hkc
        go_enter Tryd.func58, Tryd.ntmps58
        go_wp2_with fail
        refine GUH.out.mono ?_
        rintro e w' ⟨rfl, rfl⟩
        go_wp2
        go_ret
        exact ⟨_, 0, 0, br, v, b.drop n, rfl, S.out.left _ _ _, by rw [DE.out]; exact Sq.nothing _ _ _ _, Nat.le_refl _, Nat.zero_le _, DR.out, grown_set _ _ _ _, by simp, by omega, Or.inl ⟨NL.out, rfl⟩⟩
      · have hkc' : k < c := by omega
        clear hkc
        go_enter Tryd.func58, Tryd.ntmps58
        go_wp2_with fail
        refine GUH.out.mono ?_
        rintro e w' ⟨rfl, rfl⟩
        go_wp2
        go_ret
        exact ⟨_, n - k, c - k, br, v, b.drop k, rfl, S.out.left _ _ _, ((Q.out.drop hkn).below ((Below.refl B w).setCell (p := ⟨g, 0, none⟩) hBg _)), by omega, by omega, DR.out, grown_set _ _ _ _, by simp, by omega, Or.inl ⟨NL.out, rfl⟩⟩
end Go.Proofs.YtalhlgiklochdaaDoor
namespace Go.Proofs.YtalhlgiklochdaaDoor
open Go.ChangeShapes Go.WideShapes Go.ChangeAt Go.RowKit

def zeroBreaks (x : Nat) (br : Bool) : Bool := if x = 0 then true else br
/-- What a run is, whether the source is broken then. -/
def RunR (room : Nat) (b : List Int) (br : Bool) (x : Nat × Cel) (m : List Int) (br' : Bool) : Prop := (runL room b = some (x, m) ∧ br' = br) ∨ (runL room b = none ∧ br' = true)
theorem run_glue {room : Nat} {b m1 m2 m3 m4 : List Int} {br br1 br2 br3 br4 br5 : Bool} {x1 x2 x3 x4 : Nat}
    (h1 : NumR room b br x1 m1 br1) (h2 : br2 = zeroBreaks x1 br1)
    (h3 : NumR 1114111 m1 br2 x2 m2 br3)
    (h4 : NumR 2 m2 br3 x3 m3 br4)
    (h5 : NumR 255 m3 br4 x4 m4 br5) :
    RunR room b br (x1, ((x2 : Int), (x3 : Int), (x4 : Int))) m4 br5 := by
  unfold RunR runL
  unfold NumR at h1 h3 h4 h5
  unfold zeroBreaks at h2
  rcases h1 with ⟨e1, rfl⟩ | ⟨e1, rfl, rfl⟩
  · rw [e1]
    simp only [Option.bind_some]
    by_cases h0 : x1 = 0
    · subst h0
      simp only [if_true] at h2 ⊢
      subst h2
      right
      refine ⟨trivial, ?_⟩
      rcases h5 with ⟨_, rfl⟩ | ⟨_, _, rfl⟩
      · rcases h4 with ⟨_, rfl⟩ | ⟨_, _, rfl⟩
        · rcases h3 with ⟨_, rfl⟩ | ⟨_, _, rfl⟩ <;> rfl
        · rfl
      · rfl
    · rw [if_neg h0] at h2 ⊢
      subst h2
      rcases h3 with ⟨e3, rfl⟩ | ⟨e3, _, rfl⟩
      · rw [e3]
        simp only [Option.bind_some]
        rcases h4 with ⟨e4, rfl⟩ | ⟨e4, _, rfl⟩
        · rw [e4]
          simp only [Option.bind_some]
          rcases h5 with ⟨e5, rfl⟩ | ⟨e5, _, rfl⟩
          · rw [e5]
            left
            exact ⟨rfl, rfl⟩
          · rw [e5]
            right
            exact ⟨rfl, rfl⟩
        · rw [e4]
          right
          refine ⟨rfl, ?_⟩
          rcases h5 with ⟨_, rfl⟩ | ⟨_, _, rfl⟩ <;> rfl
      · rw [e3]
        right
        refine ⟨rfl, ?_⟩
        rcases h5 with ⟨_, rfl⟩ | ⟨_, _, rfl⟩
        · rcases h4 with ⟨_, rfl⟩ | ⟨_, _, rfl⟩ <;> rfl
        · rfl
  · rw [e1]
    simp only [if_true] at h2
    subst h2
    right
    refine ⟨rfl, ?_⟩
    rcases h5 with ⟨_, rfl⟩ | ⟨_, _, rfl⟩
    · rcases h4 with ⟨_, rfl⟩ | ⟨_, _, rfl⟩
      · rcases h3 with ⟨_, rfl⟩ | ⟨_, _, rfl⟩ <;> rfl
      · rfl
    · rfl

abbrev runV (x : Nat × Cel) : Value := .agg #[.int .i64 x.1, .int .i32 x.2.1, .int .i64 x.2.2.1, .int .i64 x.2.2.2]
def RunPost (room g B : Nat) (b : List Int) (br : Bool) (w : World) (e : Ending) (w' : World) : Prop :=
  ∃ (A : Option Addr) (n c : Nat) (br' : Bool) (x : Nat × Cel) (m : List Int), e = .returned (runV x) ∧ SrcAt w' g A n c br' ∧ Sq w' B 1 n A (m.map (Value.int .u8)) ∧ n ≤ c ∧ n ≤ 1000000 ∧ (∀ y ∈ m, 0 ≤ y ∧ y ≤ 255) ∧
    w.grownBy w' (some g) ∧ RunR room b br x m br'

theorem runAt_put {w : World} {g : Nat} {x : Nat × Cel} (h : RunAt w g x) (n : Nat) (r m a : Int) : RunAt ((((w.setCell ⟨g, 0, none⟩ (.int .i64 n)).setCell ⟨g, 1, none⟩ (.int .i32 r)).setCell ⟨g, 2, none⟩ (.int .i64 m)).setCell ⟨g, 3, none⟩ (.int .i64 a)) g (n, r, m, a) := by
  have h0 := heap_setCell_same w g 0 _ _ (.int .i64 n) h
  have h1 := heap_setCell_same _ g 1 _ _ (.int .i32 r) h0
  have h2 := heap_setCell_same _ g 2 _ _ (.int .i64 m) h1
  have h3 := heap_setCell_same _ g 3 _ _ (.int .i64 a) h2
  exact h3
theorem grown_more {w w' : World} {r : Option Nat} (h : w.grownBy w' r) {p : Addr} (hp : w.heap.size ≤ p.block) (u : Value) : w.grownBy (w'.setCell p u) r :=
  ⟨h.os, h.tape, h.output, by simpa using h.size, fun k hk hne => (Below.heap_setCell w' p u k (by omega)).trans (h.block k hk hne)⟩
set_option maxRecDepth 100000 in
set_option maxHeartbeats 3200000 in
theorem run_walk (room g B : Nat) (A : Option Addr) (n c : Nat) (br : Bool) (b : List Int) (w : World) (hs : SrcAt w g A n c br) (hq : Sq w B 1 n A (b.map (Value.int .u8))) (hBg : B ≤ g) (hc : n ≤ c) (hn : n ≤ 1000000) (hb : ∀ y ∈ b, 0 ≤ y ∧ y ≤ 255) (hm : room ≤ 2000000) :
    Calls Tryd.prog 60 #[.pointer (some ⟨g, 0, none⟩), .int .i64 room] w fun e w' => RunPost room g B b br w e w' := by
  have hgl := hs.lt
  have hBl : B ≤ w.heap.size := by omega
  have r0 : (w.alloc (.cells #[.int .i64 0, .int .i32 0, .int .i64 0, .int .i64 0] 77)).heap[w.heap.size]? = some (.cells #[.int .i64 0, .int .i32 0, .int .i64 0, .int .i64 0] 77 (0, 0)) := heap_alloc_new w _
  have ga := World.grownBy_alloc w (.cells #[.int .i64 0, .int .i32 0, .int .i64 0, .int .i64 0] 77) (some g)
  have z0 : (w.alloc (.cells #[.int .i64 0, .int .i32 0, .int .i64 0, .int .i64 0] 77)).heap.size = w.heap.size + 1 := by simp
  have s1 : SrcAt (w.alloc (.cells #[.int .i64 0, .int .i32 0, .int .i64 0, .int .i64 0] 77)) g A n c br := (Below.heap_alloc w _ g hgl).trans hs
  have NW := Lib.hid (number_walk room g B A n c br b _ s1 (hq.alloc hBl _) hBg hc hn hb hm)
  have R0 := Lib.hid r0
  have GA := Lib.hid ga
  have Z0 := Lib.hid z0
  clear hs hq hb r0 ga z0 s1
  go_enter Tryd.func60, Tryd.ntmps60
  go_wp2_with fail
  refine NW.out.mono ?_
  rintro e w2 ⟨A1, n1, c1, br1, x1, m1, rfl, s2, q2, hc1, hn1, hb1, g2, z2, hx1, d1⟩
  have D1 := Lib.hid d1
  have HB1 := Lib.hid hb1
  have G2 := Lib.hid (grown_trans GA.out g2)
  have R2 := Lib.hid ((g2.block w.heap.size (by rw [Z0.out]; omega) (by simp; omega)).trans R0.out)
  have Z2 := Lib.hid (z2.trans Z0.out)
  have S2 := Lib.hid s2
  have Q2 := Lib.hid q2
  have hx1' : x1 ≤ 2000000 := by omega
  clear d1 hb1 g2 z2 s2 q2 NW
  by_cases hx0 : x1 = 0
  · subst hx0
    have H2 := Lib.hid (show true = zeroBreaks 0 br1 from rfl)
    have S3 := Lib.hid S2.out.break
    have Q3 := Lib.hid (Q2.out.below ((Below.refl B w2).setCell (p := ⟨g, 1, none⟩) hBg (.bool true)))
    have G3 := Lib.hid (grown_trans G2.out (grown_set w2 g 1 (.bool true)))
    have R3 := Lib.hid ((Below.heap_setCell w2 ⟨g, 1, none⟩ (.bool true) w.heap.size (by show w.heap.size ≠ g; omega)).trans R2.out)
    have Z3 := Lib.hid (show (w2.setCell ⟨g, 1, none⟩ (.bool true)).heap.size = w.heap.size + 1 by simp; exact Z2.out)
    have p1 := S2.out.get 1
    have f1 := S2.out.free 1
    simp at p1
    have N3 := Lib.hid (number_walk 1114111 g B A1 n1 c1 _ m1 _ S3.out Q3.out hBg hc1 hn1 HB1.out (by omega))
    go_wp2_with fail
    refine N3.out.mono ?_
    rintro e w4 ⟨A4, n4, c4, br4, x4, m4, rfl, s4, q4, hc4, hn4, hb4, g4, z4, hx4, d4⟩
    have D4 := Lib.hid d4
    have HB4 := Lib.hid hb4
    have G4 := Lib.hid (grown_trans G3.out g4)
    have R4 := Lib.hid ((g4.block w.heap.size (by rw [Z3.out]; omega) (by simp; omega)).trans R3.out)
    have Z4 := Lib.hid (z4.trans Z3.out)
    have N4 := Lib.hid (number_walk 2 g B A4 n4 c4 _ m4 _ s4 q4 hBg hc4 hn4 hb4 (by omega))
    clear d4 hb4 g4 z4 s4 q4 N3
    go_wp2_with fail
    refine N4.out.mono ?_
    rintro e w5 ⟨A5, n5, c5, br5, x5, m5, rfl, s5, q5, hc5, hn5, hb5, g5, z5, hx5, d5⟩
    have D5 := Lib.hid d5
    have G5 := Lib.hid (grown_trans G4.out g5)
    have R5 := Lib.hid ((g5.block w.heap.size (by rw [Z4.out]; omega) (by simp; omega)).trans R4.out)
    have Z5 := Lib.hid (z5.trans Z4.out)
    have N5 := Lib.hid (number_walk 255 g B A5 n5 c5 _ m5 _ s5 q5 hBg hc5 hn5 hb5 (by omega))
    clear d5 hb5 g5 z5 s5 q5 N4
    go_wp2_with fail
    refine N5.out.mono ?_
    rintro e w6 ⟨A6, n6, c6, br6, x6, m6, rfl, s6, q6, hc6, hn6, hb6, g6, z6, hx6, d6⟩
    have D6 := Lib.hid d6
    have G6 := Lib.hid (grown_trans G5.out g6)
    have R6 := Lib.hid ((g6.block w.heap.size (by rw [Z5.out]; omega) (by simp; omega)).trans R5.out)
    have Z6 := Lib.hid (z6.trans Z5.out)
    have S6 := Lib.hid s6
    have Q6 := Lib.hid q6
    have HB6 := Lib.hid hb6
    have GL := Lib.hid (run_glue D1.out H2.out D4.out D5.out D6.out)
    have k0 : w6.cell? ⟨w.heap.size, 0, none⟩ = some (.int .i64 0) := by rw [cell_of_row _ _ _ _ _ (0, 0) R6.out]; rfl
    have k1 : w6.cell? ⟨w.heap.size, 1, none⟩ = some (.int .i32 0) := by rw [cell_of_row _ _ _ _ _ (0, 0) R6.out]; rfl
    have k2 : w6.cell? ⟨w.heap.size, 2, none⟩ = some (.int .i64 0) := by rw [cell_of_row _ _ _ _ _ (0, 0) R6.out]; rfl
    have k3 : w6.cell? ⟨w.heap.size, 3, none⟩ = some (.int .i64 0) := by rw [cell_of_row _ _ _ _ _ (0, 0) R6.out]; rfl
    have j0 := frozen_of_row _ _ 0 _ _ R6.out
    have j1 := frozen_of_row _ _ 1 _ _ R6.out
    have j2 := frozen_of_row _ _ 2 _ _ R6.out
    have j3 := frozen_of_row _ _ 3 _ _ R6.out
    clear d6 hb6 g6 z6 s6 q6 N5
    go_wp2
    have RF := runAt_put (x := (0, 0, 0, 0)) R6.out 0 (x4 : Int) (x5 : Int) (x6 : Int)
    have BF := (((((Below.refl w.heap.size w6).setCell (p := ⟨w.heap.size, 0, none⟩) (Nat.le_refl _) (.int .i64 0)).setCell (p := ⟨w.heap.size, 1, none⟩) (Nat.le_refl _) (.int .i32 x4)).setCell (p := ⟨w.heap.size, 2, none⟩) (Nat.le_refl _) (.int .i64 x5)).setCell (p := ⟨w.heap.size, 3, none⟩) (Nat.le_refl _) (.int .i64 x6))
    have GF := grown_more (p := ⟨w.heap.size, 3, none⟩) (grown_more (p := ⟨w.heap.size, 2, none⟩) (grown_more (p := ⟨w.heap.size, 1, none⟩) (grown_more (p := ⟨w.heap.size, 0, none⟩) G6.out (Nat.le_refl _) (.int .i64 0)) (Nat.le_refl _) (.int .i32 x4)) (Nat.le_refl _) (.int .i64 x5)) (Nat.le_refl _) (.int .i64 x6)
    generalize (((w6.setCell ⟨w.heap.size, 0, none⟩ (.int .i64 0)).setCell ⟨w.heap.size, 1, none⟩ (.int .i32 x4)).setCell ⟨w.heap.size, 2, none⟩ (.int .i64 x5)).setCell ⟨w.heap.size, 3, none⟩ (.int .i64 x6) = w7 at RF BF GF ⊢
    have e0 := RF.get 0
    have e1 := RF.get 1
    have e2 := RF.get 2
    have e3 := RF.get 3
    refine bodyPost_ret (v := runV (0, ((x4 : Int), (x5 : Int), (x6 : Int)))) (by simp [results, Tryd.results60, go_sem, e0, e1, e2, e3]) rfl ?_
    exact ⟨A6, n6, c6, br6, (0, ((x4 : Int), (x5 : Int), (x6 : Int))), m6, rfl, (BF.block g hgl).trans S6.out, Q6.out.carry (fun p hp => BF.cell (by omega)), hc6, hn6, HB6.out, GF, GL.out⟩
  · have H2 := Lib.hid (show br1 = zeroBreaks x1 br1 from (if_neg hx0).symm)
    have d1 : ((x1 : Int) == 0) = false := by simp; omega
    have S3 := S2
    have Q3 := Q2
    have G3 := G2
    have R3 := R2
    have Z3 := Z2
    have N3 := Lib.hid (number_walk 1114111 g B A1 n1 c1 _ m1 _ S3.out Q3.out hBg hc1 hn1 HB1.out (by omega))
    go_wp2_with fail
    refine N3.out.mono ?_
    rintro e w4 ⟨A4, n4, c4, br4, x4, m4, rfl, s4, q4, hc4, hn4, hb4, g4, z4, hx4, d4⟩
    have D4 := Lib.hid d4
    have HB4 := Lib.hid hb4
    have G4 := Lib.hid (grown_trans G3.out g4)
    have R4 := Lib.hid ((g4.block w.heap.size (by rw [Z3.out]; omega) (by simp; omega)).trans R3.out)
    have Z4 := Lib.hid (z4.trans Z3.out)
    have N4 := Lib.hid (number_walk 2 g B A4 n4 c4 _ m4 _ s4 q4 hBg hc4 hn4 hb4 (by omega))
    clear d4 hb4 g4 z4 s4 q4 N3
    go_wp2_with fail
    refine N4.out.mono ?_
    rintro e w5 ⟨A5, n5, c5, br5, x5, m5, rfl, s5, q5, hc5, hn5, hb5, g5, z5, hx5, d5⟩
    have D5 := Lib.hid d5
    have G5 := Lib.hid (grown_trans G4.out g5)
    have R5 := Lib.hid ((g5.block w.heap.size (by rw [Z4.out]; omega) (by simp; omega)).trans R4.out)
    have Z5 := Lib.hid (z5.trans Z4.out)
    have N5 := Lib.hid (number_walk 255 g B A5 n5 c5 _ m5 _ s5 q5 hBg hc5 hn5 hb5 (by omega))
    clear d5 hb5 g5 z5 s5 q5 N4
    go_wp2_with fail
    refine N5.out.mono ?_
    rintro e w6 ⟨A6, n6, c6, br6, x6, m6, rfl, s6, q6, hc6, hn6, hb6, g6, z6, hx6, d6⟩
    have D6 := Lib.hid d6
    have G6 := Lib.hid (grown_trans G5.out g6)
    have R6 := Lib.hid ((g6.block w.heap.size (by rw [Z5.out]; omega) (by simp; omega)).trans R5.out)
    have Z6 := Lib.hid (z6.trans Z5.out)
    have S6 := Lib.hid s6
    have Q6 := Lib.hid q6
    have HB6 := Lib.hid hb6
    have GL := Lib.hid (run_glue D1.out H2.out D4.out D5.out D6.out)
    have k0 : w6.cell? ⟨w.heap.size, 0, none⟩ = some (.int .i64 0) := by rw [cell_of_row _ _ _ _ _ (0, 0) R6.out]; rfl
    have k1 : w6.cell? ⟨w.heap.size, 1, none⟩ = some (.int .i32 0) := by rw [cell_of_row _ _ _ _ _ (0, 0) R6.out]; rfl
    have k2 : w6.cell? ⟨w.heap.size, 2, none⟩ = some (.int .i64 0) := by rw [cell_of_row _ _ _ _ _ (0, 0) R6.out]; rfl
    have k3 : w6.cell? ⟨w.heap.size, 3, none⟩ = some (.int .i64 0) := by rw [cell_of_row _ _ _ _ _ (0, 0) R6.out]; rfl
    have j0 := frozen_of_row _ _ 0 _ _ R6.out
    have j1 := frozen_of_row _ _ 1 _ _ R6.out
    have j2 := frozen_of_row _ _ 2 _ _ R6.out
    have j3 := frozen_of_row _ _ 3 _ _ R6.out
    clear d6 hb6 g6 z6 s6 q6 N5
    go_wp2
    have RF := runAt_put (x := (0, 0, 0, 0)) R6.out x1 (x4 : Int) (x5 : Int) (x6 : Int)
    have BF := (((((Below.refl w.heap.size w6).setCell (p := ⟨w.heap.size, 0, none⟩) (Nat.le_refl _) (.int .i64 x1)).setCell (p := ⟨w.heap.size, 1, none⟩) (Nat.le_refl _) (.int .i32 x4)).setCell (p := ⟨w.heap.size, 2, none⟩) (Nat.le_refl _) (.int .i64 x5)).setCell (p := ⟨w.heap.size, 3, none⟩) (Nat.le_refl _) (.int .i64 x6))
    have GF := grown_more (p := ⟨w.heap.size, 3, none⟩) (grown_more (p := ⟨w.heap.size, 2, none⟩) (grown_more (p := ⟨w.heap.size, 1, none⟩) (grown_more (p := ⟨w.heap.size, 0, none⟩) G6.out (Nat.le_refl _) (.int .i64 x1)) (Nat.le_refl _) (.int .i32 x4)) (Nat.le_refl _) (.int .i64 x5)) (Nat.le_refl _) (.int .i64 x6)
    generalize (((w6.setCell ⟨w.heap.size, 0, none⟩ (.int .i64 x1)).setCell ⟨w.heap.size, 1, none⟩ (.int .i32 x4)).setCell ⟨w.heap.size, 2, none⟩ (.int .i64 x5)).setCell ⟨w.heap.size, 3, none⟩ (.int .i64 x6) = w7 at RF BF GF ⊢
    have e0 := RF.get 0
    have e1 := RF.get 1
    have e2 := RF.get 2
    have e3 := RF.get 3
    refine bodyPost_ret (v := runV (x1, ((x4 : Int), (x5 : Int), (x6 : Int)))) (by simp [results, Tryd.results60, go_sem, e0, e1, e2, e3]) rfl ?_
    exact ⟨A6, n6, c6, br6, (x1, ((x4 : Int), (x5 : Int), (x6 : Int))), m6, rfl, (BF.block g hgl).trans S6.out, Q6.out.carry (fun p hp => BF.cell (by omega)), hc6, hn6, HB6.out, GF, GL.out⟩
end Go.Proofs.YtalhlgiklochdaaDoor
