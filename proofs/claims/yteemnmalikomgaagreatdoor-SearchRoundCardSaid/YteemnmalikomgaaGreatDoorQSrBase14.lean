import Derived.Test.YteemnmalikomgaaGreatDoorQSrBase13
import Derived.Test.YteemnmalikomgaaGreatDoorRows
import Derived.OrdersHeld
import Derived.Deep.RegionHeld
import Derived.IntWalk
set_option maxRecDepth 100000
set_option maxHeartbeats 6400000
namespace Go.Proofs.YteemnmalikomgaaGreatDoor
open Go.ChangeShapes Go.WideShapes Go.ChangeAt Go.RowKit
namespace NF
def ProgP (s : ByteArray) (w : World) (e : Ending) (w' : World) : Prop :=
 ∃ (x : Nv) (P : Value) (ok : Bool), e = .returned (.tuple #[x.v, P, .bool ok]) ∧ Below w.heap.size w w' ∧
  (ok = true → ∃ t p, P = .pointer (some ⟨p, 0, none⟩) ∧ NdIn w' w.heap.size w'.heap.size t x ∧ Prg w' w'.heap.size p t ∧ parseS (shortT s 30) = .some t) ∧
  (∀ t, parseS (shortT s 30) = .some t → wt t ≤ 400 → deep t ≤ 10 → ok = true)
theorem light_iff {v u : Nat} (h : min v 1000000 = min u 1000000) : u ≤ 400 ↔ v ≤ 400 := by omega
theorem refWeight_400 (t : Nd) (x : Nv) (lo : Nat) (w : World) (hm : may t = true) (hx : NdIn w lo w.heap.size t x) :
  Calls Tryz.prog 19 #[x.v] w fun e w' => ∃ v : Nat, e = .returned (.int .i64 (v : Int)) ∧ v ≤ 1000001 ∧ (wt t ≤ 400 ↔ v ≤ 400) ∧ Below w.heap.size w w' := by
 refine (refWeight_walk (deep t) t x lo w.heap.size w (Nat.le_refl _) hm (Nat.le_refl _) hx).mono ?_
 rintro e w' ⟨v, rfl, h1, h2, h3⟩
 exact ⟨v, rfl, h1, light_iff h2, h3⟩
theorem prog_walk (re : ByteArray) (w : World) :
  Calls Tryz.prog 22 #[.string re] w fun e w' => ProgP re w e w' := by
 obtain ⟨w1, hw1, k1, b1, z1⟩ := new_node w 0 none 0 0 false none 0 0 0 0
 have K1 := Lib.hid k1
 have B1 := Lib.hid b1
 have Z1 := Lib.hid z1
 have SH := Lib.hid (fun wx => shortT_walk re 30 wx)
 unfold ProgP
 obtain ⟨T, hT⟩ : ∃ T, shortT re 30 = T := ⟨_, rfl⟩
 have hT40 : T.size ≤ 30 := by rw [← hT]; exact shortT_size re 30
 rw [hT] at SH
 rw [hT]
 clear hT k1 b1 z1
 go_enter Tryz.func22, Tryz.ntmps22
 go_wp2_with fail
 refine (SH.out w1).mono ?_
 rintro e w' ⟨rfl, rfl⟩
 have PW := Lib.hid (parse_walk T (by omega) w1)
 clear SH
 go_wp2_with fail
 refine PW.out.mono ?_
 intro e w2 hp
 have HP := Lib.hid hp
 clear hp PW hw1
 cases hps : parseS T with
 | none =>
  have HZ := HP.out
  have PS := Lib.hid hps
  rw [hps] at HZ
  obtain ⟨rfl, b2⟩ := HZ
  obtain ⟨w3, hw3, k3, b3, z3⟩ := new_node w2 0 none 0 0 false none 0 0 0 0
  obtain ⟨NB, hNB⟩ : ∃ b, w2.heap.size = b := ⟨_, rfl⟩
  have K3 := Lib.hid (hNB ▸ k3 : nodeBk w3 NB ⟨0, none, 0, 0, false, none, 0, 0, 0, 0⟩)
  have K0 := Lib.hid ((K1.out.below b2 K1.out.lt).below b3 (K1.out.below b2 K1.out.lt).lt)
  have B3 := Lib.hid (B1.out.trans ((b2.trans (b3.mono b2.size)).mono B1.out.size))
  have HW3 := Lib.hid hw3
  have HNB := Lib.hid hNB
  clear HP b2 hps k3 b3 z3 hw3 hNB
  obtain ⟨y0, y1, y2, y3, y4, y5⟩ := nv_bk K3.out
  try dsimp only [Nv.v, zeroV]
  go_upto_region 2 with fail
  rw [HNB.out]
  first
   | rw [HW3.out]
   | (change Code.wp _ _ _ _ (w2.alloc (.cells #[.int .i64 0, .slice none 0 0, .bool false, .slice none 0 0, .int .i64 0, .int .i64 0] 29)); rw [HW3.out])
  obtain ⟨⟨m0, o0⟩, ⟨m1, o1⟩, ⟨m2, o2⟩, ⟨m3, o3⟩, ⟨m4, o4⟩, ⟨m5, o5⟩, f0, f1, f2, f3, f4, f5⟩ := six_at (o := 0) K0.out (by simp)
  have PN := put_node K0.out ⟨0, none, 0, 0, false, none, 0, 0, 0, 0⟩
  go_wp2_with fail
  change bodyPost _ _ _ _ _ (put6 w3 w.heap.size 0 ⟨0, none, 0, 0, false, none, 0, 0, 0, 0⟩)
  have M := B3.out.trans ((put6_trn w3 w.heap.size 0 ⟨0, none, 0, 0, false, none, 0, 0, 0, 0⟩).toBelow B3.out.size fun k hk e => by omega)
  have T := put6_trn w3 w.heap.size 0 ⟨0, none, 0, 0, false, none, 0, 0, 0, 0⟩
  revert PN M T
  generalize put6 w3 w.heap.size 0 ⟨0, none, 0, 0, false, none, 0, 0, 0, 0⟩ = W
  intro PN M T
  obtain ⟨p0, p1, p2, p3, p4, p5⟩ := nv_bk PN
  refine bodyPost_ret (v := .tuple #[Nv.v ⟨0, none, 0, 0, false, none, 0, 0, 0, 0⟩, .pointer none, .bool false]) (by simp [results, Tryz.results22, Nv.v, go_sem, p0, p1, p2, p3, p4, p5] <;> rfl) rfl ?_
  exact ⟨zeroV, _, false, rfl, M, (fun h => by cases h), fun t h => by rw [PS.out] at h; cases h⟩
 | some t =>
  obtain ⟨k, A, nn, c, nt, A2, n2, c2, mn, mx, rfl, hx, b2⟩ := parsed HP.out hps
  obtain ⟨w3, hw3, k3, b3, z3⟩ := new_node w2 k A nn c nt A2 n2 c2 mn mx
  have PZ := parseS_small hps
  have hd40 : deep t ≤ 40 := by omega
  have hc80 : count t ≤ 2000 := by omega
  have MY := Lib.hid PZ.1
  have PS := Lib.hid hps
  have K0 := Lib.hid ((K1.out.below b2 K1.out.lt).below b3 (K1.out.below b2 K1.out.lt).lt)
  have B3 := Lib.hid (B1.out.trans ((b2.trans (b3.mono b2.size)).mono B1.out.size))
  have X3 := Lib.hid (ndO_in (fun b hb => hb) (ndO_below hx b3))
  have L0 := Lib.hid (show w.heap.size < w1.heap.size from by have := Z1.out; omega)
  have S3 := Lib.hid (show w1.heap.size ≤ w3.heap.size from Nat.le_trans b2.size b3.size)
  obtain ⟨NB, hNB⟩ : ∃ b, w2.heap.size = b := ⟨_, rfl⟩
  have Z3 := Lib.hid (show w3.heap.size = NB + 1 by omega)
  have K3 := Lib.hid (hNB ▸ k3 : nodeBk w3 NB ⟨k, A, nn, c, nt, A2, n2, c2, mn, mx⟩)
  have RW := Lib.hid (refWeight_400 t ⟨k, A, nn, c, nt, A2, n2, c2, mn, mx⟩ _ w3 PZ.1 X3.out)
  have HW3 := Lib.hid hw3
  have HNB := Lib.hid hNB
  obtain ⟨y0, y1, y2, y3, y4, y5⟩ := nv_bk K3.out
  clear hx b2 k3 b3 z3 hw3 hNB HP hps PZ
  try dsimp only [Nv.v] at RW ⊢
  go_upto_region 2 with fail
  rw [HNB.out]
  first
   | rw [HW3.out]
   | (change Code.wp _ _ _ _ (w2.alloc (.cells #[.int .i64 k, .slice A nn c, .bool nt, .slice A2 n2 c2, .int .i64 mn, .int .i64 mx] 29)); rw [HW3.out])
  go_wp2_with fail
  refine RW.out.mono ?_
  rintro e w4 ⟨v, rfl, hv1, hv2, b4⟩
  have B4 := Lib.hid (B3.out.trans (b4.mono B3.out.size))
  have Q4 := Lib.hid (K0.out.below b4 K0.out.lt)
  have K4 := Lib.hid (show nodeBk w4 NB ⟨k, A, nn, c, nt, A2, n2, c2, mn, mx⟩ from K3.out.below b4 (by have := Z3.out; omega))
  have X4 := Lib.hid (ndIn_up (Nat.le_refl _) b4.size (X3.out.below b4))
  have L4 := Lib.hid (show NB < w4.heap.size from by have := Z3.out; have := b4.size; omega)
  have S4 := Lib.hid (Nat.le_trans S3.out b4.size)
  clear b4 RW y0 y1 y2 y3 y4 y5
  obtain ⟨q0, q1, q2, q3, q4, q5⟩ := nv_bk K4.out
  by_cases hbig : 400 < v
  ·have hbi : (400 : Int) < (v : Int) := by omega
   have HB := Lib.hid (And.intro hbig hv2)
   clear hbig hv1 hv2
   obtain ⟨⟨m0, o0⟩, ⟨m1, o1⟩, ⟨m2, o2⟩, ⟨m3, o3⟩, ⟨m4, o4⟩, ⟨m5, o5⟩, f0, f1, f2, f3, f4, f5⟩ := six_at (o := 0) Q4.out (by simp)
   have PN := put_node Q4.out ⟨k, A, nn, c, nt, A2, n2, c2, mn, mx⟩
   go_wp2_with fail
   change bodyPost _ _ _ _ _ (put6 w4 w.heap.size 0 ⟨k, A, nn, c, nt, A2, n2, c2, mn, mx⟩)
   have M := B4.out.trans ((put6_trn w4 w.heap.size 0 ⟨k, A, nn, c, nt, A2, n2, c2, mn, mx⟩).toBelow B4.out.size fun k hk e => by omega)
   have T := put6_trn w4 w.heap.size 0 ⟨k, A, nn, c, nt, A2, n2, c2, mn, mx⟩
   revert PN M T
   generalize put6 w4 w.heap.size 0 ⟨k, A, nn, c, nt, A2, n2, c2, mn, mx⟩ = W
   intro PN M T
   obtain ⟨p0, p1, p2, p3, p4, p5⟩ := nv_bk PN
   refine bodyPost_ret (v := .tuple #[Nv.v ⟨k, A, nn, c, nt, A2, n2, c2, mn, mx⟩, .pointer none, .bool false]) (by simp [results, Tryz.results22, Nv.v, go_sem, p0, p1, p2, p3, p4, p5] <;> rfl) rfl ?_
   refine ⟨⟨k, A, nn, c, nt, A2, n2, c2, mn, mx⟩, _, false, rfl, M, (fun h => by cases h), fun t' h' hw' _ => ?_⟩
   rw [PS.out] at h'
   cases h'
   have := HB.out.2.1 hw'
   have := HB.out.1
   omega
  ·have hbi : ¬ (400 : Int) < (v : Int) := by omega
   have WT := Lib.hid (show wt t ≤ 400 from hv2.2 (by omega))
   have DW := Lib.hid (refDeep_some t ⟨k, A, nn, c, nt, A2, n2, c2, mn, mx⟩ _ w4 (by omega) X4.out)
   try dsimp only [Nv.v] at DW
   clear hv1 hv2 hbig
   go_wp2_with fail
   refine DW.out.mono ?_
   rintro e w5 ⟨rfl, b5⟩
   have B5 := Lib.hid (B4.out.trans (b5.mono B4.out.size))
   have Q5 := Lib.hid (Q4.out.below b5 Q4.out.lt)
   have K5 := Lib.hid (show nodeBk w5 NB ⟨k, A, nn, c, nt, A2, n2, c2, mn, mx⟩ from K4.out.below b5 L4.out)
   have X5 := Lib.hid (ndIn_up (Nat.le_refl _) b5.size (X4.out.below b5))
   have L5 := Lib.hid (Nat.lt_of_lt_of_le L4.out b5.size)
   have S5 := Lib.hid (Nat.le_trans S4.out b5.size)
   clear b5 DW q0 q1 q2 q3 q4 q5 K4 X4 L4
   obtain ⟨y0, y1, y2, y3, y4, y5⟩ := nv_bk K5.out
   by_cases hdeep : 10 < deep t
   ·have hdi : (10 : Int) < (deep t : Int) := by omega
    have HD := Lib.hid hdeep
    clear hdeep
    obtain ⟨⟨m0, o0⟩, ⟨m1, o1⟩, ⟨m2, o2⟩, ⟨m3, o3⟩, ⟨m4, o4⟩, ⟨m5, o5⟩, f0, f1, f2, f3, f4, f5⟩ := six_at (o := 0) Q5.out (by simp)
    have PN := put_node Q5.out ⟨k, A, nn, c, nt, A2, n2, c2, mn, mx⟩
    go_wp2_with fail
    change bodyPost _ _ _ _ _ (put6 w5 w.heap.size 0 ⟨k, A, nn, c, nt, A2, n2, c2, mn, mx⟩)
    have M := B5.out.trans ((put6_trn w5 w.heap.size 0 ⟨k, A, nn, c, nt, A2, n2, c2, mn, mx⟩).toBelow B5.out.size fun k hk e => by omega)
    have T := put6_trn w5 w.heap.size 0 ⟨k, A, nn, c, nt, A2, n2, c2, mn, mx⟩
    revert PN M T
    generalize put6 w5 w.heap.size 0 ⟨k, A, nn, c, nt, A2, n2, c2, mn, mx⟩ = W
    intro PN M T
    obtain ⟨p0, p1, p2, p3, p4, p5⟩ := nv_bk PN
    refine bodyPost_ret (v := .tuple #[Nv.v ⟨k, A, nn, c, nt, A2, n2, c2, mn, mx⟩, .pointer none, .bool false]) (by simp [results, Tryz.results22, Nv.v, go_sem, p0, p1, p2, p3, p4, p5] <;> rfl) rfl ?_
    refine ⟨⟨k, A, nn, c, nt, A2, n2, c2, mn, mx⟩, _, false, rfl, M, (fun h => by cases h), fun t' h' _ hd' => ?_⟩
    rw [PS.out] at h'
    cases h'
    have := HD.out
    omega
   ·have hdi : ¬ (10 : Int) < (deep t : Int) := by omega
    have CW := Lib.hid (compile_firm t ⟨k, A, nn, c, nt, A2, n2, c2, mn, mx⟩ _ w5 X5.out MY.out hd40 hc80 (by have := WT.out; omega))
    try dsimp only [Nv.v] at CW
    clear hdeep
    go_wp2_with fail
    refine CW.out.mono ?_
    rintro e w7 ⟨p, rfl, _, hfm, b7⟩
    have FM := Lib.hid hfm
    have B7 := Lib.hid (B5.out.trans (b7.mono B5.out.size))
    have Q7 := Lib.hid (Q5.out.below b7 Q5.out.lt)
    have X7 := Lib.hid (ndIn_up (Nat.le_refl _) b7.size (X5.out.below b7))
    have K7 := Lib.hid (show nodeBk w7 NB ⟨k, A, nn, c, nt, A2, n2, c2, mn, mx⟩ from K5.out.below b7 L5.out)
    clear hfm b7 CW y0 y1 y2 y3 y4 y5
    obtain ⟨q0, q1, q2, q3, q4, q5⟩ := nv_bk K7.out
    obtain ⟨⟨m0, o0⟩, ⟨m1, o1⟩, ⟨m2, o2⟩, ⟨m3, o3⟩, ⟨m4, o4⟩, ⟨m5, o5⟩, f0, f1, f2, f3, f4, f5⟩ := six_at (o := 0) Q7.out (by simp)
    have PN := put_node Q7.out ⟨k, A, nn, c, nt, A2, n2, c2, mn, mx⟩
    go_wp2_with fail
    change bodyPost _ _ _ _ _ (put6 w7 w.heap.size 0 ⟨k, A, nn, c, nt, A2, n2, c2, mn, mx⟩)
    have M := B7.out.trans ((put6_trn w7 w.heap.size 0 ⟨k, A, nn, c, nt, A2, n2, c2, mn, mx⟩).toBelow B7.out.size fun k hk e => by omega)
    have T := put6_trn w7 w.heap.size 0 ⟨k, A, nn, c, nt, A2, n2, c2, mn, mx⟩
    revert PN M T
    generalize put6 w7 w.heap.size 0 ⟨k, A, nn, c, nt, A2, n2, c2, mn, mx⟩ = W
    intro PN M T
    obtain ⟨p0, p1, p2, p3, p4, p5⟩ := nv_bk PN
    refine bodyPost_ret (v := .tuple #[Nv.v ⟨k, A, nn, c, nt, A2, n2, c2, mn, mx⟩, (.pointer (some ⟨p, 0, none⟩)), .bool true]) (by simp [results, Tryz.results22, Nv.v, go_sem, p0, p1, p2, p3, p4, p5] <;> rfl) rfl ?_
    refine ⟨⟨k, A, nn, c, nt, A2, n2, c2, mn, mx⟩, _, true, rfl, M, fun _ => ⟨t, p, rfl, ?_, FM.out w.heap.size W (by have := L0.out; have := S5.out; omega) T, PS.out⟩, fun _ _ _ _ => rfl⟩
    refine ndIn_up (lo := w1.heap.size) (B := w7.heap.size) (by have := L0.out; omega) T.size (ndIn_carry (fun q h1 h2 => ?_) X7.out)
    have e := T.block q.block h2 (by have := L0.out; omega)
    unfold World.cell?
    rw [e]
end NF
end Go.Proofs.YteemnmalikomgaaGreatDoor
namespace Go.Proofs.YteemnmalikomgaaGreatDoor
/-! How long a number is. -/
/-! Runs of alike things. -/
section
variable {C : Type} [DecidableEq C]
end
end Go.Proofs.YteemnmalikomgaaGreatDoor
namespace Go.Proofs.YteemnmalikomgaaGreatDoor
abbrev Cel := Int × Int × Int
/-! Which rows may be. -/
def mayB (c : Cel) : Bool := decide (0 ≤ c.2.2) && decide (c.2.2 ≤ 255) && (c == (0, 1, 0) || (c.2.1 == 0 && c.1 == 0) || (decide (0 < c.2.1) && c.2.1 == wof c.1))
def mayGo : Cel → List Cel → Bool
 | p, [] => !(p.2.1 == 2)
 | p, c :: l => mayB c && ((p.2.1 == 2) == (c.2.1 == 0)) && (!(c.2.1 == 0) || c.2.2 == p.2.2) && mayGo c l
def mayL (l : List Cel) : Bool := decide (l.length ≤ 300) && mayGo (32, 1, 0) l
end Go.Proofs.YteemnmalikomgaaGreatDoor
namespace Go.Proofs.YteemnmalikomgaaGreatDoor
section
variable {C : Type}
variable [DecidableEq C]
end
end Go.Proofs.YteemnmalikomgaaGreatDoor
namespace Go.Proofs.YteemnmalikomgaaGreatDoor
open Go.ChangeShapes Go.WideShapes Go.ChangeAt Go.RowKit
theorem mayB_out {r n a : Int} (h : a < 0 ∨ 255 < a) : mayB (r, n, a) = false := by
 unfold mayB
 rcases h with h | h
 ·simp [show ¬ 0 ≤ a by omega]
 ·simp [show ¬ a ≤ 255 by omega]
theorem mayB_half {r a : Int} (h0 : 0 ≤ a) (h1 : a ≤ 255) : mayB (r, 0, a) = (r == 0) := by
 unfold mayB
 simp [h0, h1]
theorem mayB_sign {r n a : Int} (h0 : 0 ≤ a) (h1 : a ≤ 255) (hn : n ≠ 0) : mayB (r, n, a) = ((wof r == n) || isB 0 r n a) := by
 have hw := wof_range r
 have e : (decide (0 < n) && n == wof r) = (wof r == n) := by
  rw [Bool.eq_iff_iff]
  simp only [Bool.and_eq_true, decide_eq_true_eq, beq_iff_eq]
  omega
 have e2 : ((r, n, a) == ((0 : Int), (1 : Int), (0 : Int))) = isB 0 r n a := by
  unfold isB
  rw [Bool.eq_iff_iff]
  simp only [Bool.and_eq_true, beq_iff_eq, Prod.mk.injEq, and_assoc]
 unfold mayB
 simp only [h0, h1, decide_true, Bool.true_and, e, e2, show (n == 0) = false by simpa using hn, Bool.false_and, Bool.or_false]
 exact Bool.or_comm _ _
theorem cellsSl : Tryz.prog.cellsOf 68 = 1 := by kernel_rfl
theorem flatMap_at {α : Type} (f : α → List Value) (s : Nat) (hs : ∀ x, (f x).length = s) : ∀ (l : List α) (j : Nat) (u : Value), (l.flatMap f)[j]? = some u → ∃ (i : Nat) (hi : i < l.length) (k : Nat), j = i * s + k ∧ (f l[i])[k]? = some u
 | [], j, u, h => by simp at h
 | x :: l, j, u, h => by
  rw [List.flatMap_cons, List.getElem?_append] at h
  split at h
  ·exact ⟨0, by simp, j, by omega, h⟩
  ·rename_i hj
   rw [hs] at h hj
   obtain ⟨i, hi, k, e, hk⟩ := flatMap_at f s hs l _ u h
   refine ⟨i + 1, by simpa using hi, k, ?_, hk⟩
   rw [Nat.succ_mul]
   omega
theorem flatMap_len {α : Type} (f : α → List Value) (s : Nat) (hs : ∀ x, (f x).length = s) : ∀ (l : List α), (l.flatMap f).length = l.length * s
 | [] => by simp
 | x :: l => by rw [List.flatMap_cons, List.length_append, hs, flatMap_len f s hs l, List.length_cons, Nat.succ_mul, Nat.add_comm]
theorem sq_of_each {α : Type} (f : α → List Value) (s : Nat) (hs : ∀ x, (f x).length = s) (hs0 : 0 < s) {W : World} {a : Addr} {l : List α} {len : Nat} (hl : l.length = len)
  (h : ∀ (i : Nat) (hi : i < l.length) (k : Nat) (u : Value), (f l[i])[k]? = some u → W.cell? ((a.add (i * s)).add k) = some u) : Sq W W.heap.size s len (some a) (l.flatMap f) := by
 refine ⟨?_, fun hn => ?_⟩
 ·rw [flatMap_len f s hs, hl]
 ·have hi0 : 0 < l.length := by omega
  obtain ⟨u0, hu0⟩ : ∃ u, (f (l[0]'hi0))[0]? = some u := ⟨_, List.getElem?_eq_getElem (by rw [hs]; exact hs0)⟩
  have h0 := h 0 hi0 0 u0 hu0
  obtain ⟨b, off, spot⟩ := a
  have hspot : spot = none := by
   have := World.cell?_spot h0
   revert this
   unfold Addr.add
   simp
  subst hspot
  have hb := World.block_lt_of_cell? W _ h0
  simp only [Nat.zero_mul, add_at] at hb
  refine ⟨b, off, rfl, hb, fun j u hu => ?_⟩
  obtain ⟨i, hi, k, rfl, hk⟩ := flatMap_at f s hs l j u hu
  have := h i hi k u hk
  simp only [add_at] at this
  rw [← Nat.add_assoc]
  exact this
section
variable {H : Type} {enc : TypeId × Value → H} {w W : World} {base : Nat} {sp : Nat → Bool} {held : Bool}
theorem slice_parts {fuel : Nat} {cs : List Value} {x : DataW H × List MemPlace} (hf : DataW.trod enc Tryz.prog W base sp held fuel 68 cs = some x) :
  ∃ A n c l, cs = [.slice A n c] ∧ n ≤ c ∧ c ≤ maxLen ∧ (∀ c ∈ l, -2147483648 ≤ c.1 ∧ c.1 ≤ 2147483647) ∧ Sq W W.heap.size 3 n A (flat l) := by
 rcases DataW.trod_slice Tryz.underlying68 hf with ⟨hcs, _⟩ | ⟨a, len, cap, elems, rest, m, _, hcs, _, _, hl, hm, hlen, hel, _, _⟩
 ·exact ⟨none, 0, 0, [], hcs, Nat.le_refl _, Nat.zero_le _, (fun r h => by cases h), Sq.nothing _ _ _ _⟩
 ·have each : ∀ i, i < len → ∃ t : Int × Int × Int, (-2147483648 ≤ t.1 ∧ t.1 ≤ 2147483647) ∧ W.cell? ((a.add (i * 3)).add 0) = some (.int .i32 t.1) ∧ W.cell? ((a.add (i * 3)).add 1) = some (.int .i64 t.2.1) ∧ W.cell? ((a.add (i * 3)).add 2) = some (.int .i64 t.2.2) := by
   intro i hi
   have h1 := hel i hi
   rw [List.getElem?_eq_getElem (by omega), cellsCell, Option.bind_eq_some_iff] at h1
   obtain ⟨cs, hc, ht⟩ := h1
   obtain ⟨r, n, b, rfl, hr0, hr1⟩ := cell_parts ht
   obtain ⟨_, _, hcell⟩ := World.cells?_some hc
   exact ⟨(r, n, b), ⟨hr0, hr1⟩, hcell 0 (by omega), hcell 1 (by omega), hcell 2 (by omega)⟩
  obtain ⟨l, hll, hp⟩ := exists_list each
  refine ⟨some a, len, cap, l, hcs, hl, hm, fun t ht => ?_, ⟨by rw [flat_length, hll], fun hn => ?_⟩⟩
  ·obtain ⟨i, hi, rfl⟩ := List.mem_iff_getElem.1 ht
   exact (hp i hi).1
  ·have h0 := (hp 0 (by omega)).2.1
   obtain ⟨b, off, spot⟩ := a
   have hspot : spot = none := by
    have := World.cell?_spot h0
    revert this
    unfold Addr.add
    simp
   subst hspot
   have hb := World.block_lt_of_cell? W _ h0
   simp only [Nat.zero_mul, add_at] at hb
   refine ⟨b, off, rfl, hb, fun j u hu => ?_⟩
   obtain ⟨i, hi, hh⟩ := flat_at l j u hu
   have k := (hp i hi).2
   simp only [add_at] at k
   rcases hh with ⟨rfl, rfl⟩ | ⟨rfl, rfl⟩ | ⟨rfl, rfl⟩
   ·exact k.1
   ·rw [← Nat.add_assoc]; exact k.2.1
   ·rw [← Nat.add_assoc]; exact k.2.2
structure RowIn where
 A : Option Addr
 n : Nat
 c : Nat
 wrap : Bool
 l : List Cel
structure RowIn.Ok (W : World) (B : Nat) (x : RowIn) : Prop where
 le : x.n ≤ x.c
 cap : x.c ≤ maxLen
 signs : ∀ c ∈ x.l, -2147483648 ≤ c.1 ∧ c.1 ≤ 2147483647
 sq : Sq W B 3 x.n x.A (flat x.l)
def RowIn.vals (x : RowIn) : List Value := [.slice x.A x.n x.c, .bool x.wrap]
theorem RowIn.Ok.below {W W' : World} {B : Nat} {x : RowIn} (h : x.Ok W B) (hb : Below B W W') : x.Ok W' B := ⟨h.le, h.cap, h.signs, h.sq.below hb⟩
theorem RowIn.Ok.up {W : World} {B B' : Nat} {x : RowIn} (h : x.Ok W B) (hb : B ≤ B') : x.Ok W B' := ⟨h.le, h.cap, h.signs, h.sq.up hb⟩
end
theorem flatMap_get {α : Type} (f : α → List Value) (s : Nat) (hs : ∀ x, (f x).length = s) : ∀ (l : List α) (k : Nat) (x : α), l[k]? = some x → ∀ (j : Nat) (u : Value), (f x)[j]? = some u → (l.flatMap f)[k * s + j]? = some u
 | [], k, x, h, _, _, _ => by simp at h
 | y :: l, 0, x, h, j, u, hu => by
  simp at h
  subst h
  rw [List.flatMap_cons, Nat.zero_mul, Nat.zero_add, List.getElem?_append_left (List.getElem?_eq_some_iff.1 hu).1]
  exact hu
 | y :: l, k + 1, x, h, j, u, hu => by
  have ih := flatMap_get f s hs l k x (by simpa using h) j u hu
  rw [List.flatMap_cons, List.getElem?_append_right (by rw [hs, Nat.succ_mul]; omega), hs, show (k + 1) * s + j - s = k * s + j by rw [Nat.succ_mul]; omega]
  exact ih
namespace Cls
theorem region {P : Program} {id : Nat} {Q : Exit → Act → World → Prop} {a : Act} {w : World} {l : List Oper} {I : Type} (F : I → World) (h0 : ∃ n, w.drew = F n) (hm : P.follows .mixedOrders = true) (hB : Region.lexB .any l.toArray = true)
  (h : wpQuiet P l.toArray (fun w' => ∃ n, w' = F n) (fun a' => ∀ w', (∃ n, w' = F n) → Q .normal a' w') l a) : (Code.region id l.toArray true).wp P Q a w :=
 wp_region_quiet (C := fun w' => ∃ n, w' = F n) hm hB h0 (by simpa using h)
theorem below (w : World) : ∃ (I : Type) (_ : Nonempty I) (F : I → World), (∃ n, w.drew = F n) ∧ (∀ n, Below w.heap.size w (F n)) ∧ ∀ n W, Below (F n).heap.size (F n) W → ∃ m, W = F m :=
 ⟨{ W : World // Below w.heap.size w W }, ⟨⟨w, Below.refl _ _⟩⟩, Subtype.val, ⟨⟨w.drew, (Below.refl _ _).drew⟩, rfl⟩, fun n => n.2, fun n W h => ⟨⟨W, n.2.trans (h.mono n.2.size)⟩, rfl⟩⟩
end Cls
namespace Chain
section
variable {P : Program} {ops : Array Oper} {Q : Exit → Act → World → Prop} {S : World → Prop}
def done (n k : Nat) : Array Bool := (List.replicate k true ++ List.replicate (n - k) false).toArray
theorem done_zero (n : Nat) : done n 0 = Array.replicate n false := by
 unfold done; apply Array.ext'; simp
theorem done_set {n k : Nat} (h : k < n) : (done n k).setIfInBounds k true = done n (k + 1) := by
 unfold done
 apply Array.ext'
 obtain ⟨m, hm⟩ : ∃ m, n - k = m + 1 := ⟨n - k - 1, by omega⟩
 have e : n - (k + 1) = m := by omega
 rw [hm, e]
 simp only [List.setIfInBounds_toArray]
 rw [List.set_append, List.replicate_succ (n := m), List.replicate_succ' (n := k)]
 simp
theorem done_get {n k : Nat} (hk : k ≤ n) (j : Nat) (b : Bool) : (done n k).getD j b = if j < k then true else if j < n then false else b := by
 unfold done
 simp only [Array.getD_eq_getD_getElem?, List.getElem?_toArray, List.getElem?_append, List.length_replicate, List.getElem?_replicate]
 by_cases h1 : j < k
 ·simp [h1]
 ·by_cases h2 : j < n
  ·simp [h1, h2, show j - k < n - k by omega]
  ·simp [h1, h2, show ¬ j - k < n - k by omega]
def most : List Edge → Nat
 | [] => 0
 | e :: l => if Region.binds .any e then max (e.on + 1) (most l) else most l
theorem most_le (l : List Edge) (k : Nat) : most l ≤ k ↔ ∀ e ∈ l, Region.binds .any e = true → e.on < k := by
 induction l with
 | nil => simp [most]
 | cons e l ih =>
  unfold most
  by_cases h : Region.binds .any e = true
  ·rw [if_pos h]
   constructor
   ·intro hm x hx hb
    rcases List.mem_cons.1 hx with rfl | hx
    ·omega
    ·exact ih.1 (by omega) x hx hb
   ·intro hm
    have h1 := hm e (by simp) h
    have h2 := ih.2 fun x hx => hm x (by simp [hx])
    omega
  ·rw [if_neg h, ih]
   constructor
   ·intro hm x hx hb
    rcases List.mem_cons.1 hx with rfl | hx
    ·exact absurd hb h
    ·exact hm x hx hb
   ·intro hm x hx; exact hm x (by simp [hx])
abbrev Line := Option Tmp × Op × Option (Nat × Bool) × Nat
def line (o : Oper) : Line := (o.dst, o.op, o.guard, most o.after.toList)
def look (ops : Array Oper) : List Line := ops.toList.map line
def ups (k : Nat) : Nat → List Line → List Nat
 | _, [] => []
 | j, x :: l => if Nat.ble k j && Nat.ble x.2.2.2 k then j :: ups k (j + 1) l else ups k (j + 1) l
theorem mem_ups (k : Nat) : ∀ (l : List Line) (j i : Nat), i ∈ ups k j l ↔ ∃ m x, l[m]? = some x ∧ i = j + m ∧ k ≤ i ∧ x.2.2.2 ≤ k
 | [], j, i => by simp [ups]
 | x :: l, j, i => by
  have ih := mem_ups k l (j + 1) i
  unfold ups
  have rest : (∃ m y, (x :: l)[m + 1]? = some y ∧ i = j + (m + 1) ∧ k ≤ i ∧ y.2.2.2 ≤ k) ↔ i ∈ ups k (j + 1) l := by
   rw [ih]
   constructor
   ·rintro ⟨m, y, h1, h2, h3⟩; exact ⟨m, y, by simpa using h1, by omega, h3⟩
   ·rintro ⟨m, y, h1, h2, h3⟩; exact ⟨m, y, by simpa using h1, by omega, h3⟩
  by_cases h : (Nat.ble k j && Nat.ble x.2.2.2 k) = true
  ·rw [if_pos h]
   have h' : k ≤ j ∧ x.2.2.2 ≤ k := by simpa using h
   rw [List.mem_cons]
   constructor
   ·rintro (rfl | hi)
    ·exact ⟨0, x, rfl, rfl, h'.1, h'.2⟩
    ·obtain ⟨m, y, h1⟩ := rest.2 hi; exact ⟨m + 1, y, h1⟩
   ·rintro ⟨m, y, h1, h2, h3⟩
    cases m with
    | zero => left; omega
    | succ m => right; exact rest.1 ⟨m, y, h1, h2, h3⟩
  ·rw [if_neg h]
   have h' : ¬ (k ≤ j ∧ x.2.2.2 ≤ k) := by simpa using h
   constructor
   ·intro hi; obtain ⟨m, y, h1⟩ := rest.2 hi; exact ⟨m + 1, y, h1⟩
   ·rintro ⟨m, y, h1, h2, h3, h4⟩
    cases m with
    | zero => simp at h1; subst h1; exact absurd ⟨by omega, h4⟩ h'
    | succ m => exact rest.1 ⟨m, y, h1, h2, h3, h4⟩
theorem mem_ready_done {L : List Line} {n k i : Nat} (hL : look ops = L) (hn : ops.size = n) (hk : k ≤ n) : i ∈ Region.ready .any ops (done n k) ↔ i ∈ ups k 0 L := by
 subst hL
 rw [mem_ready, mem_ups, done_get hk]
 have hlook : ∀ m : Nat, (look ops)[m]? = (ops[m]?).map line := fun m => by unfold look; simp
 constructor
 ·rintro ⟨h1, o, ho, he⟩
  have hi : i < n := by rw [← hn]; exact (Array.getElem?_eq_some_iff.1 ho).1
  have hki : k ≤ i := by
   rcases Nat.lt_or_ge i k with h | h
   ·rw [if_pos h] at h1; cases h1
   ·exact h
  refine ⟨i, line o, by rw [hlook, ho]; rfl, by omega, hki, ?_⟩
  show most o.after.toList ≤ k
  rw [most_le]
  intro e hm hb
  have := he e (by simpa using hm) hb
  rw [done_get hk] at this
  by_cases h : e.on < k
  ·exact h
  ·rw [if_neg h] at this
   split at this <;> cases this
 ·rintro ⟨m, x, h1, h2, h3, h4⟩
  rw [hlook, Option.map_eq_some_iff] at h1
  obtain ⟨o, ho, rfl⟩ := h1
  have hm : m < n := by rw [← hn]; exact (Array.getElem?_eq_some_iff.1 ho).1
  obtain rfl : i = m := by omega
  refine ⟨by rw [if_neg (by omega), if_pos hm], o, ho, fun e he hb => ?_⟩
  rw [done_get hk, if_pos ((most_le _ _).1 h4 e (by simpa using he) hb)]
theorem ready_one {L : List Line} {n k : Nat} (hL : look ops = L) (hn : ops.size = n) (hk : k ≤ n) (h : ups k 0 L = [k]) : ∀ i ∈ Region.ready .any ops (done n k), i = k := fun i hi => by
 have := (mem_ready_done hL hn hk).1 hi
 rw [h] at this
 simpa using this
def At (a : Act) (t : Nat) (v : Value) : Prop := a.tmps[t]? = some v
theorem At.ev {a : Act} {t : Nat} {v : Value} (h : At a t v) : a.eval (.tmp t) = v := by
 unfold At at h
 simp [Act.eval, h]
theorem At.lt {a : Act} {t : Nat} {v : Value} (h : At a t v) : t < a.tmps.size := (Array.getElem?_eq_some_iff.1 h).1
theorem at_same {a : Act} {t : Nat} (h : t < a.tmps.size) (v : Value) : At (a.put (some t) v) t v := by
 unfold At Act.put
 simp [h]
theorem At.put {a : Act} {t : Nat} {v : Value} (h : At a t v) {d : Nat} (hd : d ≠ t) (u : Value) : At (a.put (some d) u) t v := by
 unfold At Act.put at *
 simp only
 rw [Array.getElem?_setIfInBounds_ne hd]
 exact h
theorem size_put (a : Act) (d : Nat) (u : Value) : (a.put (some d) u).tmps.size = a.tmps.size := by unfold Act.put; simp
def Open (ops : Array Oper) (a : Act) : Option (Nat × Bool) → Prop
 | none => True
 | some (j, b) => ∃ t, ((ops[j]?).bind (·.dst)) = some t ∧ At a t (.bool b)
theorem Open.wanted {a : Act} {o : Oper} (h : Open ops a o.guard) : Region.wanted o (yielded ops a.tmps) = true := by
 unfold Region.wanted
 cases hg : o.guard with
 | none => rfl
 | some p =>
  obtain ⟨j, b⟩ := p
  rw [hg] at h
  obtain ⟨t, ht, hat⟩ := h
  have : yielded ops a.tmps j = some b := by
   unfold yielded
   rw [ht]
   unfold At at hat
   simp [hat]
  simp [this]
theorem line_get {L : List Line} (hL : look ops = L) {k : Nat} {d : Option Tmp} {op : Op} {g : Option (Nat × Bool)} {m : Nat} (h : L[k]? = some (d, op, g, m)) : ∃ o, ops[k]? = some o ∧ o.dst = d ∧ o.op = op ∧ o.guard = g := by
 subst hL
 unfold look at h
 simp only [List.getElem?_map, Option.map_eq_some_iff, Array.getElem?_toList, line, Prod.mk.injEq] at h
 obtain ⟨o, ho, h1, h2, h3, _⟩ := h
 exact ⟨o, ho, h1, h2, h3⟩
theorem exec_shape (ρ : Operand → Value) (o : Oper) : execOp ρ o = execOp ρ ⟨o.dst, o.op, o.type, "", #[], none⟩ := by
 cases o; rfl
structure Next (a a' : Act) (d : Nat) (v : Value) : Prop where
 size : a'.tmps.size = a.tmps.size
 defers : a'.defers = a.defers
 got : At a' d v
 keep : ∀ t u, d ≠ t → At a t u → At a' t u
theorem Next.k {a a' : Act} {d x : Nat} {v u : Value} (N : Next a a' d v) (f : At a x u) (h : d ≠ x := by decide) : At a' x u := N.keep x _ h f
theorem next {a : Act} {d : Nat} (h : d < a.tmps.size) (v : Value) : Next a (a.put (some d) v) d v := ⟨size_put a d v, rfl, at_same h v, fun _ _ hd h => h.put hd v⟩
structure Reg (ops : Array Oper) (L : List Line) (n : Nat) : Prop where
 look : look ops = L
 size : ops.size = n
theorem Reg.opened {L : List Line} {n : Nat} (R : Reg ops L n) {a : Act} {j t m : Nat} {b : Bool} {op : Op} {g : Option (Nat × Bool)} (h : L[j]? = some (some t, op, g, m)) (hat : At a t (.bool b)) : Open ops a (some (j, b)) := by
 obtain ⟨o, ho, h1, _, _⟩ := line_get R.look h
 exact ⟨t, by rw [ho]; exact h1, hat⟩
theorem forced {L : List Line} {n k fuel : Nat} {a : Act} {w : World} (R : Reg ops L n) (hr : ups k 0 L = [k]) (hk : k < n) (h : wpOp P ops Q k (fun a' w' => S w' ∧ wpAnyH P .any ops Q S fuel (done n (k + 1)) a' w') a w) : wpAnyH P .any ops Q S (fuel + 1) (done n k) a w := by
 refine ⟨fun h0 => ?_, fun i hi => ?_⟩
 ·have := (mem_ready_done R.look R.size (Nat.le_of_lt hk)).2 (show k ∈ ups k 0 L by rw [hr]; simp)
  rw [h0] at this
  cases this
 ·obtain rfl := ready_one R.look R.size (Nat.le_of_lt hk) hr i hi
  rw [done_set hk]
  exact h
theorem value {L : List Line} {n k fuel d m : Nat} {op : Op} {g : Option (Nat × Bool)} {v : Value} {a : Act} {w w1 : World} (R : Reg ops L n) (hs : L[k]? = some (some d, op, g, m)) (hr : ups k 0 L = [k]) (hk : k < n)
  (hg : Open ops a g) (hS : S w1) (hv : ∀ ty, (execOp a.eval ⟨some d, op, ty, "", #[], none⟩).run P w = .ok (.value v) w1) (hd : d < a.tmps.size)
  (h : ∀ a', Next a a' d v → wpAnyH P .any ops Q S fuel (done n (k + 1)) a' w1) : wpAnyH P .any ops Q S (fuel + 1) (done n k) a w := by
 obtain ⟨o, ho, e1, e2, e3⟩ := line_get R.look hs
 subst e2 e3
 refine forced R hr hk (wpOp_step ho fun K hK => ?_)
 rw [if_pos hg.wanted]
 unfold Oper.wp
 rw [exec_shape, e1, hv]
 simp only [Oper.upon, e1]
 exact hK _ _ ⟨hS, h _ (next hd v)⟩
theorem take {L : List Line} {n k fuel d m : Nat} {op : Op} {g : Option (Nat × Bool)} {v : Value} {a : Act} {w : World} (R : Reg ops L n) (hs : L[k]? = some (some d, op, g, m)) (hr : (ups k 0 L).contains k = true) (hk : k < n)
  (hns : Region.noSelect ops = true) (hf : Region.free .any ops (done n k) k = true) (hQ : ∀ c a w d v, Q (.panic c) (Act.put a (some d) v) w → Q (.panic c) a w)
  (hg : Open ops a g) (hS : S w) (hv : ∀ w ty, S w → (execOp a.eval ⟨some d, op, ty, "", #[], none⟩).run P w = .ok (.value v) w) (hd : d < a.tmps.size)
  (h : ∀ a', Next a a' d v → wpAnyH P .any ops Q S fuel (done n (k + 1)) a' w) : wpAnyH P .any ops Q S (fuel + 1) (done n k) a w := by
 obtain ⟨o, ho, e1, e2, e3⟩ := line_get R.look hs
 subst e2 e3
 have hr' : (Region.ready .any ops (done n k)).contains k = true := by
  have := (mem_ready_done R.look R.size (Nat.le_of_lt hk)).2 (show k ∈ ups k 0 L by simpa using hr)
  simpa using this
 refine wpAnyH_take (oi := o) (v := v) ho hns hf hr' (fun c a w => by rw [e1]; exact hQ c a w d v) (.inl ⟨hg.wanted, fun w hw => ?_⟩) hS ?_
 ·rw [exec_shape, e1]; exact hv w _ hw
 ·rw [done_set hk, e1]; exact h _ (next hd v)
def enters (P : Program) (f : Nat) : Bool := (P.funcs[f]?).elim false fun fn => !(fn.name == "runtime.NumGoroutine") && fn.body.isSome
theorem run_enters {f : Nat} (h : enters P f = true) (args : Array Value) (w : World) : (callFunc f args).run P w = .ok (.enter f args) w := by
 unfold enters at h
 cases hf : P.funcs[f]? with
 | none => rw [hf] at h; cases h
 | some fn =>
  rw [hf] at h
  simp only [Option.elim_some, Bool.and_eq_true, Bool.not_eq_true'] at h
  obtain ⟨h0, h2⟩ := h
  have h1 : fn.name ≠ "runtime.NumGoroutine" := by simpa using h0
  obtain ⟨c, hb⟩ := Option.isSome_iff_exists.1 h2
  simp [callFunc, hf, h1, hb]
theorem call {L : List Line} {n k fuel d m f : Nat} {xs : Array Operand} {ts : Array TypeId} {args : Array Value} {g : Option (Nat × Bool)} {a : Act} {w : World} {Post : Ending → World → Prop} (R : Reg ops L n)
  (hs : L[k]? = some (some d, .call { callee := .value (.func f), args := xs, argTypes := ts }, g, m)) (hr : ups k 0 L = [k]) (hk : k < n)
  (hg : Open ops a g) (ha : xs.map a.eval = args) (hf : enters P f = true) (hc : Calls P f args w Post) (hd : d < a.tmps.size)
  (h : ∀ e w', Post e w' → ∃ v, e = .returned v ∧ S w' ∧ ∀ a', Next a a' d v → wpAnyH P .any ops Q S fuel (done n (k + 1)) a' w') : wpAnyH P .any ops Q S (fuel + 1) (done n k) a w := by
 obtain ⟨o, ho, e1, e2, e3⟩ := line_get R.look hs
 subst e3
 refine forced R hr hk (wpOp_step ho fun K hK => ?_)
 rw [if_pos hg.wanted]
 unfold Oper.wp
 have he : (execOp a.eval o).run P w = .ok (.enter f args) w := by
  rw [exec_shape, e1, e2]
  subst ha
  simp [execOp, resolve, invoke, Act.eval, Deferred.ofValue, run_enters hf]
 rw [he, Oper.upon_enter]
 refine hc.mono fun e w' hp => ?_
 obtain ⟨v, rfl, hS, hw⟩ := h e w' hp
 rw [e1]
 exact hK _ _ ⟨hS, hw _ (next hd v)⟩
theorem finish {L : List Line} {n fuel : Nat} {a : Act} {w : World} (R : Reg ops L n) (hr : ups n 0 L = []) (h : Q .normal a w) : wpAnyH P .any ops Q S fuel (done n n) a w := by
 refine wpAnyH_done (List.eq_nil_iff_forall_not_mem.2 fun i hi => ?_) h fuel
 have := (mem_ready_done R.look R.size (Nat.le_refl n)).1 hi
 rw [hr] at this
 cases this
theorem start {L : List Line} {n id : Nat} {a : Act} {w : World} (R : Reg ops L n) (hm : P.follows .mixedOrders = true) (hS : S w.drew) (h : wpAnyH P .any ops Q S n (done n 0) a w.drew) : (Code.region id ops true).wp P Q a w := by
 refine wp_region_held_drew (S := S) hm hS fun _ => ?_
 rw [R.size, ← done_zero]
 exact h
/-! What the operations yield. -/
variable {ρ : Operand → Value} {d : Option Tmp} {ty : TypeId} {w : World}
theorem ev_move {x : Operand} {v : Value} (h : ρ x = v) : (execOp ρ ⟨d, .move x, ty, "", #[], none⟩).run P w = .ok (.value v) w := by simp [execOp, h]
theorem ev_assign {x : Operand} {v : Value} (h : ρ x = v) : (execOp ρ ⟨d, .assign x, ty, "", #[], none⟩).run P w = .ok (.value v) w := by simp [execOp, h]
end
end Chain
