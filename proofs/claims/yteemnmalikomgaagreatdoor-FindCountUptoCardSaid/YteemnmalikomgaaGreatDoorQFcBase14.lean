/-
  Package find: At, Next, Last, Count of a machine in memory, and the reference's: what they tell of a text. A pattern that a statement of layers 16 and 17 reads, its machine; a line's signs. Package find's Next, Last and Count, and the reference's Next and Last: what they tell where At is told. A region that draws its order, gone through once, in every world of a class: what it reads stays there, and what it calls may make memory.
-/
import Derived.Test.YteemnmalikomgaaGreatDoorQFcBase12
import Derived.Test.YteemnmalikomgaaGreatDoorQFcBase13
import Derived.Test.YteemnmalikomgaaGreatDoorQFcBase0
import Derived.BigQuiet
namespace Go.Proofs.YteemnmalikomgaaGreatDoor
open Go.ChangeShapes Go.WideShapes Go.ChangeAt Go.RowKit
namespace NF
noncomputable def atI (l : List Int) (t : Nd) (n : Nat) (z : Int) : Int := if 0 ≤ z ∧ z ≤ (n : Int) then longI l t n z.toNat else 0
def LenP (v : Int) (w : World) (e : Ending) (w' : World) : Prop := e = .returned (.int .i64 v) ∧ Below w.heap.size w w'
def hitV (f : Nat → Int) : Option Nat → Value
 | .none => .tuple #[.int .i64 0, .int .i64 0, .bool false]
 | .some a => .tuple #[.int .i64 (a : Int), .int .i64 (f a), .bool true]
def HitP (f : Nat → Int) (o : Option Nat) (w : World) (e : Ending) (w' : World) : Prop := e = .returned (hitV f o) ∧ Below w.heap.size w w'
theorem last_wrap {l : List Int} {t : Nd} {n a m e : Nat} (ha : a ≤ n) (hn : n ≤ 1000000) (he : (endsL (fun e => Mat l t a e) (n + 1))[m]? = some e) : IntKind.i64.wrap ((e : Int) - (a : Int)) = (e : Int) - a := by
 have := endsL_lt (List.mem_of_getElem? he)
 exact IntWalk.i64_in _ (by omega)
set_option maxRecDepth 100000 in
set_option maxHeartbeats 3200000 in
theorem findAt_gen (L : List Nat) (P : Value) (A : Option Addr) (n c : Nat) (z : Int) (w : World) (hn : L.length ≤ 1000001) (hw : ∀ (m e : Nat), L[m]? = some e → IntKind.i64.wrap ((e : Int) - z) = (e : Int) - z)
  (EP : Calls Tryz.prog 16 #[P, .slice A n c, .int .i64 z] w fun e w' => EndsPost L w e w') :
  Calls Tryz.prog 28 #[P, .slice A n c, .int .i64 z] w fun e w' => LenP (longL L z) w e w' := by
 have E1 := Lib.hid EP
 have HW := Lib.hid hw
 unfold LenP
 clear EP hw
 go_enter Tryz.func28, Tryz.ntmps28
 go_wp2_with fail
 refine E1.out.mono ?_
 intro e w1 h1
 obtain ⟨A7, c7, rfl, hq, hc7, b1⟩ := ends_some h1
 have B1 := Lib.hid b1
 have HQ := Lib.hid hq
 clear h1 hq b1 E1
 obtain ⟨q, hqq⟩ : ∃ q, L.length = q := ⟨_, rfl⟩
 rw [hqq] at HQ hc7 hn ⊢
 cases q with
 | zero =>
  obtain rfl : L = [] := List.eq_nil_of_length_eq_zero hqq
  go_wp2_with fail
  go_ret
  exact ⟨rfl, B1.out⟩
 | succ m =>
  obtain ⟨e0, he⟩ : ∃ e, L[m]? = some e := ⟨_, List.getElem?_eq_getElem (by omega)⟩
  obtain ⟨b, off, rfl, _, hc⟩ := HQ.out.spot (by omega)
  have c0 : w1.cell? ⟨b, off + m, none⟩ = some (.int .i64 (e0 : Int)) := hc m _ (by unfold nums; rw [List.getElem?_map, he]; rfl)
  have h1 : ((m : Int) + 1 == 0) = false := by simp; omega
  have h2 : IntKind.i64.wrap ((m : Int) + 1 - 1) = (m : Int) := by rw [IntWalk.i64_in _ (by omega)]; omega
  have h3 : (0 : Int) ≤ (m : Int) := by omega
  have h4 : (m : Int) < (m : Int) + 1 := by omega
  have h5 := HW.out m e0 he
  have HL := Lib.hid (longL_last z hqq he)
  clear hc HW hqq he
  go_wp2_with fail
  go_ret
  exact ⟨by rw [HL.out]; rfl, B1.out⟩
set_option maxRecDepth 100000 in
set_option maxHeartbeats 3200000 in
theorem refAt_gen (L : List Nat) (x : Nv) (A : Option Addr) (n c : Nat) (z : Int) (w : World) (hn : L.length ≤ 1000001) (hw : ∀ (m e : Nat), L[m]? = some e → IntKind.i64.wrap ((e : Int) - z) = (e : Int) - z)
  (EP : ∀ w2, Below w.heap.size w w2 → Calls Tryz.prog 64 #[x.v, .slice A n c, .int .i64 z] w2 fun e w' => EndsPost L w2 e w') :
  Calls Tryz.prog 29 #[x.v, .slice A n c, .int .i64 z] w fun e w' => LenP (longL L z) w e w' := by
 obtain ⟨k, Ak, nk, ck, nt, A2, n2, c2, mn, mx⟩ := x
 obtain ⟨w1, hw1, k1, b1, z1⟩ := boxed_node w k Ak nk ck nt A2 n2 c2 mn mx
 obtain ⟨y0, y1, y2, y3, y4, y5⟩ := nv_bk k1
 have E1 := Lib.hid (EP w1 b1)
 have B0 := Lib.hid b1
 have HW := Lib.hid hw
 unfold LenP
 clear EP hw k1 b1 z1
 dsimp only [Nv.v] at E1 ⊢
 go_enter Tryz.func29, Tryz.ntmps29
 go_wp2_with fail
 refine E1.out.mono ?_
 intro e w1 h1
 obtain ⟨A7, c7, rfl, hq, hc7, b1⟩ := ends_some h1
 have B1 := Lib.hid (B0.out.trans (b1.mono B0.out.size))
 have HQ := Lib.hid hq
 clear h1 hq b1 E1
 obtain ⟨q, hqq⟩ : ∃ q, L.length = q := ⟨_, rfl⟩
 rw [hqq] at HQ hc7 hn ⊢
 cases q with
 | zero =>
  obtain rfl : L = [] := List.eq_nil_of_length_eq_zero hqq
  go_wp2_with fail
  go_ret
  exact ⟨rfl, B1.out⟩
 | succ m =>
  obtain ⟨e0, he⟩ : ∃ e, L[m]? = some e := ⟨_, List.getElem?_eq_getElem (by omega)⟩
  obtain ⟨b, off, rfl, _, hc⟩ := HQ.out.spot (by omega)
  have c0 : w1.cell? ⟨b, off + m, none⟩ = some (.int .i64 (e0 : Int)) := hc m _ (by unfold nums; rw [List.getElem?_map, he]; rfl)
  have h1 : ((m : Int) + 1 == 0) = false := by simp; omega
  have h2 : IntKind.i64.wrap ((m : Int) + 1 - 1) = (m : Int) := by rw [IntWalk.i64_in _ (by omega)]; omega
  have h3 : (0 : Int) ≤ (m : Int) := by omega
  have h4 : (m : Int) < (m : Int) + 1 := by omega
  have h5 := HW.out m e0 he
  have HL := Lib.hid (longL_last z hqq he)
  clear hc HW hqq he
  go_wp2_with fail
  go_ret
  exact ⟨by rw [HL.out]; rfl, B1.out⟩
theorem findAt_walk {w : World} {B p : Nat} {t : Nd} (h : Prg w B p t) (A : Option Addr) (n c : Nat) (l : List Int) (hn : n ≤ 1000000) (hB : B ≤ w.heap.size) (hl : l.length = n) (hq : Sq w w.heap.size 1 n A (runesV l)) (z : Int) :
  Calls Tryz.prog 28 #[.pointer (some ⟨p, 0, none⟩), .slice A n c, .int .i64 z] w fun e w' => LenP (atI l t n z) w e w' := by
 by_cases hz : 0 ≤ z ∧ z ≤ (n : Int)
 ·obtain ⟨a, rfl⟩ : ∃ a : Nat, z = (a : Int) := ⟨z.toNat, by omega⟩
  have e : atI l t n (a : Int) = longL (endsL (fun e => Mat l t a e) (n + 1)) (a : Int) := by unfold atI longI; rw [if_pos hz, Int.toNat_natCast]
  rw [e]
  exact findAt_gen _ _ A n c _ w (by have := endsL_len (fun e => Mat l t a e) (n + 1); omega) (fun m e he => last_wrap (by omega) hn he) (prg_ends h A n c a l (by omega) hn hB hl hq)
 ·have e : atI l t n z = longL [] z := by unfold atI; rw [if_neg hz]; rfl
  rw [e]
  exact findAt_gen [] _ A n c _ w (Nat.zero_le _) (fun m e he => by simp at he) (prg_out h A n c z (by omega))
theorem refAt_walk (t : Nd) (x : Nv) (lo : Nat) (w : World) (hct : may t = true) (hx : NdIn w lo w.heap.size t x) (A : Option Addr) (n c : Nat) (l : List Int) (hn : n ≤ 1000000) (hl : l.length = n) (hq : Sq w w.heap.size 1 n A (runesV l)) (z : Int) :
  Calls Tryz.prog 29 #[x.v, .slice A n c, .int .i64 z] w fun e w' => LenP (atI l t n z) w e w' := by
 by_cases hz : 0 ≤ z ∧ z ≤ (n : Int)
 ·obtain ⟨a, rfl⟩ : ∃ a : Nat, z = (a : Int) := ⟨z.toNat, by omega⟩
  have e : atI l t n (a : Int) = longL (endsL (fun e => Mat l t a e) (n + 1)) (a : Int) := by unfold atI longI; rw [if_pos hz, Int.toNat_natCast]
  rw [e]
  exact refAt_gen _ x A n c _ w (by have := endsL_len (fun e => Mat l t a e) (n + 1); omega) (fun m e he => last_wrap (by omega) hn he) fun w2 b => refEnds_in t x lo n A c a l w2 hct (ndIn_up (Nat.le_refl _) b.size (hx.below b)) ((hq.below b).up b.size) hl hn (by omega)
 ·have e : atI l t n z = longL [] z := by unfold atI; rw [if_neg hz]; rfl
  rw [e]
  exact refAt_gen [] x A n c _ w (Nat.zero_le _) (fun m e he => by simp at he) fun w2 _ => refEnds_out x A n c z w2 (by omega)
theorem atI_in (l : List Int) (t : Nd) (n a : Nat) (ha : a ≤ n) : atI l t n (a : Int) = longI l t n a := by unfold atI; rw [if_pos (by omega), Int.toNat_natCast]
end NF
end Go.Proofs.YteemnmalikomgaaGreatDoor
namespace Go.Proofs.YteemnmalikomgaaGreatDoor
open Go.ChangeShapes Go.WideShapes Go.ChangeAt Go.RowKit
namespace NF
def ProgP (s : ByteArray) (w : World) (e : Ending) (w' : World) : Prop :=
 ∃ (x : Nv) (P : Value) (ok : Bool), e = .returned (.tuple #[x.v, P, .bool ok]) ∧ Below w.heap.size w w' ∧
  (ok = true → ∃ t p, P = .pointer (some ⟨p, 0, none⟩) ∧ NdIn w' w.heap.size w'.heap.size t x ∧ Prg w' w'.heap.size p t ∧ parseS (shortT s 30) = .some t) ∧
  (∀ t, parseS (shortT s 30) = .some t → wt t ≤ 400 → deep t ≤ 10 → ok = true)
theorem light_iff {v u : Nat} (h : min v 1000000 = min u 1000000) : u ≤ 400 ↔ v ≤ 400 := by omega
theorem refWeight_400 (t : Nd) (x : Nv) (lo : Nat) (w : World) (hm : may t = true) (hx : NdIn w lo w.heap.size t x) :
  Calls Tryz.prog 19 #[x.v] w fun e w' => ∃ v : Nat, e = .returned (.int .i64 (v : Int)) ∧ v ≤ 1000001 ∧ (wt t ≤ 400 ↔ v ≤ 400) ∧ Below w.heap.size w w' := by
 refine (refWeight_walk (deep t) t x lo w.heap.size w (Nat.le_refl _) hm (Nat.le_refl _) hx).mono ?_
 rintro e w' ⟨v, rfl, h1, h2, h3⟩
 exact ⟨v, rfl, h1, light_iff h2, h3⟩
set_option maxRecDepth 100000 in
set_option maxHeartbeats 6400000 in
theorem prog_walk (re : ByteArray) (w : World) :
  Calls Tryz.prog 22 #[.string re] w fun e w' => ProgP re w e w' := by
 obtain ⟨w1, hw1, k1, b1, z1⟩ := new_node w 0 none 0 0 false none 0 0 0 0
 have K1 := Lib.hid k1
 have B1 := Lib.hid b1
 have Z1 := Lib.hid z1
 have SH := Lib.hid (fun wx => shortT_walk re 30 wx)
 unfold ProgP
 obtain ⟨T, hT⟩ : ∃ T, shortT re 30 = T := ⟨_, rfl⟩
 have hT40 : T.size ≤ 30 := by rw [← hT]; exact shortT_size re 30
 rw [hT] at SH
 rw [hT]
 clear hT k1 b1 z1
 go_enter Tryz.func22, Tryz.ntmps22
 go_wp2_with fail
 refine (SH.out w1).mono ?_
 rintro e w' ⟨rfl, rfl⟩
 have PW := Lib.hid (parse_walk T (by omega) w1)
 clear SH
 go_wp2_with fail
 refine PW.out.mono ?_
 intro e w2 hp
 have HP := Lib.hid hp
 clear hp PW hw1
 cases hps : parseS T with
 | none =>
  have HZ := HP.out
  have PS := Lib.hid hps
  rw [hps] at HZ
  obtain ⟨rfl, b2⟩ := HZ
  obtain ⟨w3, hw3, k3, b3, z3⟩ := new_node w2 0 none 0 0 false none 0 0 0 0
  obtain ⟨NB, hNB⟩ : ∃ b, w2.heap.size = b := ⟨_, rfl⟩
  have K3 := Lib.hid (hNB ▸ k3 : nodeBk w3 NB ⟨0, none, 0, 0, false, none, 0, 0, 0, 0⟩)
  have K0 := Lib.hid ((K1.out.below b2 K1.out.lt).below b3 (K1.out.below b2 K1.out.lt).lt)
  have B3 := Lib.hid (B1.out.trans ((b2.trans (b3.mono b2.size)).mono B1.out.size))
  have HW3 := Lib.hid hw3
  have HNB := Lib.hid hNB
  clear HP b2 hps k3 b3 z3 hw3 hNB
  obtain ⟨y0, y1, y2, y3, y4, y5⟩ := nv_bk K3.out
  try dsimp only [Nv.v, zeroV]
  go_upto_region 2 with fail
  rw [HNB.out]
  first
   | rw [HW3.out]
   | (change Code.wp _ _ _ _ (w2.alloc (.cells #[.int .i64 0, .slice none 0 0, .bool false, .slice none 0 0, .int .i64 0, .int .i64 0] 29)); rw [HW3.out])
  obtain ⟨⟨m0, o0⟩, ⟨m1, o1⟩, ⟨m2, o2⟩, ⟨m3, o3⟩, ⟨m4, o4⟩, ⟨m5, o5⟩, f0, f1, f2, f3, f4, f5⟩ := six_at (o := 0) K0.out (by simp)
  have PN := put_node K0.out ⟨0, none, 0, 0, false, none, 0, 0, 0, 0⟩
  go_wp2_with fail
  change bodyPost _ _ _ _ _ (put6 w3 w.heap.size 0 ⟨0, none, 0, 0, false, none, 0, 0, 0, 0⟩)
  have M := B3.out.trans ((put6_trn w3 w.heap.size 0 ⟨0, none, 0, 0, false, none, 0, 0, 0, 0⟩).toBelow B3.out.size fun k hk e => by omega)
  have T := put6_trn w3 w.heap.size 0 ⟨0, none, 0, 0, false, none, 0, 0, 0, 0⟩
  revert PN M T
  generalize put6 w3 w.heap.size 0 ⟨0, none, 0, 0, false, none, 0, 0, 0, 0⟩ = W
  intro PN M T
  obtain ⟨p0, p1, p2, p3, p4, p5⟩ := nv_bk PN
  refine bodyPost_ret (v := .tuple #[Nv.v ⟨0, none, 0, 0, false, none, 0, 0, 0, 0⟩, .pointer none, .bool false]) (by simp [results, Tryz.results22, Nv.v, go_sem, p0, p1, p2, p3, p4, p5] <;> rfl) rfl ?_
  exact ⟨zeroV, _, false, rfl, M, (fun h => by cases h), fun t h => by rw [PS.out] at h; cases h⟩
 | some t =>
  obtain ⟨k, A, nn, c, nt, A2, n2, c2, mn, mx, rfl, hx, b2⟩ := parsed HP.out hps
  obtain ⟨w3, hw3, k3, b3, z3⟩ := new_node w2 k A nn c nt A2 n2 c2 mn mx
  have PZ := parseS_small hps
  have hd40 : deep t ≤ 40 := by omega
  have hc80 : count t ≤ 2000 := by omega
  have MY := Lib.hid PZ.1
  have PS := Lib.hid hps
  have K0 := Lib.hid ((K1.out.below b2 K1.out.lt).below b3 (K1.out.below b2 K1.out.lt).lt)
  have B3 := Lib.hid (B1.out.trans ((b2.trans (b3.mono b2.size)).mono B1.out.size))
  have X3 := Lib.hid (ndO_in (fun b hb => hb) (ndO_below hx b3))
  have L0 := Lib.hid (show w.heap.size < w1.heap.size from by have := Z1.out; omega)
  have S3 := Lib.hid (show w1.heap.size ≤ w3.heap.size from Nat.le_trans b2.size b3.size)
  obtain ⟨NB, hNB⟩ : ∃ b, w2.heap.size = b := ⟨_, rfl⟩
  have Z3 := Lib.hid (show w3.heap.size = NB + 1 by omega)
  have K3 := Lib.hid (hNB ▸ k3 : nodeBk w3 NB ⟨k, A, nn, c, nt, A2, n2, c2, mn, mx⟩)
  have RW := Lib.hid (refWeight_400 t ⟨k, A, nn, c, nt, A2, n2, c2, mn, mx⟩ _ w3 PZ.1 X3.out)
  have HW3 := Lib.hid hw3
  have HNB := Lib.hid hNB
  obtain ⟨y0, y1, y2, y3, y4, y5⟩ := nv_bk K3.out
  clear hx b2 k3 b3 z3 hw3 hNB HP hps PZ
  try dsimp only [Nv.v] at RW ⊢
  go_upto_region 2 with fail
  rw [HNB.out]
  first
   | rw [HW3.out]
   | (change Code.wp _ _ _ _ (w2.alloc (.cells #[.int .i64 k, .slice A nn c, .bool nt, .slice A2 n2 c2, .int .i64 mn, .int .i64 mx] 29)); rw [HW3.out])
  go_wp2_with fail
  refine RW.out.mono ?_
  rintro e w4 ⟨v, rfl, hv1, hv2, b4⟩
  have B4 := Lib.hid (B3.out.trans (b4.mono B3.out.size))
  have Q4 := Lib.hid (K0.out.below b4 K0.out.lt)
  have K4 := Lib.hid (show nodeBk w4 NB ⟨k, A, nn, c, nt, A2, n2, c2, mn, mx⟩ from K3.out.below b4 (by have := Z3.out; omega))
  have X4 := Lib.hid (ndIn_up (Nat.le_refl _) b4.size (X3.out.below b4))
  have L4 := Lib.hid (show NB < w4.heap.size from by have := Z3.out; have := b4.size; omega)
  have S4 := Lib.hid (Nat.le_trans S3.out b4.size)
  clear b4 RW y0 y1 y2 y3 y4 y5
  obtain ⟨q0, q1, q2, q3, q4, q5⟩ := nv_bk K4.out
  by_cases hbig : 400 < v
  ·have hbi : (400 : Int) < (v : Int) := by omega
   have HB := Lib.hid (And.intro hbig hv2)
   clear hbig hv1 hv2
   obtain ⟨⟨m0, o0⟩, ⟨m1, o1⟩, ⟨m2, o2⟩, ⟨m3, o3⟩, ⟨m4, o4⟩, ⟨m5, o5⟩, f0, f1, f2, f3, f4, f5⟩ := six_at (o := 0) Q4.out (by simp)
   have PN := put_node Q4.out ⟨k, A, nn, c, nt, A2, n2, c2, mn, mx⟩
   go_wp2_with fail
   change bodyPost _ _ _ _ _ (put6 w4 w.heap.size 0 ⟨k, A, nn, c, nt, A2, n2, c2, mn, mx⟩)
   have M := B4.out.trans ((put6_trn w4 w.heap.size 0 ⟨k, A, nn, c, nt, A2, n2, c2, mn, mx⟩).toBelow B4.out.size fun k hk e => by omega)
   have T := put6_trn w4 w.heap.size 0 ⟨k, A, nn, c, nt, A2, n2, c2, mn, mx⟩
   revert PN M T
   generalize put6 w4 w.heap.size 0 ⟨k, A, nn, c, nt, A2, n2, c2, mn, mx⟩ = W
   intro PN M T
   obtain ⟨p0, p1, p2, p3, p4, p5⟩ := nv_bk PN
   refine bodyPost_ret (v := .tuple #[Nv.v ⟨k, A, nn, c, nt, A2, n2, c2, mn, mx⟩, .pointer none, .bool false]) (by simp [results, Tryz.results22, Nv.v, go_sem, p0, p1, p2, p3, p4, p5] <;> rfl) rfl ?_
   refine ⟨⟨k, A, nn, c, nt, A2, n2, c2, mn, mx⟩, _, false, rfl, M, (fun h => by cases h), fun t' h' hw' _ => ?_⟩
   rw [PS.out] at h'
   cases h'
   have := HB.out.2.1 hw'
   have := HB.out.1
   omega
  ·have hbi : ¬ (400 : Int) < (v : Int) := by omega
   have WT := Lib.hid (show wt t ≤ 400 from hv2.2 (by omega))
   have DW := Lib.hid (refDeep_some t ⟨k, A, nn, c, nt, A2, n2, c2, mn, mx⟩ _ w4 (by omega) X4.out)
   try dsimp only [Nv.v] at DW
   clear hv1 hv2 hbig
   go_wp2_with fail
   refine DW.out.mono ?_
   rintro e w5 ⟨rfl, b5⟩
   have B5 := Lib.hid (B4.out.trans (b5.mono B4.out.size))
   have Q5 := Lib.hid (Q4.out.below b5 Q4.out.lt)
   have K5 := Lib.hid (show nodeBk w5 NB ⟨k, A, nn, c, nt, A2, n2, c2, mn, mx⟩ from K4.out.below b5 L4.out)
   have X5 := Lib.hid (ndIn_up (Nat.le_refl _) b5.size (X4.out.below b5))
   have L5 := Lib.hid (Nat.lt_of_lt_of_le L4.out b5.size)
   have S5 := Lib.hid (Nat.le_trans S4.out b5.size)
   clear b5 DW q0 q1 q2 q3 q4 q5 K4 X4 L4
   obtain ⟨y0, y1, y2, y3, y4, y5⟩ := nv_bk K5.out
   by_cases hdeep : 10 < deep t
   ·have hdi : (10 : Int) < (deep t : Int) := by omega
    have HD := Lib.hid hdeep
    clear hdeep
    obtain ⟨⟨m0, o0⟩, ⟨m1, o1⟩, ⟨m2, o2⟩, ⟨m3, o3⟩, ⟨m4, o4⟩, ⟨m5, o5⟩, f0, f1, f2, f3, f4, f5⟩ := six_at (o := 0) Q5.out (by simp)
    have PN := put_node Q5.out ⟨k, A, nn, c, nt, A2, n2, c2, mn, mx⟩
    go_wp2_with fail
    change bodyPost _ _ _ _ _ (put6 w5 w.heap.size 0 ⟨k, A, nn, c, nt, A2, n2, c2, mn, mx⟩)
    have M := B5.out.trans ((put6_trn w5 w.heap.size 0 ⟨k, A, nn, c, nt, A2, n2, c2, mn, mx⟩).toBelow B5.out.size fun k hk e => by omega)
    have T := put6_trn w5 w.heap.size 0 ⟨k, A, nn, c, nt, A2, n2, c2, mn, mx⟩
    revert PN M T
    generalize put6 w5 w.heap.size 0 ⟨k, A, nn, c, nt, A2, n2, c2, mn, mx⟩ = W
    intro PN M T
    obtain ⟨p0, p1, p2, p3, p4, p5⟩ := nv_bk PN
    refine bodyPost_ret (v := .tuple #[Nv.v ⟨k, A, nn, c, nt, A2, n2, c2, mn, mx⟩, .pointer none, .bool false]) (by simp [results, Tryz.results22, Nv.v, go_sem, p0, p1, p2, p3, p4, p5] <;> rfl) rfl ?_
    refine ⟨⟨k, A, nn, c, nt, A2, n2, c2, mn, mx⟩, _, false, rfl, M, (fun h => by cases h), fun t' h' _ hd' => ?_⟩
    rw [PS.out] at h'
    cases h'
    have := HD.out
    omega
   ·have hdi : ¬ (10 : Int) < (deep t : Int) := by omega
    have CW := Lib.hid (compile_firm t ⟨k, A, nn, c, nt, A2, n2, c2, mn, mx⟩ _ w5 X5.out MY.out hd40 hc80 (by have := WT.out; omega))
    try dsimp only [Nv.v] at CW
    clear hdeep
    go_wp2_with fail
    refine CW.out.mono ?_
    rintro e w7 ⟨p, rfl, _, hfm, b7⟩
    have FM := Lib.hid hfm
    have B7 := Lib.hid (B5.out.trans (b7.mono B5.out.size))
    have Q7 := Lib.hid (Q5.out.below b7 Q5.out.lt)
    have X7 := Lib.hid (ndIn_up (Nat.le_refl _) b7.size (X5.out.below b7))
    have K7 := Lib.hid (show nodeBk w7 NB ⟨k, A, nn, c, nt, A2, n2, c2, mn, mx⟩ from K5.out.below b7 L5.out)
    clear hfm b7 CW y0 y1 y2 y3 y4 y5
    obtain ⟨q0, q1, q2, q3, q4, q5⟩ := nv_bk K7.out
    obtain ⟨⟨m0, o0⟩, ⟨m1, o1⟩, ⟨m2, o2⟩, ⟨m3, o3⟩, ⟨m4, o4⟩, ⟨m5, o5⟩, f0, f1, f2, f3, f4, f5⟩ := six_at (o := 0) Q7.out (by simp)
    have PN := put_node Q7.out ⟨k, A, nn, c, nt, A2, n2, c2, mn, mx⟩
    go_wp2_with fail
    change bodyPost _ _ _ _ _ (put6 w7 w.heap.size 0 ⟨k, A, nn, c, nt, A2, n2, c2, mn, mx⟩)
    have M := B7.out.trans ((put6_trn w7 w.heap.size 0 ⟨k, A, nn, c, nt, A2, n2, c2, mn, mx⟩).toBelow B7.out.size fun k hk e => by omega)
    have T := put6_trn w7 w.heap.size 0 ⟨k, A, nn, c, nt, A2, n2, c2, mn, mx⟩
    revert PN M T
    generalize put6 w7 w.heap.size 0 ⟨k, A, nn, c, nt, A2, n2, c2, mn, mx⟩ = W
    intro PN M T
    obtain ⟨p0, p1, p2, p3, p4, p5⟩ := nv_bk PN
    refine bodyPost_ret (v := .tuple #[Nv.v ⟨k, A, nn, c, nt, A2, n2, c2, mn, mx⟩, (.pointer (some ⟨p, 0, none⟩)), .bool true]) (by simp [results, Tryz.results22, Nv.v, go_sem, p0, p1, p2, p3, p4, p5] <;> rfl) rfl ?_
    refine ⟨⟨k, A, nn, c, nt, A2, n2, c2, mn, mx⟩, _, true, rfl, M, fun _ => ⟨t, p, rfl, ?_, FM.out w.heap.size W (by have := L0.out; have := S5.out; omega) T, PS.out⟩, fun _ _ _ _ => rfl⟩
    refine ndIn_up (lo := w1.heap.size) (B := w7.heap.size) (by have := L0.out; omega) T.size (ndIn_carry (fun q h1 h2 => ?_) X7.out)
    have e := T.block q.block h2 (by have := L0.out; omega)
    unfold World.cell?
    rw [e]
set_option maxRecDepth 100000 in
set_option maxHeartbeats 3200000 in
theorem text16_walk (s : ByteArray) (hs : s.size ≤ 274877906944) (w : World) : Calls Tryz.prog 23 #[.string s] w fun e w' => TextP s 25 w e w' := by
 have RW := Lib.hid (refAll_walk s hs w)
 unfold TextP
 unfold RefAllPost at RW
 obtain ⟨l, hl⟩ : ∃ l, runO st0 (octs s) = l := ⟨_, rfl⟩
 obtain ⟨q, hq⟩ : ∃ q, (runS st0 (octs s)).waits = q := ⟨_, rfl⟩
 rw [hl, hq] at RW
 rw [hl]
 have hln := runO_length (octs s) st0
 rw [hl, octs_length] at hln
 have LN := Lib.hid hln
 clear hl hq hln
 go_enter Tryz.func23, Tryz.ntmps23
 go_wp2_with fail
 refine RW.out.mono ?_
 rintro e w1 ⟨v, rfl, hh, b⟩
 obtain ⟨A, c, rfl⟩ := hh.shape
 have hsq := (hh.sq).2
 have hnc : l.length ≤ c := by
  rcases hh.2 with ⟨h1, h2⟩ | ⟨g, cap, cur, h1, _, _, h3, _⟩
  ·rw [h2]; exact Nat.zero_le _
  ·injection h1 with _ _ h1; omega
 obtain ⟨m, hm⟩ : ∃ m, min l.length 25 = m := ⟨_, rfl⟩
 have hmi : min (l.length : Int) 25 = (m : Int) := by omega
 have SQ := Lib.hid (show Sq w1 w1.heap.size 1 m A (runesV (l.take 25)) from by
  refine ⟨by simp [runesV]; omega, fun h0 => ?_⟩
  obtain ⟨b, off, e1, e2, e3⟩ := hsq.spot (by omega)
  refine ⟨b, off, e1, e2, fun j u hu => e3 j u ?_⟩
  have : runesV (l.take 25) = (l.map (Value.int .i32)).take 25 := by unfold runesV; rw [List.map_take]
  rw [this, List.getElem?_take] at hu
  split at hu
  ·exact hu
  ·cases hu)
 have TL := Lib.hid (show (l.take 25).length = m by rw [List.length_take]; omega)
 have BB := Lib.hid b
 have hmk : m ≤ 25 := by omega
 have hm0 : (0 : Int) ≤ (m : Int) := by omega
 have hmc : (m : Int) ≤ (c : Int) := by omega
 have hmc' : m ≤ c := by omega
 have hml : (m : Int) ≤ (l.length : Int) := by omega
 obtain ⟨n, hn⟩ : ∃ n, l.length = n := ⟨_, rfl⟩
 rw [hn] at hmi hml
 rw [hn]
 clear hh b RW hsq hnc hm hn
 go_wp2_with fail
 go_ret
 exact ⟨_, _, _, rfl, SQ.out, TL.out, hmk, hmc', BB.out⟩
end NF
end Go.Proofs.YteemnmalikomgaaGreatDoor
namespace Go.Proofs.YteemnmalikomgaaGreatDoor
open Go.ChangeShapes Go.WideShapes Go.ChangeAt Go.RowKit
namespace NF
def AtAll (F : FuncId) (P : Value) (A : Option Addr) (n c : Nat) (f : Nat → Int) (w : World) : Prop :=
 ∀ w2, Below w.heap.size w w2 → ∀ a : Nat, a ≤ n → Calls Tryz.prog F #[P, .slice A n c, .int .i64 (a : Int)] w2 fun e w' => LenP (f a) w2 e w'
theorem AtAll.below {F : FuncId} {P : Value} {A : Option Addr} {n c : Nat} {f : Nat → Int} {w w' : World} (h : AtAll F P A n c f w) (b : Below w.heap.size w w') : AtAll F P A n c f w' := fun w2 b2 => h w2 (b.trans (b2.mono b.size))
theorem findAtAll {w : World} {p : Nat} {t : Nd} (h : Prg w w.heap.size p t) (A : Option Addr) (n c : Nat) (l : List Int) (hn : n ≤ 1000000) (hl : l.length = n) (hq : Sq w w.heap.size 1 n A (runesV l)) :
  AtAll 28 (.pointer (some ⟨p, 0, none⟩)) A n c (longI l t n) w := fun w2 b a ha => by
 rw [← atI_in l t n a ha]
 exact findAt_walk (h.below b) A n c l hn b.size hl ((hq.below b).up b.size) _
theorem refAtAll (t : Nd) (x : Nv) (lo : Nat) (w : World) (hct : may t = true) (hx : NdIn w lo w.heap.size t x) (A : Option Addr) (n c : Nat) (l : List Int) (hn : n ≤ 1000000) (hl : l.length = n) (hq : Sq w w.heap.size 1 n A (runesV l)) :
  AtAll 29 x.v A n c (longI l t n) w := fun w2 b a ha => by
 rw [← atI_in l t n a ha]
 exact refAt_walk t x lo w2 hct (ndIn_up (Nat.le_refl _) b.size (hx.below b)) A n c l hn hl ((hq.below b).up b.size) _
set_option maxRecDepth 100000 in
set_option maxHeartbeats 3200000 in
theorem findNext_gen (f : Nat → Int) (P : Value) (A : Option Addr) (n c : Nat) (z : Int) (hz : -9223372036854775808 ≤ z ∧ z ≤ 9223372036854775807) (w : World) (hn : n ≤ 1000000) (CN : AtAll 28 P A n c f w) :
  Calls Tryz.prog 24 #[P, .slice A n c, .int .i64 z] w fun e w' => HitP f (nxt f z.toNat (n - z.toNat)) w e w' := by
 obtain ⟨i0, hi0⟩ : ∃ i0 : Nat, max z 0 = (i0 : Int) := ⟨(max z 0).toNat, by omega⟩
 rw [show z.toNat = i0 by omega]
 obtain ⟨o, ho⟩ : ∃ o, nxt f i0 (n - i0) = o := ⟨_, rfl⟩
 rw [ho]
 have HO := Lib.hid ho
 have C := Lib.hid CN
 unfold HitP
 clear CN ho
 go_enter Tryz.func24, Tryz.ntmps24
 go_wp2_with fail
 go_loopw [9] (fun v wr => ∃ i : Nat, v = .int .i64 (i : Int) ∧ Hid (nxt f i (n - i) = o) ∧ Hid (Below w.heap.size w wr)) (fun v _ => n - (intOf v).toNat)
 case atStart => exact ⟨i0, rfl, HO, Lib.hid (Below.refl _ _)⟩
 case round =>
  obtain ⟨i, rfl, NX, BW⟩ := hrel
  by_cases hlt : i < n
  ·have h1 : (i : Int) < (n : Int) := by omega
   have hw : IntKind.i64.wrap ((i : Int) + 1) = (i : Int) + 1 := IntWalk.i64_in _ (by omega)
   obtain ⟨k, hk⟩ : ∃ k, f i = k := ⟨_, rfl⟩
   have HK := Lib.hid hk
   have CA := Lib.hid (C.out wr (BW.out) i (by omega))
   rw [hk] at CA
   have NS := Lib.hid (show nxt f i (n - i) = if 0 < k then .some i else nxt f (i + 1) (n - (i + 1)) from by
    rw [show n - i = (n - (i + 1)) + 1 by omega, nxt, hk])
   clear hk
   go_wp2_with fail
   refine CA.out.mono ?_
   rintro e w2 ⟨rfl, b2⟩
   have B2 := Lib.hid (BW.out.trans (b2.mono BW.out.size))
   clear b2 CA
   by_cases h0 : 0 < k
   ·have E := Lib.hid (show hitV f o = .tuple #[.int .i64 (i : Int), .int .i64 k, .bool true] from by
     rw [← NX.out, NS.out, if_pos h0, hitV, HK.out])
    go_wp2_with fail
    refine bodyPost_ret (results_tmp3 (t := 6) (u := 7) (v := 8) rfl _ _ _) rfl ?_
    exact ⟨by rw [E.out]; rfl, B2.out⟩
   ·have N2 := Lib.hid (show nxt f (i + 1) (n - (i + 1)) = o from by rw [← NX.out, NS.out, if_neg h0])
    go_wp2_with fail
    go_roundw
    case rel => exact ⟨i + 1, by first | rfl | (congr 1; done) | (congr 1; omega), N2, B2⟩
    case measure => first | (simp [intOf]; done) | (simp [intOf]; omega)
  ·have h1 : ¬ (i : Int) < (n : Int) := by omega
   have E := Lib.hid (show hitV f o = .tuple #[.int .i64 0, .int .i64 0, .bool false] from by
    rw [← NX.out, show n - i = 0 by omega, nxt, hitV])
   go_wp2_with fail
   refine bodyPost_ret (results_tmp3 (t := 6) (u := 7) (v := 8) rfl _ _ _) rfl ?_
   exact ⟨by rw [E.out]; rfl, BW.out⟩
set_option maxRecDepth 100000 in
set_option maxHeartbeats 3200000 in
theorem refNext_gen (f : Nat → Int) (x : Nv) (A : Option Addr) (n c : Nat) (z : Int) (hz : -9223372036854775808 ≤ z ∧ z ≤ 9223372036854775807) (w : World) (hn : n ≤ 1000000) (CN : AtAll 29 x.v A n c f w) :
  Calls Tryz.prog 25 #[x.v, .slice A n c, .int .i64 z] w fun e w' => HitP f (nxt f z.toNat (n - z.toNat)) w e w' := by
 obtain ⟨k, Ak, nk, ck, nt, A2, n2, c2, mn, mx⟩ := x
 obtain ⟨w1, hw1, k1, b1, z1⟩ := boxed_node w k Ak nk ck nt A2 n2 c2 mn mx
 obtain ⟨y0, y1, y2, y3, y4, y5⟩ := nv_bk k1
 have K1 := Lib.hid k1
 have B1 := Lib.hid b1
 have Z1 := Lib.hid z1
 clear k1 b1 z1
 obtain ⟨i0, hi0⟩ : ∃ i0 : Nat, max z 0 = (i0 : Int) := ⟨(max z 0).toNat, by omega⟩
 rw [show z.toNat = i0 by omega]
 obtain ⟨o, ho⟩ : ∃ o, nxt f i0 (n - i0) = o := ⟨_, rfl⟩
 rw [ho]
 have HO := Lib.hid ho
 have C := Lib.hid CN
 unfold HitP
 clear CN ho
 dsimp only [Nv.v] at C ⊢
 go_enter Tryz.func25, Tryz.ntmps25
 go_wp2_with fail
 clear hw1 y0 y1 y2 y3 y4 y5
 go_loopw [9] (fun v wr => ∃ i : Nat, v = .int .i64 (i : Int) ∧ Hid (nxt f i (n - i) = o) ∧ Hid (Below w1.heap.size w1 wr)) (fun v _ => n - (intOf v).toNat)
 case atStart => exact ⟨i0, rfl, HO, Lib.hid (Below.refl _ _)⟩
 case round =>
  obtain ⟨i, rfl, NX, BW⟩ := hrel
  obtain ⟨x0, x1, x2, x3, x4, x5⟩ := nv_bk (K1.out.below BW.out (by have := Z1.out; omega))
  by_cases hlt : i < n
  ·have h1 : (i : Int) < (n : Int) := by omega
   have hw : IntKind.i64.wrap ((i : Int) + 1) = (i : Int) + 1 := IntWalk.i64_in _ (by omega)
   obtain ⟨k, hk⟩ : ∃ k, f i = k := ⟨_, rfl⟩
   have HK := Lib.hid hk
   have CA := Lib.hid (C.out wr (B1.out.trans (BW.out.mono B1.out.size)) i (by omega))
   rw [hk] at CA
   have NS := Lib.hid (show nxt f i (n - i) = if 0 < k then .some i else nxt f (i + 1) (n - (i + 1)) from by
    rw [show n - i = (n - (i + 1)) + 1 by omega, nxt, hk])
   clear hk
   go_wp2_with fail
   refine CA.out.mono ?_
   rintro e w2 ⟨rfl, b2⟩
   have B2 := Lib.hid (BW.out.trans (b2.mono BW.out.size))
   clear b2 CA
   by_cases h0 : 0 < k
   ·have E := Lib.hid (show hitV f o = .tuple #[.int .i64 (i : Int), .int .i64 k, .bool true] from by
     rw [← NX.out, NS.out, if_pos h0, hitV, HK.out])
    go_wp2_with fail
    refine bodyPost_ret (results_tmp3 (t := 6) (u := 7) (v := 8) rfl _ _ _) rfl ?_
    exact ⟨by rw [E.out]; rfl, B1.out.trans (B2.out.mono B1.out.size)⟩
   ·have N2 := Lib.hid (show nxt f (i + 1) (n - (i + 1)) = o from by rw [← NX.out, NS.out, if_neg h0])
    go_wp2_with fail
    go_roundw
    case rel => exact ⟨i + 1, by first | rfl | (congr 1; done) | (congr 1; omega), N2, B2⟩
    case measure => first | (simp [intOf]; done) | (simp [intOf]; omega)
  ·have h1 : ¬ (i : Int) < (n : Int) := by omega
   have E := Lib.hid (show hitV f o = .tuple #[.int .i64 0, .int .i64 0, .bool false] from by
    rw [← NX.out, show n - i = 0 by omega, nxt, hitV])
   go_wp2_with fail
   refine bodyPost_ret (results_tmp3 (t := 6) (u := 7) (v := 8) rfl _ _ _) rfl ?_
   exact ⟨by rw [E.out]; rfl, B1.out.trans (BW.out.mono B1.out.size)⟩
set_option maxRecDepth 100000 in
set_option maxHeartbeats 3200000 in
theorem findLast_gen (f : Nat → Int) (P : Value) (A : Option Addr) (n c : Nat) (z : Int) (hz : -9223372036854775808 ≤ z ∧ z ≤ 9223372036854775807) (w : World) (hn : n ≤ 1000000) (CN : AtAll 28 P A n c f w) :
  Calls Tryz.prog 26 #[P, .slice A n c, .int .i64 z] w fun e w' => HitP f (lst f (min z.toNat n)) w e w' := by
 obtain ⟨m0, hm0⟩ : ∃ m0 : Int, min z (n : Int) = m0 := ⟨_, rfl⟩
 have hm1 : m0 ≤ (n : Int) := by omega
 rw [show min z.toNat n = m0.toNat by omega]
 obtain ⟨o, ho⟩ : ∃ o, lst f m0.toNat = o := ⟨_, rfl⟩
 rw [ho]
 have HO := Lib.hid ho
 have C := Lib.hid CN
 unfold HitP
 clear CN ho
 go_enter Tryz.func26, Tryz.ntmps26
 go_wp2_with fail
 go_loopw [9] (fun v wr => ∃ m : Int, v = .int .i64 m ∧ m ≤ (n : Int) ∧ Hid (lst f m.toNat = o) ∧ Hid (Below w.heap.size w wr)) (fun v _ => (intOf v).toNat)
 case atStart => exact ⟨m0, rfl, hm1, HO, Lib.hid (Below.refl _ _)⟩
 case round =>
  obtain ⟨m, rfl, hin, NX, BW⟩ := hrel
  by_cases hlt : 0 < m
  ·obtain ⟨j, rfl⟩ : ∃ j : Nat, m = (j : Int) + 1 := ⟨(m - 1).toNat, by omega⟩
   have hw : IntKind.i64.wrap ((j : Int) + 1 - 1) = (j : Int) := by rw [IntWalk.i64_in _ (by omega)]; omega
   have hjt : ((j : Int) + 1).toNat = j + 1 := by omega
   rw [hjt] at NX
   obtain ⟨k, hk⟩ : ∃ k, f j = k := ⟨_, rfl⟩
   have HK := Lib.hid hk
   have CA := Lib.hid (C.out wr (BW.out) j (by omega))
   rw [hk] at CA
   have NS := Lib.hid (show lst f (j + 1) = if 0 < k then .some j else lst f j from by rw [lst, hk])
   clear hk
   go_wp2_with fail
   refine CA.out.mono ?_
   rintro e w2 ⟨rfl, b2⟩
   have B2 := Lib.hid (BW.out.trans (b2.mono BW.out.size))
   clear b2 CA
   by_cases h0 : 0 < k
   ·have E := Lib.hid (show hitV f o = .tuple #[.int .i64 (j : Int), .int .i64 k, .bool true] from by
     rw [← NX.out, NS.out, if_pos h0, hitV, HK.out])
    go_wp2_with fail
    refine bodyPost_ret (results_tmp3 (t := 6) (u := 7) (v := 8) rfl _ _ _) rfl ?_
    exact ⟨by rw [E.out]; rfl, B2.out⟩
   ·have N2 := Lib.hid (show lst f j = o from by rw [← NX.out, NS.out, if_neg h0])
    go_wp2_with fail
    go_roundw
    case rel => exact ⟨(j : Int), rfl, by omega, by rw [Int.toNat_natCast]; exact N2, B2⟩
    case measure => first | (simp [intOf]; done) | (simp [intOf]; omega)
  ·have hm0 : m.toNat = 0 := by omega
   rw [hm0] at NX
   have E := Lib.hid (show hitV f o = .tuple #[.int .i64 0, .int .i64 0, .bool false] from by
    rw [← NX.out, lst, hitV])
   go_wp2_with fail
   refine bodyPost_ret (results_tmp3 (t := 6) (u := 7) (v := 8) rfl _ _ _) rfl ?_
   exact ⟨by rw [E.out]; rfl, BW.out⟩
set_option maxRecDepth 100000 in
set_option maxHeartbeats 3200000 in
theorem refLast_gen (f : Nat → Int) (x : Nv) (A : Option Addr) (n c : Nat) (z : Int) (hz : -9223372036854775808 ≤ z ∧ z ≤ 9223372036854775807) (w : World) (hn : n ≤ 1000000) (CN : AtAll 29 x.v A n c f w) :
  Calls Tryz.prog 27 #[x.v, .slice A n c, .int .i64 z] w fun e w' => HitP f (lst f (min z.toNat n)) w e w' := by
 obtain ⟨k, Ak, nk, ck, nt, A2, n2, c2, mn, mx⟩ := x
 obtain ⟨w1, hw1, k1, b1, z1⟩ := boxed_node w k Ak nk ck nt A2 n2 c2 mn mx
 obtain ⟨y0, y1, y2, y3, y4, y5⟩ := nv_bk k1
 have K1 := Lib.hid k1
 have B1 := Lib.hid b1
 have Z1 := Lib.hid z1
 clear k1 b1 z1
 obtain ⟨i0, hi0⟩ : ∃ i0 : Nat, min (max z 0) (n : Int) = (i0 : Int) := ⟨(min (max z 0) (n : Int)).toNat, by omega⟩
 have hi2 : i0 ≤ n := by omega
 have hi1 : IntKind.i64.wrap ((i0 : Int) - 1) = (i0 : Int) - 1 := IntWalk.i64_in _ (by omega)
 rw [show min z.toNat n = i0 by omega]
 obtain ⟨o, ho⟩ : ∃ o, lst f i0 = o := ⟨_, rfl⟩
 rw [ho]
 have HO := Lib.hid ho
 have C := Lib.hid CN
 unfold HitP
 clear CN ho
 dsimp only [Nv.v] at C ⊢
 go_enter Tryz.func27, Tryz.ntmps27
 go_wp2_with fail
 clear hw1 y0 y1 y2 y3 y4 y5
 go_loopw [9] (fun v wr => ∃ i : Nat, v = .int .i64 ((i : Int) - 1) ∧ i ≤ n ∧ Hid (lst f i = o) ∧ Hid (Below w1.heap.size w1 wr)) (fun v _ => (intOf v + 1).toNat)
 case atStart => exact ⟨i0, rfl, hi2, HO, Lib.hid (Below.refl _ _)⟩
 case round =>
  obtain ⟨i, rfl, hin, NX, BW⟩ := hrel
  obtain ⟨x0, x1, x2, x3, x4, x5⟩ := nv_bk (K1.out.below BW.out (by have := Z1.out; omega))
  by_cases hlt : 0 < i
  ·obtain ⟨j, rfl⟩ : ∃ j, i = j + 1 := ⟨i - 1, by omega⟩
   have h1 : ((j + 1 : Nat) : Int) - 1 = (j : Int) := by omega
   rw [h1]
   have h0 : (0 : Int) ≤ (j : Int) := by omega
   have hw : IntKind.i64.wrap ((j : Int) - 1) = (j : Int) - 1 := IntWalk.i64_in _ (by omega)
   obtain ⟨k, hk⟩ : ∃ k, f j = k := ⟨_, rfl⟩
   have HK := Lib.hid hk
   have CA := Lib.hid (C.out wr (B1.out.trans (BW.out.mono B1.out.size)) j (by omega))
   rw [hk] at CA
   have NS := Lib.hid (show lst f (j + 1) = if 0 < k then .some j else lst f j from by rw [lst, hk])
   clear hk
   go_wp2_with fail
   refine CA.out.mono ?_
   rintro e w2 ⟨rfl, b2⟩
   have B2 := Lib.hid (BW.out.trans (b2.mono BW.out.size))
   clear b2 CA
   by_cases h0 : 0 < k
   ·have E := Lib.hid (show hitV f o = .tuple #[.int .i64 (j : Int), .int .i64 k, .bool true] from by
     rw [← NX.out, NS.out, if_pos h0, hitV, HK.out])
    go_wp2_with fail
    refine bodyPost_ret (results_tmp3 (t := 6) (u := 7) (v := 8) rfl _ _ _) rfl ?_
    exact ⟨by rw [E.out]; rfl, B1.out.trans (B2.out.mono B1.out.size)⟩
   ·have N2 := Lib.hid (show lst f j = o from by rw [← NX.out, NS.out, if_neg h0])
    go_wp2_with fail
    go_roundw
    case rel => exact ⟨j, by first | rfl | (congr 1; done) | (congr 1; omega), by omega, N2, B2⟩
    case measure => first | (simp [intOf]; done) | (simp [intOf]; omega)
  ·have h1 : ¬ (0 : Int) ≤ (i : Int) - 1 := by omega
   obtain rfl : i = 0 := by omega
   have E := Lib.hid (show hitV f o = .tuple #[.int .i64 0, .int .i64 0, .bool false] from by
    rw [← NX.out, lst, hitV])
   go_wp2_with fail
   refine bodyPost_ret (results_tmp3 (t := 6) (u := 7) (v := 8) rfl _ _ _) rfl ?_
   exact ⟨by rw [E.out]; rfl, B1.out.trans (BW.out.mono B1.out.size)⟩
set_option maxRecDepth 100000 in
set_option maxHeartbeats 3200000 in
theorem findCount_gen (f : Nat → Int) (P : Value) (A : Option Addr) (n c : Nat) (w : World) (hn : n ≤ 1000000) (hf : ∀ a, a ≤ n → f a ≤ (n : Int) - a) (CN : AtAll 28 P A n c f w) :
  Calls Tryz.prog 30 #[P, .slice A n c] w fun e w' => LenP (cnt f 0 n : Int) w e w' := by
 obtain ⟨q, hq⟩ : ∃ q, cnt f 0 n = q := ⟨_, rfl⟩
 have hqn : q ≤ 1000000 := by have := cnt_le f n 0; omega
 rw [hq]
 have HQ := Lib.hid hq
 have HF := Lib.hid hf
 have C := Lib.hid CN
 unfold LenP
 clear CN hq hf
 go_enter Tryz.func30, Tryz.ntmps30
 go_wp2_with fail
 go_loopw [5, 6] (fun u v wr => ∃ d i : Nat, u = .int .i64 (d : Int) ∧ v = .int .i64 (i : Int) ∧ i ≤ n ∧ d ≤ q ∧ Hid (d + cnt f i (n - i) = q) ∧ Hid (Below w.heap.size w wr)) (fun _ v _ => n - (intOf v).toNat)
 case atStart => exact ⟨0, 0, rfl, rfl, Nat.zero_le _, Nat.zero_le _, Lib.hid (by rw [Nat.zero_add, Nat.sub_zero]; exact HQ.out), Lib.hid (Below.refl _ _)⟩
 case round =>
  obtain ⟨d, i, rfl, rfl, hin, hdq, CT, BW⟩ := hrel
  have NX := Lib.hid (findNext_gen f P A n c (i : Int) (by omega) wr hn (C.out.below BW.out))
  rw [Int.toNat_natCast] at NX
  obtain ⟨o, ho⟩ : ∃ o, nxt f i (n - i) = o := ⟨_, rfl⟩
  rw [ho] at NX
  have hwd : IntKind.i64.wrap ((d : Int) + 1) = (d : Int) + 1 := IntWalk.i64_in _ (by omega)
  cases o with
  | none =>
   have E := Lib.hid (show (d : Int) = (q : Int) from by have := CT.out; rw [cnt_none ho] at this; omega)
   clear ho
   unfold HitP hitV at NX
   go_wp2_with fail
   refine NX.out.mono ?_
   rintro e w2 ⟨rfl, b2⟩
   have B2 := Lib.hid (BW.out.trans (b2.mono BW.out.size))
   clear b2 NX
   go_wp2_with fail
   go_ret
   exact ⟨by rw [E.out]; rfl, B2.out⟩
  | some b =>
   obtain ⟨hb1, hb2, hb3⟩ := nxt_in ho
   have hb4 := HF.out b (by omega)
   obtain ⟨k, hk⟩ : ∃ k : Nat, f b = (k : Int) := ⟨(f b).toNat, by omega⟩
   have CS := Lib.hid (show d + 1 + cnt f (b + k) (n - (b + k)) = q from by
    have := CT.out
    rw [cnt_some ho, hk, Int.toNat_natCast, show i + (n - i) - (b + k) = n - (b + k) by omega] at this
    omega)
   unfold HitP hitV at NX
   dsimp only at NX
   rw [hk] at NX hb3 hb4
   have hwb : IntKind.i64.wrap ((b : Int) + (k : Int)) = (b : Int) + (k : Int) := IntWalk.i64_in _ (by omega)
   clear ho hk
   go_wp2_with fail
   refine NX.out.mono ?_
   rintro e w2 ⟨rfl, b2⟩
   have B2 := Lib.hid (BW.out.trans (b2.mono BW.out.size))
   clear b2 NX
   go_wp2_with fail
   go_roundw
   case rel => exact ⟨d + 1, b + k, by first | rfl | (congr 1; done) | (congr 1; omega), by first | rfl | (congr 1; done) | (congr 1; omega), by omega, by have := CS.out; omega, CS, B2⟩
   case measure => first | (simp [intOf]; done) | (simp [intOf]; omega)
theorem hitV_any (f : Nat → Int) (o : Option Nat) : ∃ (u v : Int) (b : Bool), hitV f o = .tuple #[.int .i64 u, .int .i64 v, .bool b] := by
 cases o with
 | none => exact ⟨0, 0, false, rfl⟩
 | some a => exact ⟨_, _, true, rfl⟩
end NF
end Go.Proofs.YteemnmalikomgaaGreatDoor
namespace Go.Proofs.YteemnmalikomgaaGreatDoor
open Go.ChangeShapes Go.WideShapes Go.ChangeAt Go.RowKit
namespace ClsB
theorem region {P : Program} {id : Nat} {Q : Exit → Act → World → Prop} {a : Act} {w : World} {l : List Oper} {I : Type} (F : I → World) (h0 : ∃ n, w.drew = F n) (hm : P.follows .mixedOrders = true) (hB : Region.lexB .any l.toArray = true)
  (h : wpQuiet P l.toArray (fun w' => ∃ n, w' = F n) (fun a' => ∀ w', (∃ n, w' = F n) → Q .normal a' w') l a) : (Code.region id l.toArray true).wp P Q a w :=
 wp_region_quiet (C := fun w' => ∃ n, w' = F n) hm hB h0 (by simpa using h)
theorem below (w : World) : ∃ (I : Type) (_ : Nonempty I) (F : I → World), (∃ n, w.drew = F n) ∧ (∀ n, Below w.heap.size w (F n)) ∧ ∀ n W, Below (F n).heap.size (F n) W → ∃ m, W = F m :=
 ⟨{ W : World // Below w.heap.size w W }, ⟨⟨w, Below.refl _ _⟩⟩, Subtype.val, ⟨⟨w.drew, (Below.refl _ _).drew⟩, rfl⟩, fun n => n.2, fun n W h => ⟨⟨W, n.2.trans (h.mono n.2.size)⟩, rfl⟩⟩
end ClsB
end Go.Proofs.YteemnmalikomgaaGreatDoor
