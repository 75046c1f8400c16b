/-
  The reference's One and value, walked. The reference's value, walked. The reference's All, walked: it tells what the machine of utf tells. The signs of any bytes are signs of 32 bits. feed: a text to a screen, event by event. rotulusref1.EqRows of rows that are the same. What the statements on utf share: Short; how a list of signs grows by another one; what is told at an end. A screen beside what stood before it: what the statements of layer 9 share. screen: Size, Attr; the rows that go out.
-/
import Derived.Test.YtaclmhopcfgbmaaGreatDoorQLaw0
import Derived.Deep.QuietTactic
import Derived.BigQuiet
import Derived.Test.YtaclmhopcfgbmaaGreatDoorQBase3
import Derived.Test.YtaclmhopcfgbmaaGreatDoorQBase1
import Derived.Test.YtaclmhopcfgbmaaGreatDoorQEscRef1
import Derived.Test.YtaclmhopcfgbmaaGreatDoorQBegun0
import Derived.Test.YtaclmhopcfgbmaaGreatDoorQScr3
import Derived.StillTailTactics
import Derived.Test.YtaclmhopcfgbmaaGreatDoorQBase6
import Derived.Laws.IdiomStrings
namespace Go.Proofs.YtaclmhopcfgbmaaGreatDoor
open Go.ChangeShapes Go.WideShapes Go.ChangeAt Go.RowKit
theorem nth_zero (a : Int) (l : List Int) : nth (a :: l) 0 = a := rfl
theorem nth_succ (a : Int) (l : List Int) (j : Nat) : nth (a :: l) (j + 1) = nth l j := rfl
theorem mt_lt : ∀ (lo hi s : List Int) (j : Nat), j < mt lo hi s → j < lo.length ∧ j < hi.length ∧ j < s.length ∧ nth lo j ≤ nth s j ∧ nth s j ≤ nth hi j
 | [], _, _, j, h => by simp [mt] at h
 | _ :: _, [], _, j, h => by simp [mt] at h
 | _ :: _, _ :: _, [], j, h => by simp [mt] at h
 | a :: lo, b :: hi, x :: s, j, h => by
  by_cases hx : a ≤ x ∧ x ≤ b
  ·rw [mt_yes hx] at h
   cases j with
   | zero => exact ⟨by simp, by simp, by simp, hx.1, hx.2⟩
   | succ j =>
    have := mt_lt lo hi s j (by omega)
    simp only [List.length_cons, nth_succ]
    omega
  ·rw [mt_no hx] at h; omega
theorem mt_stop : ∀ (lo hi s : List Int), lo.length = hi.length → mt lo hi s = lo.length ∨ (mt lo hi s < lo.length ∧ (mt lo hi s = s.length ∨ (mt lo hi s < s.length ∧ (nth s (mt lo hi s) < nth lo (mt lo hi s) ∨ (nth lo (mt lo hi s) ≤ nth s (mt lo hi s) ∧ nth hi (mt lo hi s) < nth s (mt lo hi s))))))
 | [], _, _, _ => by simp [mt]
 | _ :: _, [], _, h => by simp at h
 | _ :: _, _ :: _, [], _ => by simp [mt]
 | a :: lo, b :: hi, x :: s, h => by
  by_cases hx : a ≤ x ∧ x ≤ b
  ·have := mt_stop lo hi s (by simpa using h)
   rw [mt_yes hx]
   simp only [List.length_cons, nth_succ]
   omega
  ·rw [mt_no hx]
   simp only [List.length_cons, nth_zero]
   omega
theorem Octs.at {w w' : World} {B g : Nat} {l : List Int} (h : Octs w g l) (hb : Below B w w') (hB : w.heap.size ≤ B) {j : Nat} (hj : j < l.length) : w'.cell? ⟨g, j, none⟩ = some (.int .u8 (nth l j)) :=
 (h.below hb hB).2 j _ (by rw [nth_get hj]; simp [hj])
theorem below_drewN' {B : Nat} {a w : World} (h : Below B a w) (q : Nat) : Below B a (w.drewN q) := ⟨h.os, h.tape, h.output, h.size, h.block⟩
theorem ret_pair {p : Nat × Bool} {n : Nat} {b : Bool} (h : p = (n, b)) : Ending.returned (.tuple #[.int .i64 n, .bool b]) = .returned (.tuple #[.int .i64 p.1, .bool p.2]) := by rw [h]
theorem max_if (best j : Nat) : Value.int .i64 (if best < j then (j : Int) else (best : Int)) = .int .i64 ((max best j : Nat) : Int) := by split <;> congr 1 <;> omega
theorem form_sizes : ∀ f ∈ formL, f.1.length = f.2.length ∧ 1 ≤ f.1.length ∧ f.1.length ≤ 4 := by decide
set_option maxRecDepth 100000 in
set_option maxHeartbeats 4000000 in
theorem refOne_walk (s : ByteArray) (hs : s.size ≤ 274877906944) (w : World) :
  Calls Tryz.prog 111 #[.string s] w fun e w' => e = .returned (.tuple #[.int .i64 (oneL (octs s)).1, .bool (oneL (octs s)).2]) ∧ Below w.heap.size w w' := by
 have LS := Lib.hid (octs_length s)
 go_enter Tryz.func111, Tryz.ntmps111
 go_wp2_with (go_at_call 135; refine (forms_walk _).mono ?_; rintro e w1 ⟨g, rfl, hg, hF, hb1⟩)
 have F := Lib.hid hF
 have B1 := Lib.hid hb1
 clear hF hb1 hg
 go_loopw [5, 6] (fun b i wr => ∃ k best : Nat, k ≤ 9 ∧ b = .int .i64 best ∧ i = .int .i64 k ∧ Hid (oneGo (octs s) (formL.drop k) best = oneL (octs s)) ∧ Below w1.heap.size w1 wr ∧ best ≤ 4) (fun _ i _ => 9 - (intOf i).toNat)
 case atStart => exact ⟨0, 0, by omega, rfl, rfl, Lib.hid rfl, Below.refl _ _, by omega⟩
 case round =>
  obtain ⟨k, best, hk, rfl, rfl, GO, hb, hbest⟩ := hrel
  by_cases hlt : k < 9
  ·obtain ⟨f, hf⟩ : ∃ f, formL[k]? = some f := ⟨formL[k], List.getElem?_eq_getElem hlt⟩
   obtain ⟨a, b, ca, cb, oa, ob⟩ := F.out.2 k f hf
   obtain ⟨z1, z2, z3⟩ := form_sizes f (List.mem_of_getElem? hf)
   have hdrop : formL.drop k = f :: formL.drop (k + 1) := by
    obtain ⟨h1, h2⟩ := List.getElem?_eq_some_iff.1 hf
    rw [List.drop_eq_getElem_cons h1, h2]
   have HD := Lib.hid hdrop
   clear hdrop hf
   obtain ⟨lo, hi⟩ := f
   obtain ⟨L, hL⟩ : ∃ L, lo.length = L := ⟨_, rfl⟩
   simp only at z1 z2 z3 ca cb oa ob
   rw [hL] at ca cb z2 z3
   have ST := mt_stop lo hi (octs s) z1
   have LT := mt_lt lo hi (octs s)
   have ML := mt_le lo hi (octs s)
   rw [hL] at ST ML
   have HL := Lib.hid hL
   have Z1 := Lib.hid z1
   clear hL z1
   obtain ⟨M, hM⟩ : ∃ M, mt lo hi (octs s) = M := ⟨_, rfl⟩
   rw [hM] at ST ML LT
   have HM := Lib.hid hM
   clear hM
   have ST' := Lib.hid ST
   have LT' := Lib.hid LT
   clear ST LT
   rw [show 2 * k = k * 2 by omega] at ca cb
   have K0 := Lib.hid ca
   have K1 := Lib.hid cb
   have OA := Lib.hid oa
   have OB := Lib.hid ob
   clear ca cb oa ob
   obtain ⟨wo, rfl⟩ : ∃ wo : World, wo = wr := ⟨_, rfl⟩
   have HB := Lib.hid hb
   clear hb
   go_wp2_with fail
   go_loopw [7] (fun n wr => ∃ j : Nat, n = .int .i64 j ∧ j ≤ M ∧ Below w1.heap.size w1 wr) (fun n _ => M - (intOf n).toNat)
   case atStart => exact ⟨0, rfl, Nat.zero_le _, HB.out⟩
   case round =>
    obtain ⟨j, rfl, hj, hbi⟩ := hrel
    have k0 : wr.cell? ⟨g, k * 2, none⟩ = some (.slice (some ⟨a, 0, none⟩) L L) := (hbi.cell (p := ⟨g, k * 2, none⟩) F.out.1).trans K0.out
    have k1 : wr.cell? ⟨g, k * 2 + 1, none⟩ = some (.slice (some ⟨b, 0, none⟩) L L) := (hbi.cell (p := ⟨g, k * 2 + 1, none⟩) F.out.1).trans K1.out
    have HI := Lib.hid hbi
    have FA := Lib.hid (fun (h : j < L) => OA.out.at hbi (Nat.le_refl _) (j := j) (by rw [HL.out]; exact h))
    have FB := Lib.hid (fun (h : j < L) => OB.out.at hbi (Nat.le_refl _) (j := j) (by rw [← Z1.out, HL.out]; exact h))
    clear hbi
    by_cases hjm : j < M
    ·obtain ⟨q1, _, q3, q4, q5⟩ := LT'.out j hjm
     rw [HL.out] at q1
     rw [LS.out] at q3
     have e := nth_octs s j q3
     rw [e] at q4 q5
     have fa := FA.out q1
     have fb := FB.out q1
     clear e
     go_wp2_with fail
     go_quiet (fail)
     go_wp2
     go_roundw
     case rel => exact ⟨j + 1, by go_num, by omega, below_drewN' HI.out _⟩
     case measure => simp [intOf]; omega
    ·obtain rfl : j = M := by omega
     have hfin : ∀ e : oneGo (octs s) (formL.drop k) best = oneL (octs s), (j = L → oneL (octs s) = (j, true)) ∧ (j ≠ L → oneGo (octs s) (formL.drop (k + 1)) (max best j) = oneL (octs s)) := by
      intro e
      rw [HD.out] at e
      unfold oneGo at e
      simp only [HM.out, HL.out] at e
      refine ⟨fun h => ?_, fun h => ?_⟩
      ·rw [if_pos h] at e; exact e.symm
      ·rw [if_neg h] at e; exact e
     have FIN := Lib.hid (hfin GO.out)
     clear hfin
     rcases ST'.out with hst | ⟨hst, hst2 | ⟨hst2, hst3 | ⟨hst3, hst4⟩⟩⟩
     ·subst hst
      have hd : decide (j < j) = false := by simp
      have FT := Lib.hid (FIN.out.1 rfl)
      clear FIN
      go_wp2_with fail
      go_quiet (fail)
      go_wp2
      go_ret2
      exact ⟨ret_pair FT.out, B1.out.trans ((below_drewN' HI.out _).mono B1.out.size)⟩
     ·have hge : ¬ j < s.size := by have := LS.out; omega
      have hd : decide (j < s.size) = false := by simpa using hge
      have hne : ¬ j = L := by omega
      have hne' : ((j : Int) == (L : Int)) = false := by simp; omega
      clear hst2
      go_wp2_with fail
      go_quiet (fail)
      go_wp2
      go_roundw
      case rel => exact ⟨k + 1, max best j, by omega, (by first | exact max_if best j | (congr 1; omega)), by go_num, Lib.hid (FIN.out.2 hne), below_drewN' HI.out _, by omega⟩
      case measure => simp [intOf]; omega
     ·rw [LS.out] at hst2
      rw [nth_octs s j hst2] at hst3
      have fa := FA.out hst
      have fb := FB.out hst
      have hne : ¬ j = L := by omega
      have hne' : ((j : Int) == (L : Int)) = false := by simp; omega
      have hd : decide (nth lo j ≤ ((s[j]'hst2).toNat : Int)) = false := by simp; omega
      go_wp2_with fail
      go_quiet (fail)
      go_wp2
      go_roundw
      case rel => exact ⟨k + 1, max best j, by omega, (by first | exact max_if best j | (congr 1; omega)), by go_num, Lib.hid (FIN.out.2 hne), below_drewN' HI.out _, by omega⟩
      case measure => simp [intOf]; omega
     ·rw [LS.out] at hst2
      rw [nth_octs s j hst2] at hst3 hst4
      have fa := FA.out hst
      have fb := FB.out hst
      have hne : ¬ j = L := by omega
      have hne' : ((j : Int) == (L : Int)) = false := by simp; omega
      have hd : decide (((s[j]'hst2).toNat : Int) ≤ nth hi j) = false := by simp; omega
      go_wp2_with fail
      go_quiet (fail)
      go_wp2
      go_roundw
      case rel => exact ⟨k + 1, max best j, by omega, (by first | exact max_if best j | (congr 1; omega)), by go_num, Lib.hid (FIN.out.2 hne), below_drewN' HI.out _, by omega⟩
      case measure => simp [intOf]; omega
  ·obtain rfl : k = 9 := by omega
   have E := GO.out
   simp only [formL, List.drop, oneGo] at E
   have EH := Lib.hid E
   clear E GO
   go_wp2
   go_ret2
   exact ⟨ret_pair EH.out.symm, B1.out.trans (hb.mono B1.out.size)⟩
end Go.Proofs.YtaclmhopcfgbmaaGreatDoor
namespace Go.Proofs.YtaclmhopcfgbmaaGreatDoor
open Go.ChangeShapes Go.WideShapes Go.ChangeAt Go.RowKit
def valAt (l : List Int) (p : Int) : Nat → Int
 | 0 => nth l 0 % p
 | k + 1 => valAt l p k * 64 + nth l (k + 1) % 64
theorem valAt_range (l : List Int) (p : Int) (hp : 0 < p) (hp2 : p ≤ 32) : ∀ k, k ≤ 3 → 0 ≤ valAt l p k ∧ valAt l p k ≤ 16777215
 | 0, _ => by have h1 := Int.emod_nonneg (nth l 0) (show p ≠ 0 by omega); have h2 := Int.emod_lt_of_pos (nth l 0) hp; unfold valAt; omega
 | 1, _ => by have h1 := Int.emod_nonneg (nth l 0) (show p ≠ 0 by omega); have h2 := Int.emod_lt_of_pos (nth l 0) hp; unfold valAt valAt; omega
 | 2, _ => by have h1 := Int.emod_nonneg (nth l 0) (show p ≠ 0 by omega); have h2 := Int.emod_lt_of_pos (nth l 0) hp; unfold valAt valAt valAt; omega
 | 3, _ => by have h1 := Int.emod_nonneg (nth l 0) (show p ≠ 0 by omega); have h2 := Int.emod_lt_of_pos (nth l 0) hp; unfold valAt valAt valAt valAt; omega
 | k + 4, h => by omega
theorem valAt_two {l : List Int} (h : l.length = 2) : valAt l 32 1 = valL l := by
 match l, h with
 | [a, b], _ => rfl
theorem valAt_three {l : List Int} (h : l.length = 3) : valAt l 16 2 = valL l := by
 match l, h with
 | [a, b, c], _ => rfl
theorem valAt_four {l : List Int} (h : l.length = 4) : valAt l 8 3 = valL l := by
 match l, h with
 | [a, b, c, d], _ => rfl
theorem ret_rune {a b : Int} (h : a = b) : Ending.returned (.int .i32 a) = .returned (.int .i32 b) := by rw [h]
theorem octs_at (s : ByteArray) (k : Nat) (h : k < s.size) : 0 ≤ ((s[k]'h).toNat : Int) ∧ ((s[k]'h).toNat : Int) ≤ 255 := by
 have := (s[k]'h).toNat_lt
 omega
set_option maxRecDepth 100000 in
set_option maxHeartbeats 1600000 in
theorem value_one (s : ByteArray) (hs : s.size = 1) (w : World) :
  Calls Tryz.prog 112 #[.string s] w fun e w' => e = .returned (.int .i32 (valL (octs s))) ∧ w = w' := by
 have hl : (octs s).length = 1 := by rw [octs_length]; exact hs
 have hv : valL (octs s) = nth (octs s) 0 := by
  match octs s, hl with
  | [a], _ => rfl
 have h0 : 0 < s.size := by omega
 rw [nth_octs s 0 h0] at hv
 have b0 := octs_at s 0 h0
 have HV := Lib.hid hv
 clear hv hl
 go_enter Tryz.func112, Tryz.ntmps112
 go_wp2
 go_ret
 exact ⟨ret_rune HV.out.symm, rfl⟩
set_option maxRecDepth 100000 in
set_option maxHeartbeats 1600000 in
theorem value_more (s : ByteArray) (n : Nat) (p : Int) (hs : s.size = n) (hnp : n = 2 ∧ p = 32 ∨ n = 3 ∧ p = 16 ∨ n = 4 ∧ p = 8) (w : World) :
  Calls Tryz.prog 112 #[.string s] w fun e w' => e = .returned (.int .i32 (valAt (octs s) p (n - 1))) ∧ w = w' := by
 have h0 : 0 < s.size := by omega
 have b0 := octs_at s 0 h0
 have RG := Lib.hid (valAt_range (octs s) p (by omega) (by omega))
 have e0 := nth_octs s 0 h0
 have E0 := Lib.hid e0
 clear e0
 rcases hnp with ⟨rfl, rfl⟩ | ⟨rfl, rfl⟩ | ⟨rfl, rfl⟩
 ·go_enter Tryz.func112, Tryz.ntmps112
  go_wp2_with fail
  go_loop [3, 4] (fun r i => ∃ k : Nat, k + 1 ≤ 2 ∧ i = .int .i64 ((k + 1 : Nat) : Int) ∧ r = .int .i32 (valAt (octs s) 32 k)) (fun _ i => 2 - (intOf i).toNat)
  case atStart => exact ⟨0, by omega, rfl, by unfold valAt; rw [E0.out]⟩
  case round =>
   obtain ⟨k, hk, rfl, rfl⟩ := hrel
   have R0 := RG.out k (by omega)
   by_cases hlt : k + 1 < 2
   ·have hb := octs_at s (k + 1) (by omega)
    have hlt' : k + 1 < s.size := by omega
    have N := Lib.hid (nth_octs s (k + 1) hlt')
    have R1 := RG.out (k + 1) (by omega)
    have V : valAt (octs s) 32 (k + 1) = valAt (octs s) 32 k * 64 + nth (octs s) (k + 1) % 64 := rfl
    rw [N.out] at V
    have VH := Lib.hid V
    clear V
    go_wp2
    go_round
    case rel => exact ⟨k + 1, by omega, by go_num, by rw [VH.out]⟩
    case measure => simp [intOf]; omega
   ·obtain rfl : k = 1 := by omega
    go_wp2
    go_ret
    exact ⟨rfl, rfl⟩
 ·go_enter Tryz.func112, Tryz.ntmps112
  go_wp2_with fail
  go_loop [3, 4] (fun r i => ∃ k : Nat, k + 1 ≤ 3 ∧ i = .int .i64 ((k + 1 : Nat) : Int) ∧ r = .int .i32 (valAt (octs s) 16 k)) (fun _ i => 3 - (intOf i).toNat)
  case atStart => exact ⟨0, by omega, rfl, by unfold valAt; rw [E0.out]⟩
  case round =>
   obtain ⟨k, hk, rfl, rfl⟩ := hrel
   have R0 := RG.out k (by omega)
   by_cases hlt : k + 1 < 3
   ·have hb := octs_at s (k + 1) (by omega)
    have hlt' : k + 1 < s.size := by omega
    have N := Lib.hid (nth_octs s (k + 1) hlt')
    have R1 := RG.out (k + 1) (by omega)
    have V : valAt (octs s) 16 (k + 1) = valAt (octs s) 16 k * 64 + nth (octs s) (k + 1) % 64 := rfl
    rw [N.out] at V
    have VH := Lib.hid V
    clear V
    go_wp2
    go_round
    case rel => exact ⟨k + 1, by omega, by go_num, by rw [VH.out]⟩
    case measure => simp [intOf]; omega
   ·obtain rfl : k = 2 := by omega
    go_wp2
    go_ret
    exact ⟨rfl, rfl⟩
 ·go_enter Tryz.func112, Tryz.ntmps112
  go_wp2_with fail
  go_loop [3, 4] (fun r i => ∃ k : Nat, k + 1 ≤ 4 ∧ i = .int .i64 ((k + 1 : Nat) : Int) ∧ r = .int .i32 (valAt (octs s) 8 k)) (fun _ i => 4 - (intOf i).toNat)
  case atStart => exact ⟨0, by omega, rfl, by unfold valAt; rw [E0.out]⟩
  case round =>
   obtain ⟨k, hk, rfl, rfl⟩ := hrel
   have R0 := RG.out k (by omega)
   by_cases hlt : k + 1 < 4
   ·have hb := octs_at s (k + 1) (by omega)
    have hlt' : k + 1 < s.size := by omega
    have N := Lib.hid (nth_octs s (k + 1) hlt')
    have R1 := RG.out (k + 1) (by omega)
    have V : valAt (octs s) 8 (k + 1) = valAt (octs s) 8 k * 64 + nth (octs s) (k + 1) % 64 := rfl
    rw [N.out] at V
    have VH := Lib.hid V
    clear V
    go_wp2
    go_round
    case rel => exact ⟨k + 1, by omega, by go_num, by rw [VH.out]⟩
    case measure => simp [intOf]; omega
   ·obtain rfl : k = 3 := by omega
    go_wp2
    go_ret
    exact ⟨rfl, rfl⟩
theorem value_walk (s : ByteArray) (h1 : 1 ≤ s.size) (h4 : s.size ≤ 4) (w : World) : Calls Tryz.prog 112 #[.string s] w fun e w' => e = .returned (.int .i32 (valL (octs s))) ∧ w = w' := by
 have hl := octs_length s
 by_cases e1 : s.size = 1
 ·exact value_one s e1 w
 ·by_cases e2 : s.size = 2
  ·rw [← valAt_two (hl.trans e2)]; exact value_more s 2 32 e2 (.inl ⟨rfl, rfl⟩) w
  ·by_cases e3 : s.size = 3
   ·rw [← valAt_three (hl.trans e3)]; exact value_more s 3 16 e3 (.inr (.inl ⟨rfl, rfl⟩)) w
   ·have e4 : s.size = 4 := by omega
    rw [← valAt_four (hl.trans e4)]; exact value_more s 4 8 e4 (.inr (.inr ⟨rfl, rfl⟩)) w
end Go.Proofs.YtaclmhopcfgbmaaGreatDoor
namespace Go.Proofs.YtaclmhopcfgbmaaGreatDoor
open Go.ChangeShapes Go.WideShapes Go.ChangeAt Go.RowKit
theorem octs_cut (t : ByteArray) (a b : Nat) : octs (t.extract a b) = ((octs t).take b).drop a := by
 unfold octs
 rw [ByteArray.data_extract, Array.toList_extract]
 simp [List.take_drop, List.map_take, List.map_drop]
 by_cases h : a ≤ b
 ·rw [show a + (b - a) = b by omega]
 ·rw [List.drop_eq_nil_of_le (by simp; omega), List.drop_eq_nil_of_le (by simp; omega)]
theorem octs_head (t : ByteArray) (n : Nat) : octs (t.extract 0 n) = (octs t).take n := by rw [octs_cut]; simp
theorem octs_tail (t : ByteArray) (n : Nat) : octs (t.extract n t.size) = (octs t).drop n := by rw [octs_cut, List.take_of_length_le (by rw [octs_length]; exact Nat.le_refl _)]
theorem octs_pos (t : ByteArray) : ∀ x ∈ octs t, 0 ≤ x := fun x h => (octs_range t x h).1
theorem octs_ne {t : ByteArray} (h : 0 < t.size) : octs t ≠ [] := fun e => by have := octs_length t; rw [e] at this; simp at this; omega
def strLen : Value → Nat
 | .string t => t.size
 | _ => 0
structure Came (s t : ByteArray) (got : List Int) : Prop where
 ho : runO st0 (octs s) = got ++ runO st0 (octs t)
 hs : runS st0 (octs s) = runS st0 (octs t)
 len : got.length + t.size ≤ s.size
theorem Came.whole {s t : ByteArray} {got : List Int} (h : Came s t got) {n : Nat} (e : oneL (octs t) = (n, true)) (ht : 0 < t.size) : 1 ≤ n ∧ n ≤ 4 ∧ n ≤ t.size ∧ Came s (t.extract n t.size) (got ++ [valL (octs (t.extract 0 n))]) := by
 obtain ⟨h1, h4, hl, hs, ho⟩ := one_whole (octs_pos t) e (octs_ne ht)
 rw [octs_length] at hl
 have cut : octs t = (octs t).take n ++ (octs t).drop n := (List.take_append_drop n _).symm
 refine ⟨h1, h4, hl, ?_, ?_, ?_⟩
 ·rw [h.ho, octs_tail, octs_head]
  conv => lhs; rw [cut, runO_append, hs, ho]
  simp
 ·rw [h.hs, octs_tail]
  conv => lhs; rw [cut, runS_append, hs]
 ·have := h.len
  rw [List.length_append, ByteArray.size_extract]
  simp; omega
theorem Came.breaks {s t : ByteArray} {got : List Int} (h : Came s t got) {n : Nat} (e : oneL (octs t) = (n, false)) (hn : n ≠ t.size) : n ≤ 3 ∧ max 1 n ≤ t.size ∧ Came s (t.extract (max 1 n) t.size) (got ++ [65533]) := by
 obtain ⟨h3, hl, ho, hs⟩ := one_breaks (octs_pos t) e (by rw [octs_length]; exact hn)
 rw [octs_length] at hl
 refine ⟨h3, by omega, ?_, ?_, ?_⟩
 ·rw [h.ho, octs_tail, ho]; simp
 ·rw [h.hs, octs_tail, hs]
 ·have := h.len
  rw [List.length_append, ByteArray.size_extract]
  simp; omega
theorem Came.waits {s t : ByteArray} {got : List Int} (h : Came s t got) (e : oneL (octs t) = (t.size, false)) (ht : 0 < t.size) : t.size ≤ 3 ∧ runO st0 (octs s) = got ∧ (runS st0 (octs s)).waits = t.size := by
 obtain ⟨h3, ho, hs⟩ := one_waits (octs_pos t) (by rw [octs_length]; exact e) (octs_ne ht)
 rw [octs_length] at h3 hs
 exact ⟨h3, by rw [h.ho, ho]; simp, by rw [h.hs, hs]⟩
theorem Came.done {s t : ByteArray} {got : List Int} (h : Came s t got) (ht : t.size = 0) : runO st0 (octs s) = got ∧ (runS st0 (octs s)).waits = 0 := by
 have e : octs t = [] := List.eq_nil_of_length_eq_zero (by rw [octs_length]; exact ht)
 exact ⟨by rw [h.ho, e]; simp [runO], by rw [h.hs, e]; rfl⟩
def RefAllPost (s : ByteArray) (w : World) (e : Ending) (w' : World) : Prop := ∃ v, e = .returned (.tuple #[v, .int .i64 (runS st0 (octs s)).waits]) ∧ Has w' w.heap.size v (runO st0 (octs s)) ∧ Below w.heap.size w w'
set_option maxRecDepth 100000 in
set_option maxHeartbeats 4000000 in
theorem refAll_walk (s : ByteArray) (hs : s.size ≤ 274877906944) (w : World) :
  Calls Tryz.prog 84 #[.string s] w fun e w' => RefAllPost s w e w' := by
 obtain ⟨i0, hi, hz0, hz1, hz2⟩ := info_parts info21
 go_enter Tryz.func84, Tryz.ntmps84
 go_wp2_with fail
 go_loopw [0, 4] (fun x v wr => ∃ (t : ByteArray) (got : List Int), x = .string t ∧ Has wr w.heap.size v got ∧ Hid (Came s t got) ∧ Below w.heap.size w wr) (fun x _ _ => strLen x)
 case atStart => exact ⟨s, [], rfl, Has.nothing _ _, Lib.hid ⟨rfl, rfl, by simp⟩, Below.refl _ _⟩
 case round =>
  obtain ⟨t, got, rfl, hv, CM, hb⟩ := hrel
  have hlen := CM.out.len
  have htl : t.size ≤ 274877906944 := by omega
  have hgl : got.length ≤ 274877906944 := by omega
  have HV := Lib.hid hv
  have HB := Lib.hid hb
  have hsz := hb.size
  clear hv hb hlen
  by_cases ht : 0 < t.size
  ·obtain ⟨p, hp⟩ : ∃ p, oneL (octs t) = p := ⟨_, rfl⟩
   have ONE := refOne_walk t htl wr
   rw [hp] at ONE
   obtain ⟨n, b⟩ := p
   have OH := Lib.hid ONE
   have HP := Lib.hid hp
   clear ONE hp
   simp only at OH
   cases b
   ·by_cases hn : n = t.size
    ·subst hn
     obtain ⟨h3, e1, e2⟩ := CM.out.waits HP.out ht
     have E1 := Lib.hid e1
     have E2 := Lib.hid e2
     clear e1 e2
     go_wp2_with (go_at_call 111; refine OH.out.mono ?_; rintro e w1 ⟨rfl, hb1⟩)
     go_ret2
     unfold RefAllPost
     rw [E1.out, E2.out]
     exact ⟨u4, rfl, HV.out.below hb1 HV.out.lt, HB.out.trans (hb1.mono hsz)⟩
    ·obtain ⟨h3, hl, cm⟩ := CM.out.breaks HP.out hn
     have CN := Lib.hid cm
     clear cm
     have hn' : ((n : Int) == (t.size : Int)) = false := by simp; omega
     obtain ⟨m, hm⟩ : ∃ m, max 1 n = m := ⟨_, rfl⟩
     rw [hm] at hl CN
     by_cases h1n : 1 < n
     ·obtain rfl : n = m := by omega
      clear hm
      go_wp2_with (first
       | (go_at_call 111; refine OH.out.mono ?_; rintro e w1 ⟨rfl, hb1⟩; (have hs1 := hb1.size); (have B1 := Lib.hid hb1); clear hb1)
       | (at_builtin; refine wpList_append_own_at _ rfl _ _ 72 rfl w.heap.size 21 i0 (.int .i32 0) 1 4 Tryz.underlying72 hi hz0 hz1 hz2 rfl (by decide) u4 got.length _ rfl ((HV.out.below B1.out HV.out.lt).alloc _) ⟨w1.heap.size, 0, none⟩ 1 1 [.int .i32 65533] rfl rfl (cell_new_at rfl _ _) (one_rune _) (fits1 (by omega)) (fits4 (by omega)) (by simp; omega) ?_; intro v' w4 hown' hgrow _ _))
      have N4 : Below w.heap.size w w4 := ((HB.out.trans (B1.out.mono hsz)).alloc (Nat.le_trans hsz hs1) _).grown hgrow (by simp; omega) (fun j e => (World.ownsRow.lt HV.out j e).1)
      have O4 : Has w4 w.heap.size v' (got ++ [65533]) := by
       unfold Has
       rw [List.length_append, List.map_append]
       simpa using hown'
      have NH := Lib.hid N4
      have OH4 := Lib.hid O4
      clear N4 O4 hown' hgrow
      go_wp2
      go_roundw
      case rel => exact ⟨_, _, rfl, OH4.out, (by first | exact CN | (rw [show (max 1 (n : Int)).toNat = n by omega]; exact CN)), NH.out⟩
      case measure => simp [strLen]; omega
     ·obtain rfl : m = 1 := by omega
      clear hm
      go_wp2_with (first
       | (go_at_call 111; refine OH.out.mono ?_; rintro e w1 ⟨rfl, hb1⟩; (have hs1 := hb1.size); (have B1 := Lib.hid hb1); clear hb1)
       | (at_builtin; refine wpList_append_own_at _ rfl _ _ 72 rfl w.heap.size 21 i0 (.int .i32 0) 1 4 Tryz.underlying72 hi hz0 hz1 hz2 rfl (by decide) u4 got.length _ rfl ((HV.out.below B1.out HV.out.lt).alloc _) ⟨w1.heap.size, 0, none⟩ 1 1 [.int .i32 65533] rfl rfl (cell_new_at rfl _ _) (one_rune _) (fits1 (by omega)) (fits4 (by omega)) (by simp; omega) ?_; intro v' w4 hown' hgrow _ _))
      have N4 : Below w.heap.size w w4 := ((HB.out.trans (B1.out.mono hsz)).alloc (Nat.le_trans hsz hs1) _).grown hgrow (by simp; omega) (fun j e => (World.ownsRow.lt HV.out j e).1)
      have O4 : Has w4 w.heap.size v' (got ++ [65533]) := by
       unfold Has
       rw [List.length_append, List.map_append]
       simpa using hown'
      have NH := Lib.hid N4
      have OH4 := Lib.hid O4
      clear N4 O4 hown' hgrow
      go_wp2
      go_roundw
      case rel => exact ⟨_, _, rfl, OH4.out, (by first | exact CN | (rw [show (max 1 (n : Int)).toNat = 1 by omega]; exact CN)), NH.out⟩
      case measure => simp [strLen]; omega
   ·obtain ⟨h1, h4, hl, cm⟩ := CM.out.whole HP.out ht
    have CN := Lib.hid cm
    clear cm
    have VW := Lib.hid (fun w => value_walk (t.extract 0 n) (by rw [ByteArray.size_extract]; omega) (by rw [ByteArray.size_extract]; omega) w)
    go_wp2_with (first
     | (go_at_call 111; refine OH.out.mono ?_; rintro e w1 ⟨rfl, hb1⟩; (have hs1 := hb1.size); (have B1 := Lib.hid hb1); clear hb1)
     | (go_at_call 112; refine (VW.out _).mono ?_; rintro e w2 ⟨rfl, rfl⟩)
     | (at_builtin; refine wpList_append_own_at _ rfl _ _ 72 rfl w.heap.size 21 i0 (.int .i32 0) 1 4 Tryz.underlying72 hi hz0 hz1 hz2 rfl (by decide) u4 got.length _ rfl ((HV.out.below B1.out HV.out.lt).alloc _) ⟨w1.heap.size, 0, none⟩ 1 1 [.int .i32 (valL (octs (t.extract 0 n)))] rfl rfl (cell_new_at rfl _ _) (one_rune _) (fits1 (by omega)) (fits4 (by omega)) (by simp; omega) ?_; intro v' w4 hown' hgrow _ _))
    have N4 : Below w.heap.size w w4 := ((HB.out.trans (B1.out.mono hsz)).alloc (Nat.le_trans hsz hs1) _).grown hgrow (by simp; omega) (fun j e => (World.ownsRow.lt HV.out j e).1)
    have O4 : Has w4 w.heap.size v' (got ++ [valL (octs (t.extract 0 n))]) := by
     unfold Has
     rw [List.length_append, List.map_append]
     simpa using hown'
    have NH := Lib.hid N4
    have OH4 := Lib.hid O4
    clear N4 O4 hown' hgrow
    go_wp2
    go_roundw
    case rel => exact ⟨_, _, rfl, OH4.out, CN, NH.out⟩
    case measure => simp [strLen]; omega
  ·have hz : t.size = 0 := by omega
   obtain ⟨e1, e2⟩ := CM.out.done hz
   have E1 := Lib.hid e1
   have E2 := Lib.hid e2
   clear e1 e2
   go_wp2
   go_ret2
   unfold RefAllPost
   rw [E1.out, E2.out]
   exact ⟨u4, rfl, HV.out, HB.out⟩
end Go.Proofs.YtaclmhopcfgbmaaGreatDoor
namespace Go.Proofs.YtaclmhopcfgbmaaGreatDoor
theorem begO_range (b : Int) (h0 : 0 ≤ b) (_h1 : b ≤ 255) : Runes (begO b) := by
 intro r hr
 unfold begO at hr
 split at hr
 ·rw [List.mem_singleton.1 hr]; omega
 ·split at hr
  ·rw [List.mem_singleton.1 hr]; omega
  ·cases hr
theorem stO_range (st : St) (b : Int) (h : st.ok) (h0 : 0 ≤ b) (h1 : b ≤ 255) : Runes (stO st b) := by
 intro r hr
 unfold stO at hr
 split at hr
 ·rename_i hg
  unfold onO at hr
  split at hr
  ·rw [List.mem_singleton.1 hr]
   have hs := h.sign
   have hw := h.waits
   have := hg.1
   have hc : st.waits = 1 ∨ st.waits = 2 ∨ st.waits = 3 := by omega
   rcases hc with e | e | e
   ·have := hs.2.1 e; omega
   ·have := hs.2.2.1 e; omega
   ·have := hs.2.2.2 e; omega
  ·cases hr
 ·rcases List.mem_append.1 hr with hr | hr
  ·unfold brk at hr
   split at hr
   ·cases hr
   ·rw [List.mem_singleton.1 hr]; omega
  ·exact begO_range b h0 h1 r hr
theorem runO_range : ∀ (l : List Int) (st : St), st.ok → (∀ x ∈ l, 0 ≤ x ∧ x ≤ 255) → Runes (runO st l)
 | [], _, _, _ => fun _ h => by cases h
 | b :: l, st, h, hb => by
  have hb0 := hb b (List.mem_cons_self ..)
  intro r hr
  unfold runO at hr
  rcases List.mem_append.1 hr with hr | hr
  ·exact stO_range st b h hb0.1 hb0.2 r hr
  ·exact runO_range l _ (stS_ok st b h hb0.1) (fun x hx => hb x (List.mem_cons_of_mem _ hx)) r hr
theorem runes_of_octs (t : ByteArray) : Runes (runO st0 (octs t)) := runO_range _ _ st0_ok (octs_range t)
theorem has_shape {w : World} {base : Nat} {v : Value} {xs : List Int} (h : Has w base v xs) : ∃ A c, v = .slice A xs.length c := by
 rcases h.2 with ⟨rfl, h0⟩ | ⟨g, cap, cur, rfl, _⟩
 ·rw [h0]; exact ⟨_, _, rfl⟩
 ·exact ⟨_, _, rfl⟩
end Go.Proofs.YtaclmhopcfgbmaaGreatDoor
namespace Go.Proofs.YtaclmhopcfgbmaaGreatDoor
open Go.ChangeShapes Go.WideShapes Go.ChangeAt Go.RowKit
namespace Sc
open Rw
def runE (s : Scr) (es : List Esc.Ev) : Scr := es.foldl (fun s e => doS s e.kind e.r e.args) s
theorem runE_append (s : Scr) (es fs : List Esc.Ev) : runE s (es ++ fs) = runE (runE s es) fs := by simp [runE]
theorem csiArgs_length (t : List Int) : (Esc.csiArgs t).length ≤ 8 := by
 unfold Esc.csiArgs
 split
 ·simp
 ·rw [List.length_take]; omega
theorem ev_ok {st : Esc.St} {r : Int} {e : Esc.Ev} (h : Esc.stepE st r = some e) (hr0 : -2147483648 ≤ r) (hr1 : r ≤ 2147483647) : -2147483648 ≤ e.r ∧ e.r ≤ 2147483647 ∧ (e.kind = 3 → 0 ≤ e.r ∧ e.r < 128) ∧ e.args.length ≤ 8 := by
 cases st with
 | rest =>
  simp only [Esc.stepE] at h
  split at h
  ·injection h with h; subst h; exact ⟨hr0, hr1, (fun e => by cases e), by simp⟩
  ·split at h
   ·injection h with h; subst h; exact ⟨hr0, hr1, (fun e => by cases e), by simp⟩
   ·cases h
 | esc => cases h
 | csi t =>
  simp only [Esc.stepE] at h
  split at h
  ·unfold Esc.csiEv at h
   split at h
   ·cases h
   ·injection h with h; subst h; exact ⟨hr0, hr1, (fun _ => (show 0 ≤ r ∧ r < 128 by omega)), csiArgs_length t⟩
  ·cases h
 | osc t =>
  simp only [Esc.stepE] at h
  split at h
  ·unfold Esc.oscEv at h
   split at h
   ·injection h with h; subst h; exact ⟨by simp, by simp, (fun e => by cases e), by simp⟩
   ·cases h
  ·cases h
 | oscEsc t =>
  simp only [Esc.stepE] at h
  split at h
  ·unfold Esc.oscEv at h
   split at h
   ·injection h with h; subst h; exact ⟨by simp, by simp, (fun e => by cases e), by simp⟩
   ·cases h
  ·cases h
theorem downS_len {s : Scr} (h : 1 ≤ s.rows.length) : (downS s).rows.length = s.rows.length := by
 unfold downS
 split
 ·rfl
 ·simp; omega
theorem setS_len (s : Scr) (L : List Cel) : (setS s L).rows.length = s.rows.length := by simp [setS]
theorem wrapS_len {s : Scr} (h : 1 ≤ s.rows.length) : (wrapS s).rows.length = s.rows.length := by
 have e : (markS (padS s)).rows.length = s.rows.length := by simp [markS, (padS_w s).2.2.2.2]
 unfold wrapS
 rw [downS_len (by omega), e]
theorem eraseS_len (s : Scr) (i : Nat) (f t : Int) : (eraseS s i f t).rows.length = s.rows.length := by simp [eraseS]
theorem rowE_len (s : Scr) (what : Int) : (rowE s what).w = s.w ∧ (rowE s what).rows.length = s.rows.length := by
 unfold rowE
 repeat' split
 all_goals first | exact ⟨rfl, eraseS_len _ _ _ _⟩ | exact ⟨rfl, rfl⟩
theorem scrE_len (s : Scr) (what : Int) : (scrE s what).w = s.w ∧ (scrE s what).rows.length = s.rows.length := by
 unfold scrE
 rw [(rowE_len _ _).1, (rowE_len _ _).2]
 repeat' split
 all_goals first | exact ⟨(rowsE_w _ _ _).1, (rowsE_w _ _ _).2.1⟩ | exact ⟨rfl, rfl⟩
theorem doS_dims {s : Scr} (k r : Int) (l : List Int) (h : 1 ≤ s.rows.length) : (doS s k r l).w = s.w ∧ (doS s k r l).rows.length = s.rows.length := by
 unfold doS
 split
 ·unfold printS
  split
  ·exact ⟨rfl, rfl⟩
  ·refine ⟨(roomS_w s _).1, ?_⟩
   show (setS (roomS s (wof r)) (ofL r s.a)).rows.length = _
   rw [setS_len]
   unfold roomS
   split
   ·exact wrapS_len h
   ·rfl
 ·split
  ·unfold ctrlS
   repeat' split
   all_goals first | exact ⟨rfl, rfl⟩ | exact ⟨(downS_w _).1, downS_len h⟩
  ·split
   ·unfold csiS
    split
    ·unfold actS
     repeat' split
     all_goals first | exact ⟨rfl, rfl⟩ | exact scrE_len (leaveS s) _ | exact rowE_len (leaveS s) _
    ·exact ⟨rfl, rfl⟩
   ·exact ⟨rfl, rfl⟩
theorem runE_dims (es : List Esc.Ev) : ∀ (s : Scr), 1 ≤ s.rows.length → (runE s es).w = s.w ∧ (runE s es).rows.length = s.rows.length := by
 induction es with
 | nil => intro s _; exact ⟨rfl, rfl⟩
 | cons e es ih =>
  intro s h
  obtain ⟨h1, h2⟩ := doS_dims (s := s) e.kind e.r e.args h
  obtain ⟨h3, h4⟩ := ih (doS s e.kind e.r e.args) (by rw [h2]; exact h)
  exact ⟨h3.trans h1, h4.trans h2⟩
structure FAt (w0 : World) (p g gp B : Nat) (s0 : Scr) (xs0 : List RowIn) (vl : Value) (l : List Int) (es : List Esc.Ev) (st : Esc.St) (v : Value) (xs : List RowIn) (W : World) : Prop where
 scr : ScAt W p g (runE s0 es) xs
 par : Esc.RAt W B gp v st
 base : w0.heap.size ≤ gp ∧ w0.heap.size ≤ B ∧ B ≤ W.heap.size
 runes : Has W 0 vl l
 low : ∀ j, vl.ownBlock = some j → j < B ∧ j ≠ gp
 went : Went w0 W p g xs0 xs
namespace FAt
variable {w0 W W' : World} {p g gp B : Nat} {s0 : Scr} {xs0 xs : List RowIn} {vl v : Value} {l : List Int} {es : List Esc.Ev} {st : Esc.St}
theorem put (h : FAt w0 p g gp B s0 xs0 vl l es st v xs W) {v' : Value} {st' : Esc.St} (hp : Esc.RAt W' B gp v' st') (ht : Turned (Esc.Own gp v) W W') : FAt w0 p g gp B s0 xs0 vl l es st' v' xs W' := by
 have ow := fun j (m : Esc.Own gp v j) => h.par.owns m
 refine ⟨h.scr.kept ht (fun m => ?_) (fun m => ?_) (fun k m t => ?_), hp, ⟨h.base.1, h.base.2.1, Nat.le_trans h.base.2.2 ht.size⟩, Bg.own_kept h.runes (fun j e => ht.block j (World.ownsRow.lt h.runes j e).2 (fun m => ?_)), h.low, ⟨h.went.turned.trans ht (fun k hk m => ?_), h.went.from'⟩⟩
 ·rcases (ow _ m).2 with t | t
  ·exact t.apart h.scr.typ (by decide) rfl
  ·exact t.apart h.scr.typ (by decide) rfl
 ·rcases (ow _ m).2 with t | t
  ·exact t.apart h.scr.tyg (by decide) rfl
  ·exact t.apart h.scr.tyg (by decide) rfl
 ·rcases (ow _ m).2 with t' | t'
  ·exact t'.apart t (by decide) rfl
  ·exact t'.apart t (by decide) rfl
 ·have hl := h.low j e
  rcases (ow _ m).1 with e | e
  ·exact hl.2 e
  ·omega
 ·have hb := h.base
  rcases (ow _ m).1 with e | e
  ·omega
  ·omega
theorem laid (h : FAt w0 p g gp B s0 xs0 vl l es st v xs W) (hb : Below W.heap.size W W') : FAt w0 p g gp B s0 xs0 vl l es st v xs W' :=
 ⟨h.scr.laid hb, h.par.laid hb, ⟨h.base.1, h.base.2.1, Nat.le_trans h.base.2.2 hb.size⟩, Bg.own_kept h.runes (fun j e => hb.block j (World.ownsRow.lt h.runes j e).2), h.low, h.went.trans (Went.laid hb)⟩
theorem step (h : FAt w0 p g gp B s0 xs0 vl l es st v xs W) {e : Esc.Ev} {ys : List RowIn} (hs : ScAt W' p g (doS (runE s0 es) e.kind e.r e.args) ys) (hw : Went W W' p g xs ys) : FAt w0 p g gp B s0 xs0 vl l (es ++ [e]) st v ys W' :=
 ⟨by rw [runE_append]; exact hs, h.par.turned hw.turned (fun k m => by
  rcases m with rfl | rfl
  ·exact ⟨Esc.not_typed h.scr.typ (by decide), Esc.not_typed h.scr.typ (by decide)⟩
  ·exact ⟨Esc.not_typed h.scr.tyg (by decide), Esc.not_typed h.scr.tyg (by decide)⟩), ⟨h.base.1, h.base.2.1, Nat.le_trans h.base.2.2 hw.turned.size⟩, Bg.own_kept h.runes (fun j e => hw.turned.block j (World.ownsRow.lt h.runes j e).2 (fun m => by
   have ty := Bg.own_type h.runes j e
   rcases m with rfl | rfl
   ·exact ty.apart h.scr.typ (by decide) rfl
   ·exact ty.apart h.scr.tyg (by decide) rfl)), h.low, h.went.trans hw⟩
end FAt
theorem nums_arg {w W : World} {p g B n c : Nat} {s : Scr} {xs ys : List RowIn} {A : Option Addr} {l : List Int} (h : Esc.Nums w B (.slice A n c) l) (hs : ScAt w p g s xs) (hw : Went w W p g xs ys) : Sq W W.heap.size 1 n A (l.map (Value.int .i64)) := by
 have hk := h.kept (W' := W) (fun k e => hw.turned.block k (h.lt k e).2 (fun m => by
  have ty := Esc.numsTyped h k e
  rcases m with rfl | rfl
  ·exact ty.apart hs.typ (by decide) rfl
  ·exact ty.apart hs.tyg (by decide) rfl))
 obtain ⟨A', c', e⟩ := Esc.nums_shape hk
 injection e with e1 e2 e3
 subst e1 e2 e3
 exact Sq.own hk
def feedS (s : Scr) (t : ByteArray) : Scr := runE s (Bg.evRun .rest (Go.Proofs.YtaclmhopcfgbmaaGreatDoor.runO st0 (octs t)))
set_option maxRecDepth 100000 in
set_option maxHeartbeats 6400000 in
theorem feed_walk {p g : Nat} {s : Scr} {xs : List RowIn} (t : ByteArray) (w : World) (ht : t.size ≤ 1000) (hs : Spans w) (h : ScAt w p g s xs) : Calls Tryz.prog 49 #[ptrS p, .string t] w fun e w' => ∃ m : Int, e = .returned (.int .i64 m) ∧ ∃ ys, ScAt w' p g (feedS s t) ys ∧ Went w w' p g xs ys := by
 have H := Lib.hid h
 have S := Lib.hid hs
 clear h hs
 go_enter Tryz.func49, Tryz.ntmps49
 go_wp2_with fail
 obtain ⟨gp, hgp⟩ : ∃ gp, w.heap.size = gp := ⟨_, rfl⟩
 obtain ⟨w2, hw2⟩ : ∃ w2, w.alloc (.cells #[.int .i64 0, .slice none 0 0] 75) = w2 := ⟨_, rfl⟩
 have PA := Lib.hid (show Below w.heap.size w w2 ∧ Esc.RCells w2 gp #[.int .i64 0, .slice none 0 0] ∧ gp < w2.heap.size from by
  rw [← hw2, ← hgp]
  exact ⟨(Below.refl _ _).alloc (Nat.le_refl _) _, heap_alloc_new w _, by simp⟩)
 have HG := Lib.hid hgp
 have HW := Lib.hid hw2
 clear hgp hw2
 try rw [HG.out]
 try rw [HW.out]
 refine (refAll_walk t (by omega) w2).mono ?_
 rintro e w3 ⟨v, rfl, hv, b3⟩
 obtain ⟨l, hl⟩ : ∃ l, Go.Proofs.YtaclmhopcfgbmaaGreatDoor.runO st0 (octs t) = l := ⟨_, rfl⟩
 have hr := runes_of_octs t
 have hll := runO_length (octs t) st0
 rw [octs_length, hl] at hll
 rw [hl] at hv hr
 obtain ⟨A, c, e⟩ := has_shape hv
 subst e
 have F3 := Lib.hid (show FAt w p g gp w3.heap.size s xs (.slice A l.length c) l (Bg.evRun .rest (l.take 0)) (Esc.runS .rest (l.take 0)) (.slice none 0 0) xs w3 from by
  have hb := PA.out.1.trans (b3.mono PA.out.1.size)
  have hlt := PA.out.2.2
  have hg := HG.out
  refine ⟨H.out.laid hb, ⟨(b3.block gp hlt).trans PA.out.2.1, ⟨[], World.ownsRow_nil _ _ _ _⟩, fun t h => by cases h⟩, ⟨by omega, hb.size, Nat.le_refl _⟩, Has.lower hv (Nat.zero_le _), fun j e => ?_, Went.laid hb⟩
  have := World.ownsRow.lt hv j e
  exact ⟨this.2, by omega⟩)
 have RR := Lib.hid hr
 have FS := Lib.hid (show feedS s t = runE s (Bg.evRun .rest l) by unfold feedS; rw [hl])
 obtain ⟨wt, hwt⟩ : ∃ wt, (Go.Proofs.YtaclmhopcfgbmaaGreatDoor.runS st0 (octs t)).waits = wt := ⟨_, rfl⟩
 rw [hwt]
 obtain ⟨n, hn⟩ : ∃ n, l.length = n := ⟨_, rfl⟩
 rw [hn] at F3 ⊢
 have LN := Lib.hid hn
 have hn2 : n ≤ 2000 := by omega
 obtain ⟨B, hB⟩ : ∃ B, w3.heap.size = B := ⟨_, rfl⟩
 rw [hB] at F3
 clear hv b3 hl hll PA hr hn hwt HG HW hB
 go_wp2_with fail
 go_loopw [8, 9, 10, 11] (fun v8 v9 _ _ wr => ∃ (k : Nat) (m : Int) (vp : Value) (ys : List RowIn), v8 = .int .i64 m ∧ v9 = .int .i64 k ∧ k ≤ n ∧ Hid (FAt w p g gp B s xs (.slice A n c) l (Bg.evRun .rest (l.take k)) (Esc.runS .rest (l.take k)) vp ys wr)) (fun _ v9 _ _ _ => n - (intOf v9).toNat)
 case atStart => exact ⟨0, 0, _, _, rfl, rfl, Nat.zero_le _, F3⟩
 case round =>
  obtain ⟨k, m, vp, ys, rfl, rfl, hk, F⟩ := hrel
  clear F3
  by_cases hlt : k < n
  ·have hq : Sq wr wr.heap.size 1 n A (l.map (Value.int .i32)) := by have h := F.out.runes; unfold Has at h; rw [LN.out] at h; exact Sq.own h
   obtain ⟨b, off, rfl, hb, hc0⟩ := hq.int_at hlt
   have hrr := RR.out.get k
   obtain ⟨r, hrk⟩ : ∃ r, nth l k = r := ⟨_, rfl⟩
   rw [hrk] at hc0 hrr
   have hsz : Esc.sizeS (Esc.runS .rest (l.take k)) ≤ 1000000 := by
    have := Esc.sizeS_run (l.take k) .rest
    have h3 : (l.take k).length ≤ k := List.length_take_le _ _
    have e0 : Esc.sizeS .rest = 0 := rfl
    omega
   have htk := take_next (l := l) (k := k) (by have := LN.out; omega)
   rw [hrk] at htk
   have NX := Lib.hid (show Esc.runS .rest (l.take (k + 1)) = Esc.stepS (Esc.runS .rest (l.take k)) r by rw [htk, Esc.runS_snoc])
   have NE := Lib.hid (show Bg.evRun .rest (l.take (k + 1)) = Bg.evRun .rest (l.take k) ++ (Esc.stepE (Esc.runS .rest (l.take k)) r).toList by rw [htk, Bg.evRun_snoc])
   have PW := Lib.hid (Esc.rput_walk gp vp _ r wr F.out.base.2.2 F.out.par hsz hrr.1 hrr.2)
   obtain ⟨o, ho⟩ : ∃ o, Esc.stepE (Esc.runS .rest (l.take k)) r = o := ⟨_, rfl⟩
   rw [ho] at PW NE
   have EO := Lib.hid (show ∀ e, o = some e → -2147483648 ≤ e.r ∧ e.r ≤ 2147483647 ∧ (e.kind = 3 → 0 ≤ e.r ∧ e.r < 128) ∧ e.args.length ≤ 8 from fun e he => ev_ok (ho.trans he) hrr.1 hrr.2)
   have hinc : IntKind.i64.wrap ((k : Int) + 1) = (k : Int) + 1 := IntWalk.i64_in _ (by omega)
   have hk0 : (0 : Int) ≤ (k : Int) := by omega
   have hkn : (k : Int) < (n : Int) := by omega
   clear hq hrk hrr hsz htk ho
   go_wp2_with fail
   refine PW.out.mono ?_
   rintro e w4 ⟨ek, er, eA, en, ec, es, v4, rfl, hev, p4, t4⟩
   have F4 := Lib.hid (show FAt w p g gp B s xs (.slice (some ⟨b, off, none⟩) n c) l (Bg.evRun .rest (l.take k)) (Esc.runS .rest (l.take (k + 1))) v4 ys w4 by rw [NX.out]; exact F.out.put p4 t4)
   have EV := Lib.hid (fun e he => And.intro (hev e he) (EO.out e he))
   obtain ⟨ge, hge⟩ : ∃ ge, w4.heap.size = ge := ⟨_, rfl⟩
   obtain ⟨w5, hw5⟩ : ∃ w5, w4.alloc (.cells #[.int .i64 ek, .int .i32 er, .slice eA en ec, .string es] 35) = w5 := ⟨_, rfl⟩
   have b5 : Below w4.heap.size w4 w5 := by rw [← hw5]; exact (Below.refl _ _).alloc (Nat.le_refl _) _
   have c5 : Esc.ECells w5 ge #[.int .i64 ek, .int .i32 er, .slice eA en ec, .string es] := by rw [← hw5, ← hge]; exact heap_alloc_new w4 _
   have F5 := Lib.hid (F4.out.laid b5)
   have HG := Lib.hid hge
   have HW := Lib.hid hw5
   have q0 : w5.cell? ⟨ge, 0, none⟩ = some (.int .i64 ek) := cell_of_row _ _ 0 _ _ (0, 0) c5
   have q1 : w5.cell? ⟨ge, 1, none⟩ = some (.int .i32 er) := cell_of_row _ _ 1 _ _ (0, 0) c5
   have q2 : w5.cell? ⟨ge, 2, none⟩ = some (.slice eA en ec) := cell_of_row _ _ 2 _ _ (0, 0) c5
   have q3 : w5.cell? ⟨ge, 3, none⟩ = some (.string es) := cell_of_row _ _ 3 _ _ (0, 0) c5
   cases o with
   | none =>
    have NE' := Lib.hid (show FAt w p g gp B s xs (.slice (some ⟨b, off, none⟩) n c) l (Bg.evRun .rest (l.take (k + 1))) (Esc.runS .rest (l.take (k + 1))) v4 ys w5 by rw [NE.out]; simp only [Option.toList_none, List.append_nil]; exact F5.out)
    clear hev p4 t4 PW F NX NE EO EV F4 F5 hge hw5 b5 c5 q0 q1 q2 q3 hc0
    go_wp2
    rw [HW.out]
    go_roundw
    case rel => exact ⟨k + 1, m, v4, ys, rfl, by first | rfl | (congr 1; done) | (congr 1; omega), hlt, NE'⟩
    case measure => first | (simp [intOf]; done) | (simp [intOf]; omega)
   | some ev =>
    obtain ⟨⟨rfl, rfl, rfl, hnum⟩, hr0, hr1, h3, h8⟩ := EV.out ev rfl
    have hlen : en ≤ 1000000 := by
     obtain ⟨A', c', e⟩ := Esc.nums_shape hnum
     injection e with _ e _
     omega
    have NU := hnum.kept (W' := w5) (fun j e => b5.block j (hnum.lt j e).2)
    have S5 : Spans w5 := spans_went S.out H.out F5.out.went
    have DW := Lib.hid (doAny_walk ev.kind ev.r eA en ec ⟨ev.text.toArray⟩ ev.args w5 hr0 hr1 h3 hlen S5 F5.out.scr (fun W zs a => nums_arg NU F5.out.scr a))
    have NX' := Lib.hid (show ∀ W zs, ScAt W p g (doS (runE s (Bg.evRun .rest (l.take k))) ev.kind ev.r ev.args) zs → Went w5 W p g ys zs → FAt w p g gp B s xs (.slice (some ⟨b, off, none⟩) n c) l (Bg.evRun .rest (l.take (k + 1))) (Esc.runS .rest (l.take (k + 1))) v4 zs W from fun W zs a a' => by rw [NE.out]; exact F5.out.step a a')
    clear hev p4 t4 PW F NX NE EO EV F4 F5 hge hw5 b5 c5 hc0 hnum NU S5 hr0 hr1 h3 h8 hlen
    go_wp2_with fail
    first
     | (rw [HW.out]; rw [HG.out])
     | rw [HW.out]
     | skip
    refine DW.out.mono ?_
    rintro e w6 ⟨vo, yo, zs, rfl, a1, a2, a3, _, _⟩
    have F6 := Lib.hid (NX'.out w6 zs a1 a2)
    obtain ⟨Ao, co, rfl, _⟩ := a3.shape
    clear a1 a2 a3 DW NX' q0 q1 q2 q3
    go_wp2
    go_roundw
    case rel => exact ⟨k + 1, _, v4, zs, rfl, by first | rfl | (congr 1; done) | (congr 1; omega), hlt, F6⟩
    case measure => first | (simp [intOf]; done) | (simp [intOf]; omega)
  ·obtain rfl : k = n := by omega
   have e : l.take k = l := List.take_of_length_le (by have := LN.out; omega)
   have D := Lib.hid (show ∃ ys, ScAt wr p g (feedS s t) ys ∧ Went w wr p g xs ys from ⟨ys, by rw [FS.out, ← e]; exact F.out.scr, F.out.went⟩)
   clear F e
   go_wp2
   go_ret
   exact ⟨m, rfl, D.out⟩
end Sc
end Go.Proofs.YtaclmhopcfgbmaaGreatDoor
namespace Go.Proofs.YtaclmhopcfgbmaaGreatDoor
open Go.ChangeShapes Go.WideShapes Go.ChangeAt Go.RowKit
namespace Sc
open Rw
structure Rd (w : World) (A : Option Addr) (n : Nat) (xs : List RowIn) : Prop where
 head : Sq w w.heap.size 2 n A (xs.flatMap RowIn.vals)
 each : ∀ x ∈ xs, Sq w w.heap.size 3 x.n x.A (flat x.l) ∧ x.n ≤ 1000000
theorem Rd.below {w w' : World} {A : Option Addr} {n : Nat} {xs : List RowIn} (h : Rd w A n xs) (hb : Below w.heap.size w w') : Rd w' A n xs :=
 ⟨(h.head.below hb).up hb.size, fun x hx => ⟨((h.each x hx).1.below hb).up hb.size, (h.each x hx).2⟩⟩
theorem Rd.len {w : World} {A : Option Addr} {n : Nat} {xs : List RowIn} (h : Rd w A n xs) : xs.length = n := by
 have := h.head.len
 rw [flatMap_len RowIn.vals 2 (fun _ => rfl)] at this
 omega
theorem RowsIn.rd {w : World} {B n c : Nat} {A : Option Addr} {xs : List RowIn} (h : RowsIn w B (.slice A n c) xs) (hn : ∀ x ∈ xs, x.n ≤ 1000000) : Rd w A n xs := by
 obtain ⟨A', c', e, _⟩ := h.shape
 injection e with e1 e2 e3
 subst e1 e2 e3
 exact ⟨Sq.own h.own, fun x hx => ⟨HasC.sq (h.each x hx).1, hn x hx⟩⟩
theorem eqL_refl (l : List Cel) : eqL l l = true := by simp [eqL]
set_option maxRecDepth 100000 in
set_option maxHeartbeats 3200000 in
theorem eqRows_walk (A A' : Option Addr) (n c c' : Nat) (xs xs' : List RowIn) (w : World) (hn : n ≤ 1000000) (hq : Rd w A n xs) (hq' : Rd w A' n xs') (hs : xs.map sr = xs'.map sr) :
  Calls Tryz.prog 40 #[.slice A n c, .slice A' n c'] w fun e w' => e = .returned (.bool true) ∧ Below w.heap.size w w' := by
 have Q := Lib.hid hq
 have Q' := Lib.hid hq'
 have I0 := Lib.hid (Below.refl w.heap.size w)
 clear hq hq'
 go_enter Tryz.func40, Tryz.ntmps40
 go_wp2_with fail
 go_loopw [5] (fun i wr => ∃ k : Nat, i = .int .i64 (k : Int) ∧ k ≤ n ∧ Hid (Below w.heap.size w wr)) (fun i _ => n - (intOf i).toNat)
 case atStart => exact ⟨0, rfl, Nat.zero_le _, I0⟩
 case round =>
  obtain ⟨k, rfl, hk, I⟩ := hrel
  clear I0
  by_cases hlt : k < n
  ·have hx0 : k < xs.length := by rw [Q.out.len]; exact hlt
   have hx0' : k < xs'.length := by rw [Q'.out.len]; exact hlt
   obtain ⟨x, hx⟩ : ∃ x, xs[k]? = some x := ⟨_, List.getElem?_eq_getElem hx0⟩
   obtain ⟨x', hx'⟩ : ∃ x', xs'[k]? = some x' := ⟨_, List.getElem?_eq_getElem hx0'⟩
   have hsr : sr x = sr x' := by
    have := congrArg (fun z => z[k]?) hs
    simpa [List.getElem?_map, hx, hx'] using this
   have hb := I.out.drew
   have R := Q.out.below hb
   have R' := Q'.out.below hb
   obtain ⟨b, off, rfl, _, c0, c1⟩ := rows_at R.head hx hlt
   obtain ⟨b', off', rfl, _, c0', c1'⟩ := rows_at R'.head hx' hlt
   have hwl : x.wrap = x'.wrap ∧ x.l = x'.l := by injection hsr with h1 h2; exact ⟨h2, h1⟩
   have ER := Lib.hid (show Calls Tryz.prog 25 #[rowV x.A x.n x.c x.wrap, rowV x'.A x'.n x'.c x'.wrap] wr.drew fun e w' => e = .returned (.bool true) ∧ Below wr.drew.heap.size wr.drew w' from by
    refine (eqRow_walk x.A x'.A x.n x.c x'.n x'.c x.wrap x'.wrap x.l x'.l wr.drew (R.each x (List.mem_of_getElem? hx)).2 (R'.each x' (List.mem_of_getElem? hx')).2 (R.each x (List.mem_of_getElem? hx)).1 (R'.each x' (List.mem_of_getElem? hx')).1).mono ?_
    rintro e w' ⟨rfl, hb⟩
    rw [hwl.1, hwl.2, eqL_refl, beq_self_eq_true]
    exact ⟨rfl, hb⟩)
   have hk0 : (0 : Int) ≤ (k : Int) := by omega
   have hkn : (k : Int) < (n : Int) := by omega
   have hinc : IntKind.i64.wrap ((k : Int) + 1) = (k : Int) + 1 := IntWalk.i64_in _ (by omega)
   have HB := Lib.hid hb
   clear hb R R' hx hx' hsr hwl I hx0 hx0' hs Q Q'
   go_wp2_with fail
   refine wp_region_still_tail 8 (by kernel_rfl) (by kernel_rfl) ?_
   rw [show ({ wr with drawn := wr.drawn + 1 } : World) = wr.drew from rfl]
   generalize wr.drew = wd at c0 c1 c0' c1' ER HB ⊢
   simp only [List.take_succ_cons, List.take_zero, List.drop_succ_cons, List.drop_zero]
   repeat still_step
   refine wpStill_nil ?_
   go_wp2_with fail
   refine ER.out.mono ?_
   rintro e w2 ⟨rfl, b2⟩
   have I2 := Lib.hid (HB.out.trans (b2.mono HB.out.size))
   clear ER b2 HB c0 c1 c0' c1'
   go_wp2
   go_roundw
   case rel => exact ⟨k + 1, by first | rfl | (congr 1; done) | (congr 1; omega), by omega, I2⟩
   case measure => first | (simp [intOf]; done) | (simp [intOf]; omega)
  ·obtain rfl : k = n := by omega
   clear Q Q' hs
   go_wp2
   go_ret
   exact ⟨rfl, I.out⟩
end Sc
end Go.Proofs.YtaclmhopcfgbmaaGreatDoor
namespace Go.Proofs.YtaclmhopcfgbmaaGreatDoor
open Go.ChangeShapes Go.WideShapes Go.ChangeAt Go.RowKit
def shortS (s : ByteArray) (k : Nat) : ByteArray := s.extract 0 (min s.size k)
theorem shortS_size (s : ByteArray) (k : Nat) : (shortS s k).size ≤ k := by unfold shortS; rw [ByteArray.size_extract]; omega
theorem short_walk (s : ByteArray) (k : Nat) (w : World) :
  Calls Tryz.prog 50 #[.string s, .int .i64 k] w fun e w' => e = .returned (.string (shortS s k)) ∧ w = w' := by
 obtain ⟨m, hm⟩ : ∃ m : Nat, min (s.size : Int) (k : Int) = (m : Int) := ⟨min s.size k, by omega⟩
 have hm1 : m ≤ s.size := by omega
 have e : shortS s k = s.extract 0 m := by unfold shortS; congr 1; omega
 rw [e]
 clear e
 go_enter Tryz.func50, Tryz.ntmps50
 go_wp2
 go_ret
 exact ⟨rfl, rfl⟩
end Go.Proofs.YtaclmhopcfgbmaaGreatDoor
namespace Go.Proofs.YtaclmhopcfgbmaaGreatDoor
open Go.ChangeShapes Go.WideShapes Go.ChangeAt Go.RowKit
namespace Sc
open Rw
structure Wp (w0 : World) (p g : Nat) (s : Scr) (xs : List RowIn) (W : World) : Prop where
 old : Below w0.heap.size w0 W
 p0 : w0.heap.size ≤ p
 g0 : w0.heap.size ≤ g
 scr : ScAt W p g s xs
 spans : Spans W
namespace Wp
variable {w0 W W' : World} {p g : Nat} {s s' : Scr} {xs xs' : List RowIn}
theorem step (h : Wp w0 p g s xs W) (hs : ScAt W' p g s' xs') (hw : Went W W' p g xs xs') : Wp w0 p g s' xs' W' :=
 ⟨h.old.trans (hw.turned.toBelow h.old.size (fun k hk m => by have := h.p0; have := h.g0; omega)), h.p0, h.g0, hs, spans_went h.spans h.scr hw⟩
theorem laid (h : Wp w0 p g s xs W) (hb : Below W.heap.size W W') : Wp w0 p g s xs W' := h.step (h.scr.laid hb) (Went.laid hb)
theorem beside (h : Wp w0 p g s xs W) {p2 g2 : Nat} {s2 : Scr} {ys ys' : List RowIn} (k : Wp w0 p2 g2 s2 ys W) (hp : p ≠ p2) (hg : g ≠ g2) (hw : Went W W' p2 g2 ys ys') : Wp w0 p g s xs W' :=
 ⟨h.old.trans (hw.turned.toBelow h.old.size (fun j hj m => by have := k.p0; have := k.g0; omega)), h.p0, h.g0, h.scr.kept hw.turned (fun m => by
  rcases m with e | e
  ·exact hp e
  ·exact (h.scr.typ.apart k.scr.tyg (by decide)) e) (fun m => by
  rcases m with e | e
  ·exact (h.scr.tyg.apart k.scr.typ (by decide)) e
  ·exact hg e) k.scr.noC, spans_went k.spans k.scr hw⟩
theorem feed (h : Wp w0 p g s xs W) (t : ByteArray) (ht : t.size ≤ 1000) : Calls Tryz.prog 49 #[ptrS p, .string t] W fun e W' => ∃ m : Int, e = .returned (.int .i64 m) ∧ ∃ ys, Wp w0 p g (feedS s t) ys W' ∧ Went W W' p g xs ys := by
 refine (feed_walk t W ht h.spans h.scr).mono ?_
 rintro e W' ⟨m, rfl, ys, h1, h2⟩
 exact ⟨m, rfl, ys, h.step h1 h2, h2⟩
theorem do' (h : Wp w0 p g s xs W) (k r : Int) (A : Option Addr) (n c : Nat) (str : ByteArray) (l : List Int) (hr0 : -2147483648 ≤ r) (hr1 : r ≤ 2147483647) (h3 : k = 3 → 0 ≤ r ∧ r < 128) (hn : n ≤ 1000000) (ARG : ∀ W' ys, Went W W' p g xs ys → Sq W' W'.heap.size 1 n A (l.map (Value.int .i64))) :
  Calls Tryz.prog 39 #[ptrS p, .agg #[.int .i64 k, .int .i32 r, .slice A n c, .string str]] W fun e W' => ∃ Ao co xs', e = .returned (.slice Ao (doO s k r).length co) ∧ Wp w0 p g (doS s k r l) xs' W' ∧ Went W W' p g xs xs' := by
 refine (doAny_walk k r A n c str l W hr0 hr1 h3 hn h.spans h.scr ARG).mono ?_
 rintro e W' ⟨v, ys, xs', rfl, h1, h2, h3, ho, _⟩
 obtain ⟨A', c', rfl, _⟩ := h3.shape
 exact ⟨A', c', xs', by rw [← ho, List.length_map], h.step h1 h2, h2⟩
theorem new' (wd h : Int) (hB : Below w0.heap.size w0 W) (hs : Spans W) : Calls Tryz.prog 37 #[.int .i64 wd, .int .i64 h] W fun e W' => ∃ p g xs, e = .returned (ptrS p) ∧ Wp w0 p g (newS wd h) xs W' ∧ W.heap.size ≤ p ∧ W.heap.size ≤ g ∧ Below W.heap.size W W' := by
 refine (new_walk wd h W).mono ?_
 rintro e w3 ⟨p, g, xs, rfl, h3, hp, hg, hx3, b3⟩
 exact ⟨p, g, xs, rfl, ⟨hB.trans (b3.mono hB.size), by have := hB.size; omega, by have := hB.size; omega, h3, hs.below b3 hs.size⟩, hp, hg, b3⟩
theorem show' (h : Wp w0 p g s xs W) : Calls Tryz.prog 48 #[ptrS p] W fun e W' => ∃ A c ys, e = .returned (.slice A s.rows.length c) ∧ Rd W' A s.rows.length ys ∧ ys.map sr = s.rows ∧ Below W.heap.size W W' := by
 refine (rows_walk W h.scr).mono ?_
 rintro e W' ⟨v, ys, rfl, SH⟩
 obtain ⟨A, c, rfl, _⟩ := SH.rows.shape
 have hl : ys.length = s.rows.length := by rw [← SH.same, List.length_map]
 have hr := RowsIn.rd SH.rows (fun x hx => by rw [(SH.each x hx).1]; have := h.scr.ok.w3; omega)
 rw [hl] at hr
 exact ⟨A, c, ys, by rw [hl], hr, SH.same, SH.old⟩
end Wp
theorem block_arg {w W : World} {p g b n : Nat} {s : Scr} {xs ys : List RowIn} {l : List Int} {fr : Nat × Nat} (hl : l.length = n) (hb : w.heap[b]? = some (.cells (l.map (Value.int .i64)).toArray 3 fr)) (hs : ScAt w p g s xs) (hw : Went w W p g xs ys) : Sq W W.heap.size 1 n (some ⟨b, 0, none⟩) (l.map (Value.int .i64)) := by
 have hlt := (Array.getElem?_eq_some_iff.1 hb).1
 have e : W.heap[b]? = some (.cells (l.map (Value.int .i64)).toArray 3 fr) := (hw.turned.block b hlt (fun m => by
  rcases m with rfl | rfl
  ·exact hs.typ.apart ⟨_, _, hb⟩ (by decide) rfl
  ·exact hs.tyg.apart ⟨_, _, hb⟩ (by decide) rfl)).trans hb
 refine ⟨by rw [List.length_map, hl, Nat.mul_one], fun _ => ⟨b, 0, rfl, (Array.getElem?_eq_some_iff.1 e).1, fun j u hu => ?_⟩⟩
 rw [Nat.zero_add, cell_of_row _ b j _ _ fr e, List.getElem?_toArray]
 exact hu
theorem eql_pos (x y : Int) (w : World) : (binOp .eql 68 (.agg #[.int .i64 x, .int .i64 y]) (.agg #[.int .i64 x, .int .i64 y])).run Tryz.prog w = .ok (.bool true) w := by
 have h1 : (x == x) = true := by simp
 have h2 : (y == y) = true := by simp
 go_simp
theorem newS_dims (w h : Int) : (newS w h).w = (min (max w 2) 300).toNat ∧ (newS w h).rows.length = (min (max h 1) 100).toNat := ⟨rfl, by simp [newS]⟩
theorem feedS_dims {s : Scr} (t : ByteArray) (h : 1 ≤ s.rows.length) : (feedS s t).w = s.w ∧ (feedS s t).rows.length = s.rows.length := runE_dims _ _ h
theorem mayL_row {w : Nat} {x : SR} (h : RowOk w x) (h3 : w ≤ 300) : mayL x.1 = true := (mayL_iff _).2 ⟨by rw [h.2.1]; exact h3, h.1⟩
theorem eraseR_at {w k m : Nat} {x : SR} (h : RowOk w x) (h3 : w ≤ 300) (hm : k + m ≤ w) (h0 : 0 < m) : eraseR (k : Int) ((k + m : Nat) : Int) x = (ovL x.1 k (blanksL m), if k + m = w then false else x.2) := by
 have hok : eraseOk x.1 (k : Int) ((k + m : Nat) : Int) = true := by
  unfold eraseOk
  rw [mayL_row h h3, h.2.1, decide_eq_true (show (0 : Int) ≤ (k : Int) by omega), decide_eq_true (show (k : Int) ≤ ((k + m : Nat) : Int) by omega), decide_eq_true (show ((k + m : Nat) : Int) ≤ (w : Int) by omega)]
  rfl
 have hlt : decide ((k : Int) < ((k + m : Nat) : Int)) = true := decide_eq_true (by omega)
 unfold eraseR eraseRes eraseWrap
 rw [hok, hlt, h.2.1, Int.toNat_natCast, show (((k + m : Nat) : Int) - (k : Int)).toNat = m by omega]
 simp only [Bool.and_self, if_true, Bool.true_and]
 congr 1
 by_cases e : k + m = w
 ·rw [if_pos e, if_pos (by rw [e]; simp)]
 ·rw [if_neg e, if_neg (by simp; omega)]
theorem eraseR_all {w : Nat} {x : SR} (h : RowOk w x) (h0 : 0 < w) (h3 : w ≤ 300) : eraseR 0 (w : Int) x = (blanksL w, false) := by
 have e := eraseR_at (k := 0) (m := w) h h3 (by omega) h0
 rw [Nat.zero_add, if_pos rfl] at e
 rw [show (0 : Int) = ((0 : Nat) : Int) by rfl, e]
 congr 1
 refine ext_cAt (by rw [ovL_length, h.2.1, blanksL_length]) fun i hi => ?_
 rw [ovL_length, h.2.1] at hi
 rw [ovL_at (by rw [h.2.1]; exact hi)]
 unfold ovS
 rw [if_pos ⟨Nat.zero_le _, by rw [blanksL_length]; omega⟩, cAt_blanksL, cAt_blanksL]
theorem rowsE_all {s : Scr} (h : Ok s) : ∀ k, k ≤ s.rows.length → (rowsE s 0 k).rows = List.replicate k (blanksL s.w, false) ++ s.rows.drop k := by
 intro k
 induction k with
 | zero => intro _; simp [rowsE]
 | succ k ih =>
  intro hk
  have hw := h.w2
  obtain ⟨x, hx⟩ : ∃ x, s.rows[k]? = some x := ⟨_, List.getElem?_eq_getElem (by omega)⟩
  rw [rowsE_snoc, Nat.zero_add]
  show (rowsE s 0 k).rows.modify k (eraseR 0 (s.w : Int)) = _
  rw [ih (by omega)]
  have hd : s.rows.drop k = x :: s.rows.drop (k + 1) := by
   rw [List.drop_eq_getElem_cons (by omega)]
   congr 1
   have := (List.getElem?_eq_some_iff.1 hx).2
   exact this
  refine List.ext_getElem? fun i => ?_
  rw [List.getElem?_modify, hd, List.replicate_succ', List.append_assoc, List.getElem?_append, List.getElem?_append, List.length_replicate]
  by_cases h1 : i < k
  ·rw [if_pos h1, if_pos h1, List.getElem?_replicate, if_pos h1]
   simp [show ¬ k = i by omega]
  ·rw [if_neg h1, if_neg h1]
   by_cases h2 : k = i
   ·subst h2
    simp [eraseR_all (h.each x (List.mem_of_getElem? hx)) (by omega) h.w3]
   ·obtain ⟨j, hj⟩ : ∃ j, i - k = j + 1 := ⟨i - k - 1, by omega⟩
    rw [hj]
    simp [h2]
end Sc
end Go.Proofs.YtaclmhopcfgbmaaGreatDoor
namespace Go.Proofs.YtaclmhopcfgbmaaGreatDoor
open Go.ChangeShapes Go.WideShapes Go.ChangeAt Go.RowKit
namespace Sc
open Rw
set_option maxRecDepth 100000 in
set_option maxHeartbeats 1600000 in
theorem size_walk {p g : Nat} {s : Scr} {xs : List RowIn} (w : World) (h : ScAt w p g s xs) : Calls Tryz.prog 45 #[ptrS p] w fun e w' => e = .returned (.tuple #[.int .i64 (s.w : Int), .int .i64 (s.rows.length : Int)]) ∧ Below w.heap.size w w' := by
 have k0 : w.drew.cell? ⟨p, 0, none⟩ = some (.int .i64 (s.w : Int)) := h.get 0
 have k1 : w.drew.cell? ⟨p, 1, none⟩ = some (.slice (some ⟨g, 0, none⟩) s.rows.length s.rows.length) := h.get 1
 have B := Lib.hid (Below.refl w.heap.size w).drew
 clear h
 go_enter Tryz.func45, Tryz.ntmps45
 go_wp2_with fail
 go_region
 all_goals go_wp2
 all_goals exact bodyPost_ret (v := .tuple #[.int .i64 (s.w : Int), .int .i64 (s.rows.length : Int)]) (by simp [results, Tryz.results45, go_sem]) rfl ⟨rfl, B.out⟩
theorem downO_ok {s : Scr} (h : Ok s) : ∀ x ∈ downO s, RowOk s.w x := by
 unfold downO
 intro x hx
 split at hx
 ·cases hx
 ·exact h.each x (List.mem_of_mem_take hx)
theorem doO_ok {s : Scr} (h : Ok s) (k r : Int) : ∀ x ∈ doO s k r, RowOk s.w x := by
 unfold doO
 split
 ·unfold printO
  split
  ·intro x hx; cases hx
  ·unfold roomO
   split
   ·unfold wrapO
    have := downO_ok h.pad.mark
    rwa [show (markS (padS s)).w = s.w from (padS_w s).1] at this
   ·intro x hx; cases hx
 ·split
  ·unfold ctrlO
   split
   ·exact downO_ok h.leave
   ·intro x hx; cases hx
  ·intro x hx; cases hx
theorem doO_len (s : Scr) (k r : Int) : (doO s k r).length ≤ 1 := by
 have hd : ∀ s : Scr, (downO s).length ≤ 1 := fun s => by
  unfold downO
  split
  ·exact Nat.zero_le _
  ·exact List.length_take_le _ _
 unfold doO printO roomO wrapO ctrlO
 repeat' split
 all_goals first | exact Nat.zero_le _ | exact hd _
end Sc
end Go.Proofs.YtaclmhopcfgbmaaGreatDoor
