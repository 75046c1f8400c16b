/-
  The reference's One and value, walked.
-/
import Derived.Test.YtbhfhkmcnomggaaDoorForms
import Derived.Deep.QuietTactic
import Derived.BigQuiet
namespace Go.Proofs.YtbhfhkmcnomggaaDoor
open Go.ChangeShapes Go.WideShapes Go.ChangeAt Go.RowKit

theorem nth_zero (a : Int) (l : List Int) : nth (a :: l) 0 = a := rfl
theorem nth_succ (a : Int) (l : List Int) (j : Nat) : nth (a :: l) (j + 1) = nth l j := rfl
theorem mt_lt : ∀ (lo hi s : List Int) (j : Nat), j < mt lo hi s → j < lo.length ∧ j < hi.length ∧ j < s.length ∧ nth lo j ≤ nth s j ∧ nth s j ≤ nth hi j
  | [], _, _, j, h => by simp [mt] at h
  | _ :: _, [], _, j, h => by simp [mt] at h
  | _ :: _, _ :: _, [], j, h => by simp [mt] at h
  | a :: lo, b :: hi, x :: s, j, h => by
    by_cases hx : a ≤ x ∧ x ≤ b
    · rw [mt_yes hx] at h
      cases j with
      | zero => exact ⟨by simp, by simp, by simp, hx.1, hx.2⟩
      | succ j =>
        have := mt_lt lo hi s j (by omega)
        simp only [List.length_cons, nth_succ]
        omega
    · rw [mt_no hx] at h; omega
theorem mt_stop : ∀ (lo hi s : List Int), lo.length = hi.length → mt lo hi s = lo.length ∨ (mt lo hi s < lo.length ∧ (mt lo hi s = s.length ∨ (mt lo hi s < s.length ∧ (nth s (mt lo hi s) < nth lo (mt lo hi s) ∨ (nth lo (mt lo hi s) ≤ nth s (mt lo hi s) ∧ nth hi (mt lo hi s) < nth s (mt lo hi s))))))
  | [], _, _, _ => by simp [mt]
  | _ :: _, [], _, h => by simp at h
  | _ :: _, _ :: _, [], _ => by simp [mt]
  | a :: lo, b :: hi, x :: s, h => by
    by_cases hx : a ≤ x ∧ x ≤ b
    · have := mt_stop lo hi s (by simpa using h)
      rw [mt_yes hx]
      simp only [List.length_cons, nth_succ]
      omega
    · rw [mt_no hx]
      simp only [List.length_cons, nth_zero]
      omega
theorem Octs.at {w w' : World} {B g : Nat} {l : List Int} (h : Octs w g l) (hb : Below B w w') (hB : w.heap.size ≤ B) {j : Nat} (hj : j < l.length) : w'.cell? ⟨g, j, none⟩ = some (.int .u8 (nth l j)) :=
  (h.below hb hB).2 j _ (by rw [nth_get hj]; simp [hj])
theorem below_drewN' {B : Nat} {a w : World} (h : Below B a w) (q : Nat) : Below B a (w.drewN q) := ⟨h.os, h.tape, h.output, h.size, h.block⟩
theorem ret_pair {p : Nat × Bool} {n : Nat} {b : Bool} (h : p = (n, b)) : Ending.returned (.tuple #[.int .i64 n, .bool b]) = .returned (.tuple #[.int .i64 p.1, .bool p.2]) := by rw [h]
theorem max_if (best j : Nat) : Value.int .i64 (if best < j then (j : Int) else (best : Int)) = .int .i64 ((max best j : Nat) : Int) := by split <;> congr 1 <;> omega
theorem form_sizes : ∀ f ∈ formL, f.1.length = f.2.length ∧ 1 ≤ f.1.length ∧ f.1.length ≤ 4 := by decide

set_option maxHeartbeats 4000000 in
theorem refOne_walk (s : ByteArray) (hs : s.size ≤ 274877906944) (w : World) :
    Calls Tryd.prog 40 #[.string s] w fun e w' => e = .returned (.tuple #[.int .i64 (oneL (octs s)).1, .bool (oneL (octs s)).2]) ∧ Below w.heap.size w w' := by
  have LS := Lib.hid (octs_length s)
  go_enter Tryd.func40, Tryd.ntmps40
  go_wp2_with (go_at_call 48; refine (forms_walk _).mono ?_; rintro e w1 ⟨g, rfl, hg, hF, hb1⟩)
  have F := Lib.hid hF
  have B1 := Lib.hid hb1
  clear hF hb1 hg
  go_loopw [5, 6] (fun b i wr => ∃ k best : Nat, k ≤ 9 ∧ b = .int .i64 best ∧ i = .int .i64 k ∧ Hid (oneGo (octs s) (formL.drop k) best = oneL (octs s)) ∧ Below w1.heap.size w1 wr ∧ best ≤ 4) (fun _ i _ => 9 - (intOf i).toNat)
  case atStart => exact ⟨0, 0, by omega, rfl, rfl, Lib.hid rfl, Below.refl _ _, by omega⟩
  case round =>
    obtain ⟨k, best, hk, rfl, rfl, GO, hb, hbest⟩ := hrel
    by_cases hlt : k < 9
    · obtain ⟨f, hf⟩ : ∃ f, formL[k]? = some f := ⟨formL[k], List.getElem?_eq_getElem hlt⟩
      obtain ⟨a, b, ca, cb, oa, ob⟩ := F.out.2 k f hf
      obtain ⟨z1, z2, z3⟩ := form_sizes f (List.mem_of_getElem? hf)
      have hdrop : formL.drop k = f :: formL.drop (k + 1) := by
        obtain ⟨h1, h2⟩ := List.getElem?_eq_some_iff.1 hf
        rw [List.drop_eq_getElem_cons h1, h2]
      have HD := Lib.hid hdrop
      clear hdrop hf
      obtain ⟨lo, hi⟩ := f
      obtain ⟨L, hL⟩ : ∃ L, lo.length = L := ⟨_, rfl⟩
      simp only at z1 z2 z3 ca cb oa ob
      rw [hL] at ca cb z2 z3
      have ST := mt_stop lo hi (octs s) z1
      have LT := mt_lt lo hi (octs s)
      have ML := mt_le lo hi (octs s)
      rw [hL] at ST ML
      have HL := Lib.hid hL
      have Z1 := Lib.hid z1
      clear hL z1
      obtain ⟨M, hM⟩ : ∃ M, mt lo hi (octs s) = M := ⟨_, rfl⟩
      rw [hM] at ST ML LT
      have HM := Lib.hid hM
      clear hM
      have ST' := Lib.hid ST
      have LT' := Lib.hid LT
      clear ST LT
      rw [show 2 * k = k * 2 by omega] at ca cb
      have K0 := Lib.hid ca
      have K1 := Lib.hid cb
      have OA := Lib.hid oa
      have OB := Lib.hid ob
      clear ca cb oa ob
      obtain ⟨wo, rfl⟩ : ∃ wo : World, wo = wr := ⟨_, rfl⟩
      have HB := Lib.hid hb
      clear hb
      go_wp2_with fail
      go_loopw [7] (fun n wr => ∃ j : Nat, n = .int .i64 j ∧ j ≤ M ∧ Below w1.heap.size w1 wr) (fun n _ => M - (intOf n).toNat)
      case atStart => exact ⟨0, rfl, Nat.zero_le _, HB.out⟩
      case round =>
        obtain ⟨j, rfl, hj, hbi⟩ := hrel
        have k0 : wr.cell? ⟨g, k * 2, none⟩ = some (.slice (some ⟨a, 0, none⟩) L L) := (hbi.cell (p := ⟨g, k * 2, none⟩) F.out.1).trans K0.out
        have k1 : wr.cell? ⟨g, k * 2 + 1, none⟩ = some (.slice (some ⟨b, 0, none⟩) L L) := (hbi.cell (p := ⟨g, k * 2 + 1, none⟩) F.out.1).trans K1.out
        have HI := Lib.hid hbi
        have FA := Lib.hid (fun (h : j < L) => OA.out.at hbi (Nat.le_refl _) (j := j) (by rw [HL.out]; exact h))
        have FB := Lib.hid (fun (h : j < L) => OB.out.at hbi (Nat.le_refl _) (j := j) (by rw [← Z1.out, HL.out]; exact h))
        clear hbi
        by_cases hjm : j < M
        · obtain ⟨q1, _, q3, q4, q5⟩ := LT'.out j hjm
          rw [HL.out] at q1
          rw [LS.out] at q3
          have e := nth_octs s j q3
          rw [e] at q4 q5
          have fa := FA.out q1
          have fb := FB.out q1
          clear e
          go_wp2_with fail
          go_quiet (fail)
          go_wp2
          go_roundw
          case rel => exact ⟨j + 1, by go_num, by omega, below_drewN' HI.out _⟩
          case measure => simp [intOf]; omega
        · obtain rfl : j = M := by omega
          have hfin : ∀ e : oneGo (octs s) (formL.drop k) best = oneL (octs s), (j = L → oneL (octs s) = (j, true)) ∧ (j ≠ L → oneGo (octs s) (formL.drop (k + 1)) (max best j) = oneL (octs s)) := by
            intro e
            rw [HD.out] at e
            unfold oneGo at e
            simp only [HM.out, HL.out] at e
            refine ⟨fun h => ?_, fun h => ?_⟩
            · rw [if_pos h] at e; exact e.symm
            · rw [if_neg h] at e; exact e
          have FIN := Lib.hid (hfin GO.out)
          clear hfin
          rcases ST'.out with hst | ⟨hst, hst2 | ⟨hst2, hst3 | ⟨hst3, hst4⟩⟩⟩
          · subst hst
            have hd : decide (j < j) = false := by simp
            have FT := Lib.hid (FIN.out.1 rfl)
            clear FIN
            go_wp2_with fail
            go_quiet (fail)
            go_wp2
            go_ret2
            exact ⟨ret_pair FT.out, B1.out.trans ((below_drewN' HI.out _).mono B1.out.size)⟩
          · have hge : ¬ j < s.size := by have := LS.out; omega
            have hd : decide (j < s.size) = false := by simpa using hge
            have hne : ¬ j = L := by omega
            have hne' : ((j : Int) == (L : Int)) = false := by simp; omega
            clear hst2
            go_wp2_with fail
            go_quiet (fail)
            go_wp2
            go_roundw
            case rel => exact ⟨k + 1, max best j, by omega, max_if best j, by go_num, Lib.hid (FIN.out.2 hne), below_drewN' HI.out _, by omega⟩
            case measure => simp [intOf]; omega
          · rw [LS.out] at hst2
            rw [nth_octs s j hst2] at hst3
            have fa := FA.out hst
            have fb := FB.out hst
            have hne : ¬ j = L := by omega
            have hne' : ((j : Int) == (L : Int)) = false := by simp; omega
            have hd : decide (nth lo j ≤ ((s[j]'hst2).toNat : Int)) = false := by simp; omega
            go_wp2_with fail
            go_quiet (fail)
            go_wp2
            go_roundw
            case rel => exact ⟨k + 1, max best j, by omega, max_if best j, by go_num, Lib.hid (FIN.out.2 hne), below_drewN' HI.out _, by omega⟩
            case measure => simp [intOf]; omega
          · rw [LS.out] at hst2
            rw [nth_octs s j hst2] at hst3 hst4
            have fa := FA.out hst
            have fb := FB.out hst
            have hne : ¬ j = L := by omega
            have hne' : ((j : Int) == (L : Int)) = false := by simp; omega
            have hd : decide (((s[j]'hst2).toNat : Int) ≤ nth hi j) = false := by simp; omega
            go_wp2_with fail
            go_quiet (fail)
            go_wp2
            go_roundw
            case rel => exact ⟨k + 1, max best j, by omega, max_if best j, by go_num, Lib.hid (FIN.out.2 hne), below_drewN' HI.out _, by omega⟩
            case measure => simp [intOf]; omega
    · obtain rfl : k = 9 := by omega
      have E := GO.out
      simp only [formL, List.drop, oneGo] at E
      have EH := Lib.hid E
      clear E GO
      go_wp2
      go_ret2
      exact ⟨ret_pair EH.out.symm, B1.out.trans (hb.mono B1.out.size)⟩
end Go.Proofs.YtbhfhkmcnomggaaDoor
