/-
  The reference's parser of escapes: Put, in a CSI, in an OSC. The reference's parser of escapes: Put, in an OSC; Put in any place. The reference's parser beside what else turns.
-/
import Derived.Test.YtaclmhopcfgbmaaGreatDoorQEscRef0
namespace Go.Proofs.YtaclmhopcfgbmaaGreatDoor
open Go.ChangeShapes Go.WideShapes Go.ChangeAt Go.RowKit
namespace Esc
variable {B : Nat}
theorem infoRune : (Tryz.prog.info? 21).map (fun i => (i.zero, i.size, i.bytes)) = some (some (.int .i32 0), 1, 4) := by kernel_rfl
theorem runes_snoc {t : List Int} {r : Int} (h : Runes t) (hr0 : -2147483648 ≤ r) (hr1 : r ≤ 2147483647) : Runes (t ++ [r]) := by
 intro x hx
 rcases List.mem_append.1 hx with hx | hx
 ·exact h x hx
 ·rw [List.mem_singleton.1 hx]; exact ⟨hr0, hr1⟩
theorem RAt.more {w w' : World} {g : Nat} {v v' : Value} {st st' : St} {t : List Int} {r : Int} (h : RAt w B g v st) (ht : signsOf st = some t) (hp : placeN st' = placeN st) (hs : signsOf st' = some (t ++ [r])) (hr0 : -2147483648 ≤ r) (hr1 : r ≤ 2147483647)
  (hg : w.grownBy w' v.ownBlock) (hv : HasR w' B v' (t ++ [r])) : RAt (w'.setCell ⟨g, 1, none⟩ v') B g v' st' ∧ Turned (Own g v) w (w'.setCell ⟨g, 1, none⟩ v') := by
 have hx := h.text t ht
 have hne : v.ownBlock ≠ some g := fun e => (hx.1.typed g e).apart ⟨_, _, h.cells⟩ (by decide) rfl
 have hc : RCells w' g #[.int .i64 (placeN st), v] := (hg.block g h.lt (fun e => hne e.symm)).trans h.cells
 have o := OnlyRow.cell g 1 w' v'
 have hk := hv.kept (w' := w'.setCell ⟨g, 1, none⟩ v') (fun k e => o.block k fun e2 => by subst e2; exact (hv.typed k e).apart ⟨_, _, hc⟩ (by decide) rfl)
 refine ⟨⟨by rw [hp]; exact heap_setCell_same w' g 1 _ _ _ hc, ⟨_, hk⟩, fun t' ht' => ?_⟩, (Turned.ofGrown hg).mono (fun k _ e => .inr e) |>.trans (Turned.ofOnly o) (fun k _ e => .inl e)⟩
 rw [hs] at ht'
 injection ht' with ht'
 subst ht'
 exact ⟨hk, runes_snoc hx.2 hr0 hr1⟩
set_option maxRecDepth 100000 in
set_option maxHeartbeats 3200000 in
theorem rcsi_walk (g : Nat) (A : Option Addr) (n c : Nat) (t : List Int) (r : Int) (w : World) (hB : B ≤ w.heap.size) (h : RAt w B g (.slice A n c) (.csi t)) (ht : t.length ≤ 1000000) (hr0 : -2147483648 ≤ r) (hr1 : r ≤ 2147483647) :
  Calls Tryz.prog 46 #[ptrP g, .int .i32 r] w fun e w' => RPost B g (.slice A n c) (stepS (.csi t) r) (stepE (.csi t) r) w e w' := by
 have hgl := h.lt
 have c0 : w.cell? ⟨g, 0, none⟩ = some (.int .i64 2) := cell_of_row _ g 0 _ _ (0, 0) h.cells
 have f0 : w.frozen? ⟨g, 0, none⟩ = false := frozen_of_row _ g 0 _ _ h.cells
 have c1 : w.cell? ⟨g, 1, none⟩ = some (.slice A n c) := cell_of_row _ g 1 _ _ (0, 0) h.cells
 have f1 : w.frozen? ⟨g, 1, none⟩ = false := frozen_of_row _ g 1 _ _ h.cells
 by_cases h27 : r = 27
 ·subst h27
  have o1 := OnlyRow.cell g 0 w (.int .i64 1)
  have R1 := h.put .esc (.inl rfl)
  have F := Lib.hid (fin2 (o := none) o1.size R1 ((Turned.ofOnly o1).mono (fun k _ e => .inl e) : Turned (Own g (.slice A n c)) w _) 0 0 ⟨#[]⟩ (fun x hx => by cases hx))
  have hs : stepS (.csi t) 27 = .esc := rfl
  have he : stepE (.csi t) 27 = none := rfl
  rw [hs, he]
  clear h hs he o1 R1
  go_enter Tryz.func46, Tryz.ntmps46
  go_wp2
  generalize ((w.setCell ⟨g, 0, none⟩ (.int .i64 1)).alloc (.cells #[.int .i64 0, .int .i32 0, (.slice none 0 0), .string ⟨#[]⟩] 35)) = w4 at F ⊢
  have q0 : w4.cell? ⟨w.heap.size, 0, none⟩ = some (.int .i64 0) := cell_of_row _ _ 0 _ _ (0, 0) F.out.2
  have q1 : w4.cell? ⟨w.heap.size, 1, none⟩ = some (.int .i32 0) := cell_of_row _ _ 1 _ _ (0, 0) F.out.2
  have q2 : w4.cell? ⟨w.heap.size, 2, none⟩ = some (.slice none 0 0) := cell_of_row _ _ 2 _ _ (0, 0) F.out.2
  have q3 : w4.cell? ⟨w.heap.size, 3, none⟩ = some (.string ⟨#[]⟩) := cell_of_row _ _ 3 _ _ (0, 0) F.out.2
  exact bodyPost_ret (by simp [results, Tryz.results46, go_sem, q0, q1, q2, q3] <;> rfl) rfl F.out.1
 have b27 : (r == 27) = false := by simp; omega
 by_cases h32 : r < 32
 ·have o1 := OnlyRow.cell g 0 w (.int .i64 0)
  have R1 := h.put .rest (.inl rfl)
  have F := Lib.hid (fin2 (o := none) o1.size R1 ((Turned.ofOnly o1).mono (fun k _ e => .inl e) : Turned (Own g (.slice A n c)) w _) 0 0 ⟨#[]⟩ (fun x hx => by cases hx))
  have hs : stepS (.csi t) r = .rest := by simp only [stepS]; rw [if_neg (by omega), if_neg h27, if_pos h32]
  have he : stepE (.csi t) r = none := by simp only [stepE]; rw [if_neg (by omega)]
  rw [hs, he]
  clear h hs he o1 R1
  go_enter Tryz.func46, Tryz.ntmps46
  go_wp2
  generalize ((w.setCell ⟨g, 0, none⟩ (.int .i64 0)).alloc (.cells #[.int .i64 0, .int .i32 0, (.slice none 0 0), .string ⟨#[]⟩] 35)) = w4 at F ⊢
  have q0 : w4.cell? ⟨w.heap.size, 0, none⟩ = some (.int .i64 0) := cell_of_row _ _ 0 _ _ (0, 0) F.out.2
  have q1 : w4.cell? ⟨w.heap.size, 1, none⟩ = some (.int .i32 0) := cell_of_row _ _ 1 _ _ (0, 0) F.out.2
  have q2 : w4.cell? ⟨w.heap.size, 2, none⟩ = some (.slice none 0 0) := cell_of_row _ _ 2 _ _ (0, 0) F.out.2
  have q3 : w4.cell? ⟨w.heap.size, 3, none⟩ = some (.string ⟨#[]⟩) := cell_of_row _ _ 3 _ _ (0, 0) F.out.2
  exact bodyPost_ret (by simp [results, Tryz.results46, go_sem, q0, q1, q2, q3] <;> rfl) rfl F.out.1
 obtain ⟨hx, hru⟩ := h.text t rfl
 have hnt : t.length = n := by
  obtain ⟨A', c', e⟩ := HasR.shape hx
  injection e with _ e _
  exact e.symm
 by_cases h64 : 64 ≤ r ∧ r ≤ 126
 ·have hs : stepS (.csi t) r = .rest := by simp only [stepS]; rw [if_pos h64]
  have he : stepE (.csi t) r = csiEv t r := by simp only [stepE]; rw [if_pos h64]
  rw [hs, he]
  obtain ⟨ha, hb⟩ := h64
  have o1 := OnlyRow.cell g 0 w (.int .i64 0)
  have R1 := Lib.hid (h.put .rest (.inl rfl))
  have X1 := Lib.hid (hx.kept (w' := w.setCell ⟨g, 0, none⟩ (.int .i64 0)) (fun k e => o1.block k fun e2 => by subst e2; exact (hx.typed k e).apart ⟨_, _, h.cells⟩ (by decide) rfl))
  have T1 := Lib.hid (show Turned (Own g (.slice A n c)) w (w.setCell ⟨g, 0, none⟩ (.int .i64 0)) from (Turned.ofOnly o1).mono (fun k _ e => .inl e))
  have S1 := Lib.hid (show (w.setCell ⟨g, 0, none⟩ (.int .i64 0)).heap.size = w.heap.size from o1.size)
  have HGL := Lib.hid hgl
  clear h hs he hx hru o1
  go_enter Tryz.func46, Tryz.ntmps46
  go_wp2_with fail
  obtain ⟨g1, hg1⟩ : ∃ g1, w.heap.size = g1 := ⟨_, rfl⟩
  have HG1 := Lib.hid hg1
  rw [hg1] at S1 ⊢
  have R1' := Lib.hid (show RAt (w.setCell ⟨g, 0, none⟩ (.int .i64 0)) B g (.slice A n c) .rest from R1.out)
  clear R1
  generalize w.setCell ⟨g, 0, none⟩ (.int .i64 0) = w1 at R1' X1 T1 S1 ⊢
  have b2 := (Below.refl w1.heap.size w1).alloc (Nat.le_refl _) (.cells #[.int .i64 0, .int .i32 0, .slice none 0 0, .string ⟨#[]⟩] 35)
  have R2 := Lib.hid (R1'.out.laid b2)
  have E2 := Lib.hid (evz_new w1 S1.out)
  have X2 := Lib.hid (X1.out.kept (w' := w1.alloc (.cells #[.int .i64 0, .int .i32 0, .slice none 0 0, .string ⟨#[]⟩] 35)) (fun k e => b2.block k (X1.out.lt k e).2))
  have T2 := Lib.hid (Turned.laidMore T1.out b2)
  clear b2 c0 f0 c1 f1 hg1 R1' X1 T1
  generalize w1.alloc (.cells #[.int .i64 0, .int .i32 0, .slice none 0 0, .string ⟨#[]⟩] 35) = w2 at R2 E2 X2 T2 ⊢
  refine (numbers_walk A n c t w2 (by omega) (HasR.sq X2.out)).mono ?_
  rintro e w3 ⟨va, rfl, hnum, ⟨A5, n5, c5, rfl⟩, b3⟩
  have E3 := Lib.hid (show ECells w3 g1 #[.int .i64 0, .int .i32 0, .slice none 0 0, .string ⟨#[]⟩] from (b3.block g1 (Array.getElem?_eq_some_iff.1 E2.out).1).trans E2.out)
  have T3 := Lib.hid (Turned.laidMore T2.out b3)
  have F := Lib.hid (fin (o := csiEv t r) E3.out (Nat.le_of_eq HG1.out) HGL.out (R2.out.laid b3) T3.out 3 r A5 n5 c5 ⟨#[]⟩ (fun x hx => by
   unfold csiEv at hx
   split at hx
   ·cases hx
   ·rename_i hbd
    injection hx with hx
    subst hx
    exact ⟨rfl, rfl, rfl, (hnum (by simpa using hbd)).base T2.out.size⟩))
  have CS := Lib.hid (show (csiEv t r).isSome = (!bad t) by unfold csiEv; cases bad t <;> rfl)
  have e0 : w3.cell? ⟨g1, 0, none⟩ = some (.int .i64 0) := cell_of_row _ g1 0 _ _ (0, 0) E3.out
  have e1 : w3.cell? ⟨g1, 1, none⟩ = some (.int .i32 0) := cell_of_row _ g1 1 _ _ (0, 0) E3.out
  have e2 : w3.cell? ⟨g1, 2, none⟩ = some (.slice none 0 0) := cell_of_row _ g1 2 _ _ (0, 0) E3.out
  have e3 : w3.cell? ⟨g1, 3, none⟩ = some (.string ⟨#[]⟩) := cell_of_row _ g1 3 _ _ (0, 0) E3.out
  have y0 := frozen_of_row _ g1 0 _ _ E3.out
  have y1 := frozen_of_row _ g1 1 _ _ E3.out
  have y2 := frozen_of_row _ g1 2 _ _ E3.out
  have y3 := frozen_of_row _ g1 3 _ _ E3.out
  rw [CS.out] at F
  clear hnum b3 R2 E2 X2 T2 T3 E3 CS
  go_wp2
  generalize ((((w3.setCell ⟨g1, 0, none⟩ (.int .i64 3)).setCell ⟨g1, 1, none⟩ (.int .i32 r)).setCell ⟨g1, 2, none⟩ (.slice A5 n5 c5)).setCell ⟨g1, 3, none⟩ (.string ⟨#[]⟩)) = w4 at F ⊢
  have q0 : w4.cell? ⟨g1, 0, none⟩ = some (.int .i64 3) := cell_of_row _ _ 0 _ _ (0, 0) F.out.2
  have q1 : w4.cell? ⟨g1, 1, none⟩ = some (.int .i32 r) := cell_of_row _ _ 1 _ _ (0, 0) F.out.2
  have q2 : w4.cell? ⟨g1, 2, none⟩ = some (.slice A5 n5 c5) := cell_of_row _ _ 2 _ _ (0, 0) F.out.2
  have q3 : w4.cell? ⟨g1, 3, none⟩ = some (.string ⟨#[]⟩) := cell_of_row _ _ 3 _ _ (0, 0) F.out.2
  exact bodyPost_ret (by simp [results, Tryz.results46, go_sem, q0, q1, q2, q3] <;> rfl) rfl F.out.1
 ·have hs : stepS (.csi t) r = .csi (t ++ [r]) := by simp only [stepS]; rw [if_neg h64, if_neg h27, if_neg h32]
  have he : stepE (.csi t) r = none := by simp only [stepE]; rw [if_neg h64]
  rw [hs, he]
  have d32 : decide (r < 32) = false := by simp; omega
  rcases (show (64 ≤ r ∧ ¬ r ≤ 126) ∨ ¬ 64 ≤ r by omega) with ⟨ha, hb⟩ | ha
  all_goals
   obtain ⟨iR, hiR, rz0, rz1, rz2⟩ := info_parts infoRune
   have bz := (Below.refl w.heap.size w).alloc (Nat.le_refl _) (.cells #[.int .i64 0, .int .i32 0, .slice none 0 0, .string ⟨#[]⟩] 35)
   have hz1 : (w.alloc (.cells #[.int .i64 0, .int .i32 0, .slice none 0 0, .string ⟨#[]⟩] 35)).heap.size = w.heap.size + 1 := by simp
   have ez := evz_new w rfl
   obtain ⟨wz, hwz⟩ : ∃ wz, w.alloc (.cells #[.int .i64 0, .int .i32 0, .slice none 0 0, .string ⟨#[]⟩] 35) = wz := ⟨_, rfl⟩
   rw [hwz] at bz hz1 ez
   have br := (Below.refl wz.heap.size wz).alloc (Nat.le_refl _) (.cells #[.int .i32 r] 21)
   have RZ := (h.laid bz).laid br
   have ER := Lib.hid (show ECells (wz.alloc (.cells #[.int .i32 r] 21)) w.heap.size #[.int .i64 0, .int .i32 0, .slice none 0 0, .string ⟨#[]⟩] from (br.block w.heap.size (Array.getElem?_eq_some_iff.1 ez).1).trans ez)
   have OWN := Lib.hid (show (wz.alloc (.cells #[.int .i32 r] 21)).ownsRow B 21 1 (.slice A n c) n (t.map (Value.int .i32)) by
    have h := (RZ.text t rfl).1
    unfold HasR at h
    rw [hnt] at h
    exact h)
   have SQ := Lib.hid (show Sq (wz.alloc (.cells #[.int .i32 r] 21)) (wz.alloc (.cells #[.int .i32 r] 21)).heap.size 1 1 (some ⟨w.heap.size + 1, 0, none⟩) ([r].map (Value.int .i32)) from ⟨rfl, fun _ => ⟨w.heap.size + 1, 0, rfl, by simp [hz1], fun j u hu => by
    rw [← hz1, cell_of_row _ wz.heap.size _ _ _ (0, 0) (heap_alloc_new wz _), Nat.zero_add]
    simpa using hu⟩⟩)
   have TR := Lib.hid (show Turned (Own g (.slice A n c)) w (wz.alloc (.cells #[.int .i32 r] 21)) from Turned.laidMore (Turned.ofBelow bz _) br)
   have RZ' := Lib.hid RZ
   have HGL := Lib.hid hgl
   have hne : w.heap.size ≠ g := by omega
   have hgs : B ≤ (wz.alloc (.cells #[.int .i32 r] 21)).heap.size := by simp [hz1]; omega
   have HWZ := Lib.hid hwz
   clear bz br ez RZ hwz h hx hru hs he h64 h27 h32
   go_enter Tryz.func46, Tryz.ntmps46
   go_wp2_with (
    at_builtin
    rw [HWZ.out]
    refine wpl_app rfl (.tmp 86) (.tmp 88) 72 rfl B 21 iR (.int .i32 0) 1 4 Tryz.underlying72 hiR rz0 rz1 rz2 rfl (by omega) (.slice A n c) n (t.map (Value.int .i32)) rfl OWN.out (some ⟨w.heap.size + 1, 0, none⟩) 1 1 ([r].map (Value.int .i32)) rfl (wz.alloc (.cells #[.int .i32 r] 21)).heap.size SQ.out (by intro u hu; simp at hu; subst hu; rfl) (by unfold maxLen; omega) (by omega) hgs ?_
    intro v7 w7 h7 g7 _
    have HV := Lib.hid (show HasR w7 B v7 (t ++ [r]) by
     unfold HasR
     rw [List.map_append, List.length_append, hnt]
     exact h7)
    have RM := Lib.hid (RZ'.out.more (st' := (.csi (t ++ [r]))) (t := t) rfl rfl rfl hr0 hr1 g7 HV.out)
    have C7 := Lib.hid (show RCells w7 g #[.int .i64 (placeN (.csi t)), .slice A n c] from (g7.block g RZ'.out.lt (fun e => ((RZ'.out.text t rfl).1.typed g e.symm).apart ⟨_, _, RZ'.out.cells⟩ (by decide) rfl)).trans RZ'.out.cells)
    have E7 := Lib.hid (show ECells w7 w.heap.size #[.int .i64 0, .int .i32 0, .slice none 0 0, .string ⟨#[]⟩] from (g7.block w.heap.size (Array.getElem?_eq_some_iff.1 ER.out).1 (fun e => ((RZ'.out.text t rfl).1.typed _ e.symm).apart ⟨_, _, ER.out⟩ (by decide) rfl)).trans ER.out)
    obtain ⟨A7, c7, rfl⟩ := HasR.shape HV.out
    obtain ⟨n7, hn7⟩ : ∃ n7, (t ++ [r]).length = n7 := ⟨_, rfl⟩
    rw [hn7] at HV RM ⊢
    have E8 := Lib.hid (show ECells (w7.setCell ⟨g, 1, none⟩ (.slice A7 n7 c7)) w.heap.size #[.int .i64 0, .int .i32 0, .slice none 0 0, .string ⟨#[]⟩] from ((OnlyRow.cell g 1 w7 _).block w.heap.size hne).trans E7.out)
    have F := Lib.hid (fin (o := none) E8.out (Nat.le_refl _) HGL.out RM.out.1 (TR.out.trans RM.out.2 (fun k _ e => e)) 0 0 none 0 0 ⟨#[]⟩ (fun x hx => by cases hx))
    have k1 : w7.cell? ⟨g, 1, none⟩ = some (.slice A n c) := cell_of_row _ g 1 _ _ (0, 0) C7.out
    have kf1 : w7.frozen? ⟨g, 1, none⟩ = false := frozen_of_row _ g 1 _ _ C7.out
    have e0 : w7.cell? ⟨w.heap.size, 0, none⟩ = some (.int .i64 0) := cell_of_row _ w.heap.size 0 _ _ (0, 0) E7.out
    have e1 : w7.cell? ⟨w.heap.size, 1, none⟩ = some (.int .i32 0) := cell_of_row _ w.heap.size 1 _ _ (0, 0) E7.out
    have e2 : w7.cell? ⟨w.heap.size, 2, none⟩ = some (.slice none 0 0) := cell_of_row _ w.heap.size 2 _ _ (0, 0) E7.out
    have e3 : w7.cell? ⟨w.heap.size, 3, none⟩ = some (.string ⟨#[]⟩) := cell_of_row _ w.heap.size 3 _ _ (0, 0) E7.out
    have y0 := frozen_of_row _ w.heap.size 0 _ _ E7.out
    have y1 := frozen_of_row _ w.heap.size 1 _ _ E7.out
    have y2 := frozen_of_row _ w.heap.size 2 _ _ E7.out
    have y3 := frozen_of_row _ w.heap.size 3 _ _ E7.out
    clear h7 g7 OWN SQ RM HV RZ' C7 E7 E8 ER TR hn7)
   generalize (((((w7.setCell ⟨g, 1, none⟩ (.slice A7 n7 c7)).setCell ⟨w.heap.size, 0, none⟩ (.int .i64 0)).setCell ⟨w.heap.size, 1, none⟩ (.int .i32 0)).setCell ⟨w.heap.size, 2, none⟩ (.slice none 0 0)).setCell ⟨w.heap.size, 3, none⟩ (.string ⟨#[]⟩)) = w4 at F ⊢
   have q0 : w4.cell? ⟨w.heap.size, 0, none⟩ = some (.int .i64 0) := cell_of_row _ _ 0 _ _ (0, 0) F.out.2
   have q1 : w4.cell? ⟨w.heap.size, 1, none⟩ = some (.int .i32 0) := cell_of_row _ _ 1 _ _ (0, 0) F.out.2
   have q2 : w4.cell? ⟨w.heap.size, 2, none⟩ = some (.slice none 0 0) := cell_of_row _ _ 2 _ _ (0, 0) F.out.2
   have q3 : w4.cell? ⟨w.heap.size, 3, none⟩ = some (.string ⟨#[]⟩) := cell_of_row _ _ 3 _ _ (0, 0) F.out.2
   exact bodyPost_ret (by simp [results, Tryz.results46, go_sem, q0, q1, q2, q3] <;> rfl) rfl F.out.1
end Esc
end Go.Proofs.YtaclmhopcfgbmaaGreatDoor
namespace Go.Proofs.YtaclmhopcfgbmaaGreatDoor
open Go.ChangeShapes Go.WideShapes Go.ChangeAt Go.RowKit
namespace Esc
variable {B : Nat}
set_option maxRecDepth 100000 in
set_option maxHeartbeats 3200000 in
theorem rosc_walk (g : Nat) (A : Option Addr) (n c : Nat) (t : List Int) (r : Int) (w : World) (hB : B ≤ w.heap.size) (h : RAt w B g (.slice A n c) (.osc t)) (ht : t.length ≤ 1000000) (hr0 : -2147483648 ≤ r) (hr1 : r ≤ 2147483647) :
  Calls Tryz.prog 46 #[ptrP g, .int .i32 r] w fun e w' => RPost B g (.slice A n c) (stepS (.osc t) r) (stepE (.osc t) r) w e w' := by
 have hgl := h.lt
 have c0 : w.cell? ⟨g, 0, none⟩ = some (.int .i64 3) := cell_of_row _ g 0 _ _ (0, 0) h.cells
 have f0 : w.frozen? ⟨g, 0, none⟩ = false := frozen_of_row _ g 0 _ _ h.cells
 have c1 : w.cell? ⟨g, 1, none⟩ = some (.slice A n c) := cell_of_row _ g 1 _ _ (0, 0) h.cells
 have f1 : w.frozen? ⟨g, 1, none⟩ = false := frozen_of_row _ g 1 _ _ h.cells
 by_cases h7 : r = 7
 ·subst h7
  have hs : stepS (.osc t) 7 = .rest := rfl
  have he : stepE (.osc t) 7 = oscEv t := rfl
  rw [hs, he]
  have bz := (Below.refl w.heap.size w).alloc (Nat.le_refl _) (.cells #[.int .i64 0, .int .i32 0, .slice none 0 0, .string ⟨#[]⟩] 35)
  have RZ := Lib.hid (h.laid bz)
  have EZ := Lib.hid (evz_new w rfl)
  have BZ := Lib.hid bz
  have HGL := Lib.hid hgl
  have hne : w.heap.size ≠ g := by omega
  clear bz h hs he
  go_enter Tryz.func46, Tryz.ntmps46
  go_wp2_with fail
  obtain ⟨g1, hg1⟩ : ∃ g1, w.heap.size = g1 := ⟨_, rfl⟩
  have HG1 := Lib.hid hg1
  have BZ' := Lib.hid (show Below w.heap.size w (w.alloc (.cells #[.int .i64 0, .int .i32 0, .slice none 0 0, .string ⟨#[]⟩] 35)) from BZ.out)
  clear BZ c0 f0 c1 f1
  rw [hg1] at EZ hne ⊢
  generalize w.alloc (.cells #[.int .i64 0, .int .i32 0, .slice none 0 0, .string ⟨#[]⟩] 35) = w2 at RZ EZ BZ' ⊢
  refine (refOsc_walk g (.slice A n c) (.osc t) t w2 rfl ⟨_, rfl⟩ RZ.out ht).mono ?_
  rintro e w3 ⟨kk, rr, A5, n5, c5, ss, v5, rfl, hnum, R3, t3⟩
  have E3 := Lib.hid (show ECells w3 g1 #[.int .i64 0, .int .i32 0, .slice none 0 0, .string ⟨#[]⟩] from (t3.block g1 (Array.getElem?_eq_some_iff.1 EZ.out).1 (by
   rintro (e | e)
   ·exact hne e
   ·exact ((RZ.out.text t rfl).1.typed _ e).apart ⟨_, _, EZ.out⟩ (by decide) rfl)).trans EZ.out)
  have F := Lib.hid (fin (o := oscEv t) E3.out (Nat.le_of_eq HG1.out) HGL.out R3 ((Turned.ofBelow BZ'.out (Own g (.slice A n c))).trans t3 (fun k _ e => e)) kk rr A5 n5 c5 ss (fun x hx => by
   obtain ⟨h1, h2, h3, h4⟩ := hnum x hx
   exact ⟨h1, h2, h3, h4.base BZ'.out.size⟩))
  have e0 : w3.cell? ⟨g1, 0, none⟩ = some (.int .i64 0) := cell_of_row _ g1 0 _ _ (0, 0) E3.out
  have e1 : w3.cell? ⟨g1, 1, none⟩ = some (.int .i32 0) := cell_of_row _ g1 1 _ _ (0, 0) E3.out
  have e2 : w3.cell? ⟨g1, 2, none⟩ = some (.slice none 0 0) := cell_of_row _ g1 2 _ _ (0, 0) E3.out
  have e3 : w3.cell? ⟨g1, 3, none⟩ = some (.string ⟨#[]⟩) := cell_of_row _ g1 3 _ _ (0, 0) E3.out
  have y0 := frozen_of_row _ g1 0 _ _ E3.out
  have y1 := frozen_of_row _ g1 1 _ _ E3.out
  have y2 := frozen_of_row _ g1 2 _ _ E3.out
  have y3 := frozen_of_row _ g1 3 _ _ E3.out
  clear hnum R3 t3 E3 RZ EZ BZ'
  go_wp2
  generalize ((((w3.setCell ⟨g1, 0, none⟩ (.int .i64 kk)).setCell ⟨g1, 1, none⟩ (.int .i32 rr)).setCell ⟨g1, 2, none⟩ (.slice A5 n5 c5)).setCell ⟨g1, 3, none⟩ (.string ss)) = w4 at F ⊢
  have q0 : w4.cell? ⟨g1, 0, none⟩ = some (.int .i64 kk) := cell_of_row _ _ 0 _ _ (0, 0) F.out.2
  have q1 : w4.cell? ⟨g1, 1, none⟩ = some (.int .i32 rr) := cell_of_row _ _ 1 _ _ (0, 0) F.out.2
  have q2 : w4.cell? ⟨g1, 2, none⟩ = some (.slice A5 n5 c5) := cell_of_row _ _ 2 _ _ (0, 0) F.out.2
  have q3 : w4.cell? ⟨g1, 3, none⟩ = some (.string ss) := cell_of_row _ _ 3 _ _ (0, 0) F.out.2
  exact bodyPost_ret (by simp [results, Tryz.results46, go_sem, q0, q1, q2, q3] <;> rfl) rfl F.out.1
 have b7 : (r == 7) = false := by simp; omega
 have he : stepE (.osc t) r = none := by simp only [stepE]; rw [if_neg h7]
 rw [he]
 by_cases h27 : r = 27
 ·subst h27
  have hs : stepS (.osc t) 27 = .oscEsc t := rfl
  rw [hs]
  have o1 := OnlyRow.cell g 0 w (.int .i64 4)
  have R1 := h.put (.oscEsc t) (.inr rfl)
  have F := Lib.hid (fin2 (o := none) o1.size R1 ((Turned.ofOnly o1).mono (fun k _ e => .inl e) : Turned (Own g (.slice A n c)) w _) 0 0 ⟨#[]⟩ (fun x hx => by cases hx))
  clear h hs he o1 R1
  go_enter Tryz.func46, Tryz.ntmps46
  go_wp2
  generalize ((w.setCell ⟨g, 0, none⟩ (.int .i64 4)).alloc (.cells #[.int .i64 0, .int .i32 0, (.slice none 0 0), .string ⟨#[]⟩] 35)) = w4 at F ⊢
  have q0 : w4.cell? ⟨w.heap.size, 0, none⟩ = some (.int .i64 0) := cell_of_row _ _ 0 _ _ (0, 0) F.out.2
  have q1 : w4.cell? ⟨w.heap.size, 1, none⟩ = some (.int .i32 0) := cell_of_row _ _ 1 _ _ (0, 0) F.out.2
  have q2 : w4.cell? ⟨w.heap.size, 2, none⟩ = some (.slice none 0 0) := cell_of_row _ _ 2 _ _ (0, 0) F.out.2
  have q3 : w4.cell? ⟨w.heap.size, 3, none⟩ = some (.string ⟨#[]⟩) := cell_of_row _ _ 3 _ _ (0, 0) F.out.2
  exact bodyPost_ret (by simp [results, Tryz.results46, go_sem, q0, q1, q2, q3] <;> rfl) rfl F.out.1
 ·have hs : stepS (.osc t) r = .osc (t ++ [r]) := by simp only [stepS]; rw [if_neg h7, if_neg h27]
  rw [hs]
  have b27 : (r == 27) = false := by simp; omega
  obtain ⟨hx, hru⟩ := h.text t rfl
  have hnt : t.length = n := by
   obtain ⟨A', c', e⟩ := HasR.shape hx
   injection e with _ e _
   exact e.symm
  obtain ⟨iR, hiR, rz0, rz1, rz2⟩ := info_parts infoRune
  have bz := (Below.refl w.heap.size w).alloc (Nat.le_refl _) (.cells #[.int .i64 0, .int .i32 0, .slice none 0 0, .string ⟨#[]⟩] 35)
  have hz1 : (w.alloc (.cells #[.int .i64 0, .int .i32 0, .slice none 0 0, .string ⟨#[]⟩] 35)).heap.size = w.heap.size + 1 := by simp
  have ez := evz_new w rfl
  obtain ⟨wz, hwz⟩ : ∃ wz, w.alloc (.cells #[.int .i64 0, .int .i32 0, .slice none 0 0, .string ⟨#[]⟩] 35) = wz := ⟨_, rfl⟩
  rw [hwz] at bz hz1 ez
  have br := (Below.refl wz.heap.size wz).alloc (Nat.le_refl _) (.cells #[.int .i32 r] 21)
  have RZ := (h.laid bz).laid br
  have ER := Lib.hid (show ECells (wz.alloc (.cells #[.int .i32 r] 21)) w.heap.size #[.int .i64 0, .int .i32 0, .slice none 0 0, .string ⟨#[]⟩] from (br.block w.heap.size (Array.getElem?_eq_some_iff.1 ez).1).trans ez)
  have OWN := Lib.hid (show (wz.alloc (.cells #[.int .i32 r] 21)).ownsRow B 21 1 (.slice A n c) n (t.map (Value.int .i32)) by
   have h := (RZ.text t rfl).1
   unfold HasR at h
   rw [hnt] at h
   exact h)
  have SQ := Lib.hid (show Sq (wz.alloc (.cells #[.int .i32 r] 21)) (wz.alloc (.cells #[.int .i32 r] 21)).heap.size 1 1 (some ⟨w.heap.size + 1, 0, none⟩) ([r].map (Value.int .i32)) from ⟨rfl, fun _ => ⟨w.heap.size + 1, 0, rfl, by simp [hz1], fun j u hu => by
   rw [← hz1, cell_of_row _ wz.heap.size _ _ _ (0, 0) (heap_alloc_new wz _), Nat.zero_add]
   simpa using hu⟩⟩)
  have TR := Lib.hid (show Turned (Own g (.slice A n c)) w (wz.alloc (.cells #[.int .i32 r] 21)) from Turned.laidMore (Turned.ofBelow bz _) br)
  have RZ' := Lib.hid RZ
  have HGL := Lib.hid hgl
  have hne : w.heap.size ≠ g := by omega
  have hgs : B ≤ (wz.alloc (.cells #[.int .i32 r] 21)).heap.size := by simp [hz1]; omega
  have HWZ := Lib.hid hwz
  clear bz br ez RZ hwz h hx hru hs he h7 h27
  go_enter Tryz.func46, Tryz.ntmps46
  go_wp2_with (
   at_builtin
   rw [HWZ.out]
   refine wpl_app rfl (.tmp 133) (.tmp 135) 72 rfl B 21 iR (.int .i32 0) 1 4 Tryz.underlying72 hiR rz0 rz1 rz2 rfl (by omega) (.slice A n c) n (t.map (Value.int .i32)) rfl OWN.out (some ⟨w.heap.size + 1, 0, none⟩) 1 1 ([r].map (Value.int .i32)) rfl (wz.alloc (.cells #[.int .i32 r] 21)).heap.size SQ.out (by intro u hu; simp at hu; subst hu; rfl) (by unfold maxLen; omega) (by omega) hgs ?_
   intro v7 w7 h7 g7 _
   have HV := Lib.hid (show HasR w7 B v7 (t ++ [r]) by
    unfold HasR
    rw [List.map_append, List.length_append, hnt]
    exact h7)
   have RM := Lib.hid (RZ'.out.more (st' := (.osc (t ++ [r]))) (t := t) rfl rfl rfl hr0 hr1 g7 HV.out)
   have C7 := Lib.hid (show RCells w7 g #[.int .i64 (placeN (.osc t)), .slice A n c] from (g7.block g RZ'.out.lt (fun e => ((RZ'.out.text t rfl).1.typed g e.symm).apart ⟨_, _, RZ'.out.cells⟩ (by decide) rfl)).trans RZ'.out.cells)
   have E7 := Lib.hid (show ECells w7 w.heap.size #[.int .i64 0, .int .i32 0, .slice none 0 0, .string ⟨#[]⟩] from (g7.block w.heap.size (Array.getElem?_eq_some_iff.1 ER.out).1 (fun e => ((RZ'.out.text t rfl).1.typed _ e.symm).apart ⟨_, _, ER.out⟩ (by decide) rfl)).trans ER.out)
   obtain ⟨A7, c7, rfl⟩ := HasR.shape HV.out
   obtain ⟨n7, hn7⟩ : ∃ n7, (t ++ [r]).length = n7 := ⟨_, rfl⟩
   rw [hn7] at HV RM ⊢
   have E8 := Lib.hid (show ECells (w7.setCell ⟨g, 1, none⟩ (.slice A7 n7 c7)) w.heap.size #[.int .i64 0, .int .i32 0, .slice none 0 0, .string ⟨#[]⟩] from ((OnlyRow.cell g 1 w7 _).block w.heap.size hne).trans E7.out)
   have F := Lib.hid (fin (o := none) E8.out (Nat.le_refl _) HGL.out RM.out.1 (TR.out.trans RM.out.2 (fun k _ e => e)) 0 0 none 0 0 ⟨#[]⟩ (fun x hx => by cases hx))
   have k1 : w7.cell? ⟨g, 1, none⟩ = some (.slice A n c) := cell_of_row _ g 1 _ _ (0, 0) C7.out
   have kf1 : w7.frozen? ⟨g, 1, none⟩ = false := frozen_of_row _ g 1 _ _ C7.out
   have e0 : w7.cell? ⟨w.heap.size, 0, none⟩ = some (.int .i64 0) := cell_of_row _ w.heap.size 0 _ _ (0, 0) E7.out
   have e1 : w7.cell? ⟨w.heap.size, 1, none⟩ = some (.int .i32 0) := cell_of_row _ w.heap.size 1 _ _ (0, 0) E7.out
   have e2 : w7.cell? ⟨w.heap.size, 2, none⟩ = some (.slice none 0 0) := cell_of_row _ w.heap.size 2 _ _ (0, 0) E7.out
   have e3 : w7.cell? ⟨w.heap.size, 3, none⟩ = some (.string ⟨#[]⟩) := cell_of_row _ w.heap.size 3 _ _ (0, 0) E7.out
   have y0 := frozen_of_row _ w.heap.size 0 _ _ E7.out
   have y1 := frozen_of_row _ w.heap.size 1 _ _ E7.out
   have y2 := frozen_of_row _ w.heap.size 2 _ _ E7.out
   have y3 := frozen_of_row _ w.heap.size 3 _ _ E7.out
   clear h7 g7 OWN SQ RM HV RZ' C7 E7 E8 ER TR hn7)
  generalize (((((w7.setCell ⟨g, 1, none⟩ (.slice A7 n7 c7)).setCell ⟨w.heap.size, 0, none⟩ (.int .i64 0)).setCell ⟨w.heap.size, 1, none⟩ (.int .i32 0)).setCell ⟨w.heap.size, 2, none⟩ (.slice none 0 0)).setCell ⟨w.heap.size, 3, none⟩ (.string ⟨#[]⟩)) = w4 at F ⊢
  have q0 : w4.cell? ⟨w.heap.size, 0, none⟩ = some (.int .i64 0) := cell_of_row _ _ 0 _ _ (0, 0) F.out.2
  have q1 : w4.cell? ⟨w.heap.size, 1, none⟩ = some (.int .i32 0) := cell_of_row _ _ 1 _ _ (0, 0) F.out.2
  have q2 : w4.cell? ⟨w.heap.size, 2, none⟩ = some (.slice none 0 0) := cell_of_row _ _ 2 _ _ (0, 0) F.out.2
  have q3 : w4.cell? ⟨w.heap.size, 3, none⟩ = some (.string ⟨#[]⟩) := cell_of_row _ _ 3 _ _ (0, 0) F.out.2
  exact bodyPost_ret (by simp [results, Tryz.results46, go_sem, q0, q1, q2, q3] <;> rfl) rfl F.out.1
set_option maxRecDepth 100000 in
set_option maxHeartbeats 3200000 in
theorem roscEnd_walk (g : Nat) (A : Option Addr) (n c : Nat) (t : List Int) (w : World) (h : RAt w B g (.slice A n c) (.oscEsc t)) (ht : t.length ≤ 1000000) :
  Calls Tryz.prog 46 #[ptrP g, .int .i32 92] w fun e w' => RPost B g (.slice A n c) .rest (oscEv t) w e w' := by
 have hgl := h.lt
 have c0 : w.cell? ⟨g, 0, none⟩ = some (.int .i64 4) := cell_of_row _ g 0 _ _ (0, 0) h.cells
 have f0 : w.frozen? ⟨g, 0, none⟩ = false := frozen_of_row _ g 0 _ _ h.cells
 have c1 : w.cell? ⟨g, 1, none⟩ = some (.slice A n c) := cell_of_row _ g 1 _ _ (0, 0) h.cells
 have f1 : w.frozen? ⟨g, 1, none⟩ = false := frozen_of_row _ g 1 _ _ h.cells
 have hs : stepS (.oscEsc t) 92 = .rest := rfl
 have he : stepE (.oscEsc t) 92 = oscEv t := rfl
 have bz := (Below.refl w.heap.size w).alloc (Nat.le_refl _) (.cells #[.int .i64 0, .int .i32 0, .slice none 0 0, .string ⟨#[]⟩] 35)
 have RZ := Lib.hid (h.laid bz)
 have EZ := Lib.hid (evz_new w rfl)
 have BZ := Lib.hid bz
 have HGL := Lib.hid hgl
 have hne : w.heap.size ≠ g := by omega
 clear bz h hs he
 go_enter Tryz.func46, Tryz.ntmps46
 go_wp2_with fail
 obtain ⟨g1, hg1⟩ : ∃ g1, w.heap.size = g1 := ⟨_, rfl⟩
 have HG1 := Lib.hid hg1
 have BZ' := Lib.hid (show Below w.heap.size w (w.alloc (.cells #[.int .i64 0, .int .i32 0, .slice none 0 0, .string ⟨#[]⟩] 35)) from BZ.out)
 clear BZ c0 f0 c1 f1
 rw [hg1] at EZ hne ⊢
 generalize w.alloc (.cells #[.int .i64 0, .int .i32 0, .slice none 0 0, .string ⟨#[]⟩] 35) = w2 at RZ EZ BZ' ⊢
 refine (refOsc_walk g (.slice A n c) (.oscEsc t) t w2 rfl ⟨_, rfl⟩ RZ.out ht).mono ?_
 rintro e w3 ⟨kk, rr, A5, n5, c5, ss, v5, rfl, hnum, R3, t3⟩
 have E3 := Lib.hid (show ECells w3 g1 #[.int .i64 0, .int .i32 0, .slice none 0 0, .string ⟨#[]⟩] from (t3.block g1 (Array.getElem?_eq_some_iff.1 EZ.out).1 (by
  rintro (e | e)
  ·exact hne e
  ·exact ((RZ.out.text t rfl).1.typed _ e).apart ⟨_, _, EZ.out⟩ (by decide) rfl)).trans EZ.out)
 have F := Lib.hid (fin (o := oscEv t) E3.out (Nat.le_of_eq HG1.out) HGL.out R3 ((Turned.ofBelow BZ'.out (Own g (.slice A n c))).trans t3 (fun k _ e => e)) kk rr A5 n5 c5 ss (fun x hx => by
  obtain ⟨h1, h2, h3, h4⟩ := hnum x hx
  exact ⟨h1, h2, h3, h4.base BZ'.out.size⟩))
 have e0 : w3.cell? ⟨g1, 0, none⟩ = some (.int .i64 0) := cell_of_row _ g1 0 _ _ (0, 0) E3.out
 have e1 : w3.cell? ⟨g1, 1, none⟩ = some (.int .i32 0) := cell_of_row _ g1 1 _ _ (0, 0) E3.out
 have e2 : w3.cell? ⟨g1, 2, none⟩ = some (.slice none 0 0) := cell_of_row _ g1 2 _ _ (0, 0) E3.out
 have e3 : w3.cell? ⟨g1, 3, none⟩ = some (.string ⟨#[]⟩) := cell_of_row _ g1 3 _ _ (0, 0) E3.out
 have y0 := frozen_of_row _ g1 0 _ _ E3.out
 have y1 := frozen_of_row _ g1 1 _ _ E3.out
 have y2 := frozen_of_row _ g1 2 _ _ E3.out
 have y3 := frozen_of_row _ g1 3 _ _ E3.out
 clear hnum R3 t3 E3 RZ EZ BZ'
 go_wp2
 generalize ((((w3.setCell ⟨g1, 0, none⟩ (.int .i64 kk)).setCell ⟨g1, 1, none⟩ (.int .i32 rr)).setCell ⟨g1, 2, none⟩ (.slice A5 n5 c5)).setCell ⟨g1, 3, none⟩ (.string ss)) = w4 at F ⊢
 have q0 : w4.cell? ⟨g1, 0, none⟩ = some (.int .i64 kk) := cell_of_row _ _ 0 _ _ (0, 0) F.out.2
 have q1 : w4.cell? ⟨g1, 1, none⟩ = some (.int .i32 rr) := cell_of_row _ _ 1 _ _ (0, 0) F.out.2
 have q2 : w4.cell? ⟨g1, 2, none⟩ = some (.slice A5 n5 c5) := cell_of_row _ _ 2 _ _ (0, 0) F.out.2
 have q3 : w4.cell? ⟨g1, 3, none⟩ = some (.string ss) := cell_of_row _ _ 3 _ _ (0, 0) F.out.2
 exact bodyPost_ret (by simp [results, Tryz.results46, go_sem, q0, q1, q2, q3] <;> rfl) rfl F.out.1
theorem rput_walk (g : Nat) (v : Value) (st : St) (r : Int) (w : World) (hB : B ≤ w.heap.size) (h : RAt w B g v st) (hz : sizeS st ≤ 1000000) (hr0 : -2147483648 ≤ r) (hr1 : r ≤ 2147483647) :
  Calls Tryz.prog 46 #[ptrP g, .int .i32 r] w fun e w' => RPost B g v (stepS st r) (stepE st r) w e w' := by
 obtain ⟨A, n, c, rfl⟩ := h.slice
 cases st with
 | rest => exact rrest_walk g A n c r w h
 | esc => exact resc_walk g A n c r w h
 | csi t => exact rcsi_walk g A n c t r w hB h hz hr0 hr1
 | osc t => exact rosc_walk g A n c t r w hB h hz hr0 hr1
 | oscEsc t =>
  by_cases h92 : r = 92
  ·subst h92
   exact roscEnd_walk g A n c t w h hz
  ·have hs : stepS (.oscEsc t) r = begin' r := by simp only [stepS]; rw [if_neg h92]
   have he : stepE (.oscEsc t) r = none := by simp only [stepE]; rw [if_neg h92]
   rw [hs, he]
   exact roscEsc_walk g A n c t r w h h92
end Esc
end Go.Proofs.YtaclmhopcfgbmaaGreatDoor
namespace Go.Proofs.YtaclmhopcfgbmaaGreatDoor
open Go.ChangeShapes Go.WideShapes Go.ChangeAt Go.RowKit
namespace Esc
theorem RAt.turned {M : Nat → Prop} {w w' : World} {B g : Nat} {v : Value} {st : St} (h : RAt w B g v st) (ht : Turned M w w') (hM : ∀ k, M k → ¬ Typed w 75 k ∧ ¬ Typed w 21 k) : RAt w' B g v st :=
 h.kept (ht.block g h.lt (fun m => (hM g m).1 ⟨_, _, h.cells⟩)) (fun k _ ty => by
  obtain ⟨cs, fr, e⟩ := ty
  exact ht.block k (Array.getElem?_eq_some_iff.1 e).1 (fun m => (hM k m).2 ⟨cs, fr, e⟩))
theorem RAt.owns {w : World} {B g : Nat} {v : Value} {st : St} (h : RAt w B g v st) {k : Nat} (m : Own g v k) : (k = g ∨ B ≤ k) ∧ (Typed w 75 k ∨ Typed w 21 k) := by
 rcases m with rfl | m
 ·exact ⟨.inl rfl, .inl ⟨_, _, h.cells⟩⟩
 ·obtain ⟨t, ht⟩ := h.old
  exact ⟨.inr (ht.lt k m).1, .inr (ht.typed k m)⟩
end Esc
end Go.Proofs.YtaclmhopcfgbmaaGreatDoor
