/-
  The statements' own question: is what Get tells a row whose bytes stand there, or none?
-/
import Derived.Test.YtikdlikdknfcfaaDoorRefPut2
import Derived.Test.YtikdlikdknfcfaaDoorGrow
import Derived.Test.YtikdlikdknfcfaaDoorStr
import Derived.Deep.QuietTactic
import Derived.BigQuiet
namespace Go.Proofs.YtikdlikdknfcfaaDoor
open Go.ChangeShapes Go.WideShapes Go.ChangeAt Go.RowKit

theorem getR_small {may : List Cel → Bool} {b : List Int} {wrap : Bool} {l : List Cel} {n : Nat} (hb : ∀ y ∈ b, 0 ≤ y ∧ y ≤ 255) (h : getR may b = some (wrap, l, n)) : ∀ c ∈ l, Small c := by
  unfold getR at h
  rw [Option.bind_eq_some_iff] at h
  obtain ⟨⟨hd, b1⟩, h1, h⟩ := h
  obtain ⟨hd1, rfl⟩ := numL_some hb h1
  simp only at h
  rw [Option.bind_eq_some_iff] at h
  obtain ⟨⟨l', m⟩, h2, h⟩ := h
  obtain ⟨rs, r1, r2, r3, r4, r5, r6⟩ := runsL_some _ _ _ _ _ (bytes_tail hb) h2
  simp only at h
  split at h
  · simp only [Option.some.injEq, Prod.mk.injEq] at h
    obtain ⟨_, e3, _⟩ := h
    intro c hc
    rw [← e3, r5, List.nil_append] at hc
    unfold unrun at hc
    obtain ⟨x, hx, hc⟩ := List.mem_flatMap.1 hc
    rw [(List.mem_replicate.1 hc).2]
    exact r3 x hx
  · cases h
theorem small_sign {c : Cel} (h : Small c) : -2147483648 ≤ c.1 ∧ c.1 ≤ 2147483647 := by
  have := h.1
  omega
theorem putL_pos (wrap : Bool) (l : List Cel) : 1 ≤ (putL wrap l).length := by
  unfold putL
  rw [List.length_append]
  have := uintL_pos (headOf wrap (runsOf l).length)
  omega
theorem getR_none_nil {may : List Cel → Bool} : getR may [] = none := by
  rfl

theorem sq_bytes_take {w : World} {B n m : Nat} {A : Option Addr} {l : List Int} (hq : Sq w B 1 n A (l.map (Value.int .u8))) (hm : m ≤ n) : Sq w B 1 m A ((l.take m).map (Value.int .u8)) := by
  have hl := hq.size_ints
  refine ⟨by simp; omega, fun h => ?_⟩
  obtain ⟨b, off, e, hb, hcell⟩ := hq.spot (by omega)
  refine ⟨b, off, e, hb, fun j u hu => hcell j u ?_⟩
  rw [List.map_take, List.getElem?_take] at hu
  split at hu
  · exact hu
  · cases hu
set_option maxRecDepth 100000 in
set_option maxHeartbeats 6400000 in
theorem tells_walk (A : Option Addr) (n c : Nat) (b : List Int) (w : World) (hs : Spans w) (hq : Sq w w.heap.size 1 n A (b.map (Value.int .u8))) (hc : n ≤ c) (hn : n ≤ 1000000) (hb : ∀ y ∈ b, 0 ≤ y ∧ y ≤ 255) :
    Calls Tryd.prog 31 #[.slice A n c] w fun e w' => e = .returned (.bool true) ∧ Below w.heap.size w w' := by
  have S := Lib.hid hs
  have Q := Lib.hid hq
  have HB := Lib.hid hb
  clear hs hq hb
  go_enter Tryd.func31, Tryd.ntmps31
  go_wp2_with fail
  refine (get_walk A n c b w S.out Q.out hc hn HB.out).mono ?_
  rintro e w2 ⟨v, rfl, hv, b2⟩
  rcases hg : getR mayL b with _ | ⟨wr, l, m⟩
  · rw [gotR_none hg] at hv ⊢
    obtain ⟨A', c', rfl, hc'⟩ := HasC.shape hv
    have B2 := Lib.hid b2
    clear hv b2 hg
    go_wp2
    go_ret
    exact ⟨rfl, B2.out.alloc B2.out.size _⟩
  · rw [gotR_some hg] at hv ⊢
    obtain ⟨hm, hmn, hml, htk⟩ := getR_some HB.out hg
    have hsm := getR_small HB.out hg
    simp only at hv ⊢
    have B2 := Lib.hid b2
    clear hg
    have hbl := Q.out.size_ints
    have hp := putL_pos wr l
    have hn0 : 0 < n := by omega
    obtain ⟨bb, off, rfl, hbb, hcell⟩ := Q.out.spot hn0
    clear hcell
    obtain ⟨A', c', rfl, hc'⟩ := HasC.shape hv
    obtain ⟨k, hk⟩ : ∃ k, l.length = k := ⟨_, rfl⟩
    have hk3 : k ≤ 300 := by rw [← hk]; exact (mayL_small (fun c h => (small_sign (hsm c h)).2) hm).1
    rw [hk] at hv hc' ⊢
    have VQ := Lib.hid (HasC.sq hv)
    have SM := Lib.hid (fun c h => small_sign (hsm c h))
    have R3 := Lib.hid (show RowAt (w2.alloc (.cells #[.slice A' k c', .bool wr] 31)) w2.heap.size (.slice A' k c') wr from heap_alloc_new w2 _)
    have Q3 := Lib.hid ((VQ.out.below ((Below.refl w2.heap.size w2).alloc (Nat.le_refl _) (.cells #[.slice A' k c', .bool wr] 31))).up (by simp : w2.heap.size ≤ (w2.alloc (.cells #[.slice A' k c', .bool wr] 31)).heap.size))
    have B3 := Lib.hid (B2.out.alloc B2.out.size (.cells #[.slice A' k c', .bool wr] 31))
    have HM := Lib.hid hm
    have HL := Lib.hid hml
    have HT := Lib.hid htk
    clear hv hsm hm hml htk b2 hk hp
    go_wp2_with fail
    generalize w2.alloc (.cells #[.slice A' k c', .bool wr] 31) = w3 at R3 Q3 B3 ⊢
    refine (refPutRow_walk A' k c' wr l w3 SM.out Q3.out (by omega)).mono ?_
    rintro e w6 ⟨v6, rfl, h6, b6⟩
    rw [show putV wr l = putL wr l by unfold putV; rw [if_pos HM.out]] at h6
    rw [HM.out]
    have hbt : ∀ x ∈ b.take m, 0 ≤ x ∧ x ≤ 255 := fun x h => HB.out x (List.mem_of_mem_take h)
    have hmn' : m ≤ n := by omega
    have qt := sq_bytes_take ((Q.out.below B3.out).below (b6.mono B3.out.size)) hmn'
    rw [← HT.out] at h6
    obtain ⟨A6, c6, rfl⟩ := HasB.shape h6
    have h6q := HasB.sq h6
    have hlm : (b.take m).length = m := by rw [List.length_take]; omega
    rw [hlm] at h6q ⊢
    obtain ⟨s, hs⟩ : ∃ s, strL (b.take m) = s := ⟨_, rfl⟩
    have cv1 := fun a => conv_sq (qt.below (Below.drewN (Below.refl w.heap.size w6) a)) hbt c
    have cv2 := fun a => conv_sq (h6q.below (Below.drewN (Below.refl w6.heap.size w6) a)) hbt c6
    simp only [hs] at cv1 cv2
    have B6 := Lib.hid (B3.out.trans (b6.mono B3.out.size))
    clear h6 h6q qt hbt hs b6 hlm
    have tok := True.intro
    have hmc : (m : Int) ≤ (c : Int) := by omega
    have hmn2 : (m : Int) ≤ (n : Int) := by omega
    have hmc2 : m ≤ c := by omega
    have hm0 : (0 : Int) ≤ (m : Int) := by omega
    go_wp2_with fail
    go_quiet (fail)
    go_wp2
    go_ret
    exact ⟨by simp, Below.drewN B6.out _⟩
end Go.Proofs.YtikdlikdknfcfaaDoor
