/-
  The statement PackAll: rows go to bytes and back; unlike ones have unlike bytes; what stands behind is not looked at. For every two rows (of which the statement looks at the first 310 cells) and every list of bytes (of which it looks at the first twenty); it holds where the table of widths is as its initialiser lays it, which the card ties to the program's text.
-/
import Derived.Test.YtikdlikdknfcfaaDoorBegun
import Derived.Test.YtikdlikdknfcfaaDoorBegun4
import Derived.Test.YtikdlikdknfcfaaDoorRowArgs
import Derived.Test.YtikdlikdknfcfaaDoorRefPut2
import Derived.Test.YtikdlikdknfcfaaDoorGrow
import Derived.Test.YtikdlikdknfcfaaDoorStore
import Derived.Test.YtikdlikdknfcfaaDoorAllR
namespace Go.Proofs.YtikdlikdknfcfaaDoor.packAll
open Go.ChangeShapes Go.WideShapes Go.ChangeAt Go.RowKit

theorem sq_bytes_cut {w : World} {B n m : Nat} {A : Option Addr} {l : List Int} (hq : Sq w B 1 n A (l.map (Value.int .u8))) (hm : m ≤ n) : Sq w B 1 m A ((l.take m).map (Value.int .u8)) := by
  have hl := hq.size_ints
  refine ⟨by simp; omega, fun h => ?_⟩
  obtain ⟨b, off, e, hb, hcell⟩ := hq.spot (by omega)
  refine ⟨b, off, e, hb, fun j u hu => hcell j u ?_⟩
  rw [List.map_take, List.getElem?_take] at hu
  split at hu
  · exact hu
  · cases hu
theorem putV_bytes {wrap : Bool} {l : List Cel} : ∀ x ∈ putV wrap l, 0 ≤ x ∧ x ≤ 255 := by
  intro x hx
  unfold putV at hx
  split at hx
  · unfold putL at hx
    rcases List.mem_append.1 hx with h | h
    · exact uintL_bytes _ _ h
    · obtain ⟨y, _, h⟩ := List.mem_flatMap.1 h
      unfold runBytes at h
      simp only [List.mem_append] at h
      rcases h with h | h | h | h <;> exact uintL_bytes _ _ h
  · cases hx
theorem putV_len {wrap : Bool} {l : List Cel} (hr : ∀ c ∈ l, -2147483648 ≤ c.1 ∧ c.1 ≤ 2147483647) : (putV wrap l).length ≤ 12010 := by
  unfold putV
  split
  · rename_i hm
    obtain ⟨a, b⟩ := mayL_small (fun c hc => (hr c hc).2) hm
    exact putL_len a b
  · simp

/-- Unlike rows that may be have unlike bytes. -/
theorem strs_eq {wr ws : Bool} {L3 L4 : List Cel} (h3 : ∀ c ∈ L3, -2147483648 ≤ c.1 ∧ c.1 ≤ 2147483647) (h4 : ∀ c ∈ L4, -2147483648 ≤ c.1 ∧ c.1 ≤ 2147483647) (m3 : mayL L3 = true) (m4 : mayL L4 = true) :
    ((strL (putV wr L3)).toList == (strL (putV ws L4)).toList) = (wr == ws && eqL L3 L4) := by
  have e3 : putV wr L3 = putL wr L3 := by unfold putV; rw [if_pos m3]
  have e4 : putV ws L4 = putL ws L4 := by unfold putV; rw [if_pos m4]
  obtain ⟨a3, b3⟩ := mayL_small (fun c hc => (h3 c hc).2) m3
  obtain ⟨a4, b4⟩ := mayL_small (fun c hc => (h4 c hc).2) m4
  by_cases h : wr = ws ∧ L3 = L4
  · obtain ⟨rfl, rfl⟩ := h
    simp [eqL]
  · have hne : strL (putV wr L3) ≠ strL (putV ws L4) := fun e => by
      have := strL_inj putV_bytes putV_bytes e
      rw [e3, e4] at this
      exact h (putL_inj b3 a3 b4 a4 this)
    have h1 : ((strL (putV wr L3)).toList == (strL (putV ws L4)).toList) = false := by
      simp only [beq_eq_false_iff_ne, ne_eq]
      intro e
      rw [ByteArray.toList_eq, ByteArray.toList_eq] at e
      exact hne (ByteArray.ext (Array.toList_inj.1 e))
    rw [h1]
    by_cases hw : wr = ws
    · have hl : L3 ≠ L4 := fun e => h ⟨hw, e⟩
      simp [eqL, hl]
    · simp [hw]

set_option maxRecDepth 100000 in
set_option maxHeartbeats 6400000 in
theorem walk (r : RowIn) (s : RowIn) (A : Option Addr) (n c : Nat) (l : List Int) (hc : n ≤ c) (_ : c ≤ maxLen) (hl : ∀ x ∈ l, 0 ≤ x ∧ x ≤ 255) (w : World) (hs : Spans w) (hr : r.Ok w w.heap.size) (hr2 : s.Ok w w.heap.size) (hq : Sq w w.heap.size 1 n A (l.map (Value.int .u8))) :
    Calls Tryd.prog 4 #[rowV r.A r.n r.c r.wrap, rowV s.A s.n s.c s.wrap, .slice A n c] w fun e w' => e = .returned (.bool true) ∧ Below w.heap.size w w' := by
  obtain ⟨rA, rn, rc, wr, rl⟩ := r
  obtain ⟨sA, sn, sc, ws, sl⟩ := s
  obtain ⟨rle, rcap, rsigns, rsq⟩ := hr
  obtain ⟨sle, scap, ssigns, ssq⟩ := hr2
  simp only at rle rcap rsigns rsq sle scap ssigns ssq ⊢
  have S := Lib.hid hs
  have RS := Lib.hid rsigns
  have RQ := Lib.hid rsq
  have SS := Lib.hid ssigns
  have SQ := Lib.hid ssq
  have MQ := Lib.hid hq
  have ML := Lib.hid hl
  obtain ⟨g3, hg3⟩ : ∃ g3, w.heap.size = g3 := ⟨_, rfl⟩
  have G3 := Lib.hid hg3
  clear hs rsigns rsq ssigns ssq hq hl
  go_enter Tryd.func4, Tryd.ntmps4
  have B0 := Lib.hid (((Below.refl w.heap.size w).alloc (Nat.le_refl _) (.cells #[.slice rA rn rc, .bool wr] 31)).alloc (by simp) (.cells #[.slice sA sn sc, .bool ws] 31))
  have R0 := Lib.hid (show RowAt ((w.alloc (.cells #[.slice rA rn rc, .bool wr] 31)).alloc (.cells #[.slice sA sn sc, .bool ws] 31)) g3 (.slice rA rn rc) wr by
    rw [← hg3]
    exact (Below.heap_alloc _ _ _ (by simp)).trans (heap_alloc_new w _))
  have T0 := Lib.hid (show RowAt ((w.alloc (.cells #[.slice rA rn rc, .bool wr] 31)).alloc (.cells #[.slice sA sn sc, .bool ws] 31)) (g3 + 1) (.slice sA sn sc) ws by
    rw [← hg3]
    have := heap_alloc_new (w.alloc (.cells #[.slice rA rn rc, .bool wr] 31)) (.cells #[.slice sA sn sc, .bool ws] 31)
    rw [World.size_alloc] at this
    exact this)
  go_wp2_with fail
  generalize (w.alloc (.cells #[.slice rA rn rc, .bool wr] 31)).alloc (.cells #[.slice sA sn sc, .bool ws] 31) = wa at B0 R0 T0 ⊢
  refine (begun4_walk wa (S.out.below B0.out S.out.size)).mono ?_
  rintro e w1 ⟨rfl, b1⟩
  have B1 := Lib.hid (B0.out.trans (b1.mono B0.out.size))
  have R1 := Lib.hid (show RowAt w1 g3 (.slice rA rn rc) wr from (b1.block _ R0.out.lt).trans R0.out)
  have T1 := Lib.hid (show RowAt w1 (g3 + 1) (.slice sA sn sc) ws from (b1.block _ T0.out.lt).trans T0.out)
  clear b1 B0 R0 T0
  have r0 := R1.out.get 0
  have r1 := R1.out.get 1
  have t0 := T1.out.get 0
  have t1 := T1.out.get 1
  go_wp2_with fail
  have RQ1 := Lib.hid ((RQ.out.below B1.out).up B1.out.size)
  have SQ1 := Lib.hid ((SQ.out.below B1.out).up B1.out.size)
  have bd := (Below.refl w1.heap.size w1).drew
  clear r0 r1 t0 t1
  refine Ord.start (S := fun _ => True) (n := 6) (by kernel_rfl) (by kernel_rfl) trivial ?_
  apply all4_great (A := A) (n := n) (c := c) (g3 := g3) (g4 := g3 + 1) (base := w.heap.size) (rn := rn) (rc := rc) (sn := sn) (sc := sc) (rA := rA) (sA := sA) (wr := wr) (ws := ws) (rl := rl) (sl := sl)
  case R => exact ⟨by kernel_rfl, by kernel_rfl⟩
  case RR => exact R1.out
  case TT => exact T1.out
  case RQ0 => exact RQ1.out.below bd
  case SQ0 => exact SQ1.out.below bd
  case rle => exact rle
  case rcap => exact rcap
  case sle => exact sle
  case scap => exact scap
  case h34 => omega
  case hb3 => exact Nat.le_of_eq G3.out
  case hg4 => exact T1.out.lt
  case F => exact ⟨rfl, rfl, rfl, rfl, rfl⟩
  intro a2 w5 A3 m3 c3 A4 m4 c4 F RR TT V3 V4 hm3 hm4 BB
  have R5 := Lib.hid RR
  have T5 := Lib.hid TT
  have B5 := Lib.hid (B1.out.trans ((bd.mono B1.out.size).trans BB))
  obtain ⟨L3, hL3⟩ : ∃ L, cut310 rl = L := ⟨_, rfl⟩
  obtain ⟨L4, hL4⟩ : ∃ L, cut310 sl = L := ⟨_, rfl⟩
  have S3 : Hid (∀ c ∈ L3, -2147483648 ≤ c.1 ∧ c.1 ≤ 2147483647) := Lib.hid (fun c h => RS.out c (List.mem_of_mem_take (by rw [← hL3] at h; exact h)))
  have S4 : Hid (∀ c ∈ L4, -2147483648 ≤ c.1 ∧ c.1 ≤ 2147483647) := Lib.hid (fun c h => SS.out c (List.mem_of_mem_take (by rw [← hL4] at h; exact h)))
  have l3 : m3 ≤ 310 := by rw [← hm3]; exact cut310_len rl
  have l4 : m4 ≤ 310 := by rw [← hm4]; exact cut310_len sl
  rw [hL3] at V3 hm3
  rw [hL4] at V4 hm4
  have hc3 : m3 ≤ c3 := by obtain ⟨_, _, e, h⟩ := HasC.shape V3; injection e with _ e1 e2; omega
  have hc4 : m4 ≤ c4 := by obtain ⟨_, _, e, h⟩ := HasC.shape V4; injection e with _ e1 e2; omega
  have Q3 := Lib.hid (HasC.sq V3)
  have Q4 := Lib.hid (HasC.sq V4)
  have LM3 := Lib.hid hm3
  clear RR TT V3 V4 BB B1 R1 T1 RQ1 SQ1 RQ SQ RS SS bd hL3 hL4 hm3 hm4
  refine all4_frame F.size F.defers F.s2 F.s3 F.s4 ?_
  clear F
  intro u0 u1 u5 u6
  intros
  have r0 := R5.out.get 0
  have r1 := R5.out.get 1
  go_wp2_with fail
  refine (put_walk A3 m3 c3 wr L3 w5 (S.out.below B5.out S.out.size) S3.out Q3.out hc3 (by omega)).mono ?_
  rintro e w6 ⟨v6, rfl, h6, b6⟩
  obtain ⟨A8, c8, rfl⟩ := HasB.shape h6
  obtain ⟨pl, hpl⟩ : ∃ pl, (putV wr L3).length = pl := ⟨_, rfl⟩
  have P8 := HasB.sq h6
  rw [hpl] at P8 ⊢
  have P8 := Lib.hid P8
  have PLN := Lib.hid hpl
  have plm : pl ≤ 12010 := by rw [← hpl]; exact putV_len S3.out
  have R6 := Lib.hid (show RowAt w6 g3 _ _ from (b6.block _ R5.out.lt).trans R5.out)
  have T6 := Lib.hid (show RowAt w6 (g3 + 1) _ _ from (b6.block _ T5.out.lt).trans T5.out)
  have B6 := Lib.hid (B5.out.trans (b6.mono B5.out.size))
  have Q36 := Lib.hid ((Q3.out.below b6).up b6.size)
  have Q46 := Lib.hid ((Q4.out.below b6).up b6.size)
  clear r0 r1 h6 b6 R5 T5 B5 Q3 Q4 hpl
  have r0 := T6.out.get 0
  have r1 := T6.out.get 1
  go_wp2_with fail
  refine (put_walk A4 m4 c4 ws L4 w6 (S.out.below B6.out S.out.size) S4.out Q46.out hc4 (by omega)).mono ?_
  rintro e w7 ⟨v7, rfl, h7, b7⟩
  obtain ⟨A10, c10, rfl⟩ := HasB.shape h7
  obtain ⟨ql, hql⟩ : ∃ ql, (putV ws L4).length = ql := ⟨_, rfl⟩
  have P10 := HasB.sq h7
  rw [hql] at P10 ⊢
  have P10 := Lib.hid P10
  have R7 := Lib.hid (show RowAt w7 g3 _ _ from (b7.block _ R6.out.lt).trans R6.out)
  have T7 := Lib.hid (show RowAt w7 (g3 + 1) _ _ from (b7.block _ T6.out.lt).trans T6.out)
  have B7 := Lib.hid (B6.out.trans (b7.mono B6.out.size))
  have Q37 := Lib.hid ((Q36.out.below b7).up b7.size)
  have Q47 := Lib.hid ((Q46.out.below b7).up b7.size)
  have P87 := Lib.hid ((P8.out.below b7).up b7.size)
  clear r0 r1 h7 b7 R6 T6 B6 Q36 Q46 P8 hql
  have r0 := R7.out.get 0
  have r1 := R7.out.get 1
  go_wp2_with fail
  refine (refPutRow_walk A3 m3 c3 wr L3 w7 S3.out Q37.out (by omega)).mono ?_
  rintro e w8 ⟨v8, rfl, h8, b8⟩
  obtain ⟨A12, c12, rfl⟩ := HasB.shape h8
  have P12 := HasB.sq h8
  rw [PLN.out] at P12 ⊢
  have bd := (Below.refl w8.heap.size w8).drew
  have P12 := Lib.hid (show Sq w8.drew w8.drew.heap.size 1 pl A12 _ from P12.below bd)
  have R8 := Lib.hid (show RowAt w8.drew g3 _ _ from (b8.block _ R7.out.lt).trans R7.out)
  have T8 := Lib.hid (show RowAt w8.drew (g3 + 1) _ _ from (b8.block _ T7.out.lt).trans T7.out)
  have B8 := Lib.hid (show Below w.heap.size w w8.drew from (B7.out.trans (b8.mono B7.out.size)).drew)
  have Q38 := Lib.hid (show Sq w8.drew w8.drew.heap.size 3 m3 A3 _ from ((Q37.out.below b8).up b8.size).below bd)
  have Q48 := Lib.hid (show Sq w8.drew w8.drew.heap.size 3 m4 A4 _ from ((Q47.out.below b8).up b8.size).below bd)
  have P88 := Lib.hid (show Sq w8.drew w8.drew.heap.size 1 pl A8 _ from ((P87.out.below b8).up b8.size).below bd)
  have P108 := Lib.hid (show Sq w8.drew w8.drew.heap.size 1 ql A10 _ from ((P10.out.below b8).up b8.size).below bd)
  clear r0 r1 h8 b8 R7 T7 B7 Q37 Q47 P87 P10 bd
  go_wp2_with fail
  refine Ord.start (S := fun w' => Below w8.drew.heap.size w8.drew w') (n := 32) (by kernel_rfl) (by kernel_rfl) (Below.refl _ _) ?_
  generalize w8.drew = w9 at P12 R8 T8 B8 Q38 Q48 P88 P108 ⊢
  have hw9 := B8.out.size
  apply all8_great (g3 := g3) (g4 := g3 + 1) (pl := pl) (c8 := c8) (c12 := c12) (m3 := m3) (c3 := c3) (m4 := m4) (c4 := c4) (A8 := A8) (A12 := A12) (A3 := A3) (A4 := A4) (L3 := L3) (L4 := L4) (wr := wr) (ws := ws) (p2 := .slice A n c) (p6 := u6) (p10 := .slice A10 ql c10) (p11 := .bool (mayL L4)) (sp := strL (putV wr L3))
  case R => exact ⟨by kernel_rfl, by kernel_rfl⟩
  case hQ => exact fun _ _ _ _ _ h => h
  case RR => exact R8.out
  case TT => exact T8.out
  case Q3 => exact Q38.out
  case Q4 => exact Q48.out
  case h3 => exact S3.out
  case hm3 => omega
  case hm4 => omega
  case hsp => exact S.out.below B8.out S.out.size
  case hspz => exact (S.out.below B8.out S.out.size).size
  case cv8 => exact fun w hb => conv_sq (P88.out.below hb) putV_bytes c8
  case cv12 => exact fun w hb => conv_sq (P12.out.below hb) putV_bytes c12
  case F => exact ⟨rfl, rfl, rfl, rfl, rfl, rfl, rfl, rfl, rfl, rfl, rfl, rfl⟩
  intro a2 w10 F f70 b10
  have bd := b10.drew
  have R10 := Lib.hid (show RowAt w10.drew g3 _ _ from (bd.block _ R8.out.lt).trans R8.out)
  have T10 := Lib.hid (show RowAt w10.drew (g3 + 1) _ _ from (bd.block _ T8.out.lt).trans T8.out)
  have B10 := Lib.hid (B8.out.trans (b10.mono B8.out.size))
  have Q310 := Lib.hid ((Q38.out.below bd).up bd.size)
  have Q410 := Lib.hid ((Q48.out.below bd).up bd.size)
  have P810 := Lib.hid ((P88.out.below bd).up bd.size)
  have P1010 := Lib.hid ((P108.out.below bd).up bd.size)
  refine all8_frame F.size F.defers F.s2 F.s3 F.s4 F.s6 F.s8 F.s9 F.s10 F.s11 F.s12 F.s13 f70 ?_
  clear F f70 R8 T8 B8 Q38 Q48 P88 P108 P12 b10 bd
  intros
  obtain ⟨bb, hbb⟩ : ∃ bb, mayL L3 = bb := ⟨_, rfl⟩
  have HB := Lib.hid hbb
  rw [hbb]
  clear hbb
  cases bb
  · have hpl0 : pl = 0 := by
      rw [← PLN.out]
      unfold putV
      rw [if_neg (by rw [HB.out]; decide)]
      rfl
    subst hpl0
    go_wp2
    go_ret
    exact ⟨rfl, B10.out⟩
  · obtain ⟨m, hm⟩ : ∃ m, min n 20 = m := ⟨_, rfl⟩
    have hmin : min (n : Int) 20 = (m : Int) := by omega
    have hmn : m ≤ n := by omega
    have hm20 : m ≤ 20 := by omega
    have PV := Lib.hid (show putV wr L3 = putL wr L3 by unfold putV; rw [if_pos HB.out])
    obtain ⟨sm1, sm2⟩ := mayL_small (fun c hc => (S3.out c hc).2) HB.out
    have HGT := Lib.hid (show gotR (putV wr L3 ++ l.take m) = (wr, L3, pl, 0) by
      rw [← PLN.out, PV.out]
      exact gotR_some (getR_put (may := mayL) (wrap := wr) (l.take m) HB.out sm2 sm1))
    have MQ2 := Lib.hid ((sq_bytes_cut (MQ.out.below B10.out.drew) hmn).up B10.out.drew.size)
    go_wp2_with fail
    refine Ord.start (S := fun _ => True) (n := 17) (by kernel_rfl) (by kernel_rfl) trivial ?_
    have B11 := Lib.hid B10.out.drew
    clear B10
    generalize w10.drew = w11 at R10 T10 Q310 Q410 P810 P1010 MQ2 B11 ⊢
    apply all12_great (A := A) (A8 := A8) (n := n) (c := c) (g3 := g3) (g4 := g3 + 1) (pl := pl) (c8 := c8) (m := m) (m3 := m3) (p10 := .slice A10 ql c10) (p11 := .bool (mayL L4)) (pb := putV wr L3) (mb := l.take m) (L3 := L3) (wr := wr)
    case R => exact ⟨by kernel_rfl, by kernel_rfl⟩
    case hQ => exact fun _ _ _ _ _ h => h
    case hsp => exact S.out.below B11.out S.out.size
    case hspz => exact (S.out.below B11.out S.out.size).size
    case PQ => exact P810.out
    case MQ => exact MQ2.out
    case hmin => exact hmin
    case hmc => omega
    case hmc2 => omega
    case hm0 => omega
    case fit1 => unfold maxLen; omega
    case fit2 => omega
    case fit3 => unfold maxLen; omega
    case fit4 => omega
    case fit5 => omega
    case hbb => exact fun y hy => (List.mem_append.1 hy).elim (putV_bytes y) (fun h => ML.out y (List.mem_of_mem_take h))
    case HG => exact HGT.out
    case hm3 => exact LM3.out
    case F => exact ⟨rfl, rfl, rfl, rfl, rfl, rfl, rfl, rfl⟩
    intro a3 w12 g14 A5 c5 F f14 f15 f16 GG V5 b12
    have bd := b12.drew
    have R12 := Lib.hid (show RowAt w12.drew g3 _ _ from (bd.block _ R10.out.lt).trans R10.out)
    have T12 := Lib.hid (show RowAt w12.drew (g3 + 1) _ _ from (bd.block _ T10.out.lt).trans T10.out)
    have B12 := Lib.hid ((B11.out.trans (b12.mono B11.out.size)).drew)
    have Q312 := Lib.hid ((Q310.out.below bd).up bd.size)
    have Q412 := Lib.hid ((Q410.out.below bd).up bd.size)
    have P812 := Lib.hid ((P810.out.below bd).up bd.size)
    have P1012 := Lib.hid ((P1010.out.below bd).up bd.size)
    have GG12 := Lib.hid (show RowAt w12.drew g14 _ _ from GG)
    have Q512 := Lib.hid (show Sq w12.drew w12.drew.heap.size 3 m3 A5 _ from HasC.sq V5)
    refine all12_frame F.size F.defers F.s2 F.s3 F.s4 F.s8 F.s10 F.s11 f14 f15 f16 ?_
    clear F f14 f15 f16 GG V5 b12 bd R10 T10 Q310 Q410 P810 P1010 MQ2 B11
    intros
    go_wp2_with fail
    refine Ord.start (S := fun w' => Below w12.drew.heap.size w12.drew w') (n := 29) (by kernel_rfl) (by kernel_rfl) (Below.refl _ _) ?_
    generalize w12.drew = w13 at R12 T12 B12 Q312 Q412 P812 P1012 GG12 Q512 ⊢
    obtain ⟨b4, hb4⟩ : ∃ b4, mayL L4 = b4 := ⟨_, rfl⟩
    have HB4 := Lib.hid hb4
    rw [hb4]
    clear hb4
    cases b4
    · apply all13_no (g3 := g3) (g4 := g3 + 1) (g14 := g14) (pl := pl) (c8 := c8) (ql := ql) (c10 := c10) (m3 := m3) (c3 := c3) (c5 := c5) (A8 := A8) (A10 := A10) (A3 := A3) (A5 := A5) (L3 := L3) (wr := wr)
      case R => exact ⟨by kernel_rfl, by kernel_rfl⟩
      case hQ => exact fun _ _ _ _ _ h => h
      case RR => exact R12.out
      case Q3 => exact Q312.out
      case hm3 => omega
      case GG => exact GG12.out
      case Q5 => exact Q512.out
      case F => exact ⟨rfl, rfl, rfl, rfl, rfl, rfl, rfl, rfl, rfl, rfl⟩
      intro a4 w14 f6 fd b14
      have F6 := Lib.hid f6
      have FD := Lib.hid fd
      have F7 := Lib.hid (B12.out.trans (b14.mono B12.out.size))
      clear f6 fd b14
      go_wp2
      refine bodyPost_ret (v := .bool true) ?_ FD.out ⟨rfl, F7.out⟩
      have e := F6.out
      unfold Chain.At at e
      simp [results, Tryd.results4, go_sem, e]
    · apply all13_yes (g3 := g3) (g4 := g3 + 1) (g14 := g14) (pl := pl) (c8 := c8) (ql := ql) (c10 := c10) (m3 := m3) (c3 := c3) (m4 := m4) (c4 := c4) (c5 := c5) (A8 := A8) (A10 := A10) (A3 := A3) (A4 := A4) (A5 := A5) (L3 := L3) (L4 := L4) (wr := wr) (ws := ws) (bE := (wr == ws && eqL L3 L4)) (sp := strL (putV wr L3)) (sq := strL (putV ws L4))
      case R => exact ⟨by kernel_rfl, by kernel_rfl⟩
      case hQ => exact fun _ _ _ _ _ h => h
      case RR => exact R12.out
      case TT => exact T12.out
      case Q3 => exact Q312.out
      case Q4 => exact Q412.out
      case hm3 => omega
      case hm4 => omega
      case GG => exact GG12.out
      case Q5 => exact Q512.out
      case cv8 => exact fun w hb => conv_sq (P812.out.below hb) putV_bytes c8
      case cv10 => exact fun w hb => conv_sq (P1012.out.below hb) putV_bytes c10
      case hsE => exact strs_eq S3.out S4.out HB.out HB4.out
      case heE => rfl
      case F => exact ⟨rfl, rfl, rfl, rfl, rfl, rfl, rfl, rfl, rfl, rfl⟩
      intro a4 w14 f6 fd b14
      have F6 := Lib.hid f6
      have FD := Lib.hid fd
      have F7 := Lib.hid (B12.out.trans (b14.mono B12.out.size))
      clear f6 fd b14
      go_wp2
      refine bodyPost_ret (v := .bool true) ?_ FD.out ⟨rfl, F7.out⟩
      have e := F6.out
      unfold Chain.At at e
      simp [results, Tryd.results4, go_sem, e]

-- WHAT THE WALK GIVES, FOR EVERY ARGUMENT AND EVERY WORLD THAT HOLDS THE TABLE.
set_option maxRecDepth 100000 in
theorem contract (H : Type) (enc : TypeId × Value → H) (W : World) (base : Nat) (args : Array Value) (ds gs : List (DataW H)) (before : List MemPlace)
    (hval : ∀ (j : Nat) t v, Tryd.f4.params[j]? = some t → args[j]? = some v → Value.okWide Tryd.prog W .any base t v)
    (hW : DataW.Whole enc Tryd.prog Tryd.f4.params.toList Rows.packAllSpec.vars false W args.toList ds gs before) (hL : laidMetH Tryd.prog Rows.packAllRow.laid W) :
    Calls Tryd.prog 4 args W fun e W' => ∃ v, e = .returned v ∧ Rows.packAllSpec.post enc Tryd.prog Tryd.f4 false true false false W args v W' := by
  have hW' := hW
  obtain ⟨p, q, hA0, hV, rfl, hfz, hnd⟩ := hW
  have hA : DataW.TrodAll enc Tryd.prog W 0 (fun _ => true) true Tryd.f4.params.toList args.toList ds p := hA0
  rw [Tryd.params4] at hA hval
  obtain ⟨v0, vs0, d0, ds0, p0, q0, hargs, rfl, rfl, h0, r0⟩ := trodAll_cons hA
  obtain ⟨v1, vs1, d1, ds1, p1, q1, rfl, rfl, rfl, h1, r1⟩ := trodAll_cons r0
  obtain ⟨v2, vs2, d2, ds2, p2, q2, rfl, rfl, rfl, h2, r2⟩ := trodAll_cons r1
  obtain ⟨rfl, rfl, rfl⟩ := trodAll_nil r2
  obtain rfl : args = #[v0, v1, v2] := by cases args; simp_all
  obtain ⟨rfl, rfl⟩ := trodVars_none hV
  obtain ⟨x, rfl, hx⟩ := open_row (hval 0 31 v0 rfl rfl) h0
  obtain ⟨y, rfl, hy⟩ := open_row (hval 1 31 v1 rfl rfl) h1
  obtain ⟨Az, nz, cz, z, rfl, hcz, hmz, hrz, hqz⟩ := open_bytes (hval 2 23 v2 rfl rfl) h2
  clear hA0
  refine (walk x y Az nz cz z hcz hmz hrz W (spans_of hL) hx hy hqz).mono fun e W' ⟨he, hg⟩ => ?_
  subst he
  exact ⟨_, rfl, close rfl hW' ⟨rfl, rfl, rfl⟩ (by kernel_rfl) (by kernel_rfl) hg⟩

set_option maxRecDepth 100000 in
theorem laid_met (os : Os) : laidMet Tryd.prog Rows.packAllRow.laid ((laidWorld os).forCall (fun _ _ => 0) ⟨#[], #[.agg #[.slice none 0 0, .bool false], .agg #[.slice none 0 0, .bool false], .slice none 0 0], []⟩).memory :=
  laidMet_of_run' 8 (by kernel_rfl) (by kernel_rfl)
set_option maxRecDepth 100000 in
theorem reads (os : Os) {H : Type} (enc : TypeId × Value → H) : ∃ places, DataW.whole enc Tryd.prog ((laidWorld os).forCall (fun _ _ => 0) ⟨#[], #[.agg #[.slice none 0 0, .bool false], .agg #[.slice none 0 0, .bool false], .slice none 0 0], []⟩).memory Tryd.f4.params.toList Rows.packAllSpec.vars false (#[.agg #[.slice none 0 0, .bool false], .agg #[.slice none 0 0, .bool false], .slice none 0 0] : Array Value).toList 8 = some ([.agg [.nil, .lit (.bool false)], .agg [.nil, .lit (.bool false)], .nil], [], places) :=
  ⟨[], by kernel_rfl⟩

set_option maxRecDepth 100000 in
theorem lifted (os : Os) (started : os.Started) (H : Type) (enc : TypeId × Value → H) (F : Stop.Interp) :
    ReturnsInHanded {} Tryd.checked os 4 .any ((OpenSpec.ofChange Rows.packAllSpec).preRow enc Tryd.prog Tryd.f4 Rows.packAllRow.domain false Rows.packAllRow.laid) (((OpenSpec.ofChange Rows.packAllSpec).at F).post enc Tryd.prog Tryd.f4 false true false false) := by
  obtain ⟨places, hx⟩ := reads os enc
  refine returnsInHanded_of_row (C := Tryd.checked) (s := OpenSpec.ofChange Rows.packAllSpec) ownNone started (by kernel_rfl) Tryd.func4
    (witness_row_at (enc := enc) (C := Tryd.checked) false (laidWorld os) #[.agg #[.slice none 0 0, .bool false], .agg #[.slice none 0 0, .bool false], .slice none 0 0] rfl (by kernel_rfl) (by kernel_rfl) (by kernel_rfl)
      (OpenSpec.preRow_of_cond 8 hx (by kernel_rfl) (fun k hk => by cases hk) (by kernel_rfl) (laid_met os))) ?_
  intro W base args ds gs before hval hW _ _ _ hL _ _
  exact contract H enc W base args ds gs before hval hW hL

set_option maxRecDepth 100000 in
theorem said : Rows.PackAllSaid :=
  OpenClaim.holds_of_cond 4 Tryd.f4 rfl rfl rfl rfl rfl rfl rfl ⟨rfl, rfl, rfl, rfl, rfl⟩ rfl rfl rfl rfl rfl (by kernel_rfl) Tryd.func4 (by kernel_rfl)
    (of_decide_eq_true (by kernel_rfl)) (by unfold Func.isWrapper; first | (rw [if_pos (by decide +kernel)]; kernel_rfl) | (rw [if_neg (by decide +kernel)]; exact ⟨rfl, rfl⟩))
    (fun os started H enc _ F => by rw [OpenClaim.pre_eq_preRow]; exact lifted os started H enc F)

-- No parameter wants a stand-in; the program's own looks are off: what the card asks.
set_option maxRecDepth 100000 in
theorem plain (f : FuncId) (fn : Func) (hf : Tryd.pinned.checked.prog.funcNamed "rotulus/rotuluslaw4.PackAll" = some f) (hfn : Tryd.pinned.checked.prog.funcs[f]? = some fn) :
    false = Tryd.pinned.checked.prog.looks [] ∧ ∀ (j : Nat) t, fn.params[j]? = some t → Tryd.pinned.checked.prog.wantsStandIn t = false := by
  obtain rfl : f = 4 := Option.some.inj ((show Tryd.prog.funcNamed "rotulus/rotuluslaw4.PackAll" = some 4 by kernel_rfl).symm.trans hf) |>.symm
  obtain rfl : fn = Tryd.f4 := (Option.some.inj (Tryd.func4.symm.trans hfn)).symm
  refine ⟨by kernel_rfl, fun j t ht => ?_⟩
  rw [Tryd.params4] at ht
  have hm := Array.mem_of_getElem? ht
  simp at hm
  rcases hm with rfl | rfl
  · exact (show Tryd.prog.wantsStandIn 31 = false by kernel_rfl)
  · exact (show Tryd.prog.wantsStandIn 23 = false by kernel_rfl)

-- The card.
set_option maxRecDepth 100000 in
theorem card : Rows.PackAllCardSaid :=
  Claim7.holds_tied_plain_at .later [] _ _ _ _ said (fun _ h => by cases h) (by kernel_rfl) (fun _ h => by cases h) packAll_row_tie rfl ⟨rfl, rfl⟩ (by kernel_rfl) rfl plain (by kernel_rfl)
end Go.Proofs.YtikdlikdknfcfaaDoor.packAll
