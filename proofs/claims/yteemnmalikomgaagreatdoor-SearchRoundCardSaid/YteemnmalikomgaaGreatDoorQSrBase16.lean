import Derived.Test.YteemnmalikomgaaGreatDoorQSrLine1
import Derived.Test.YteemnmalikomgaaGreatDoorQSrRefRow0
set_option maxRecDepth 100000
set_option maxHeartbeats 6400000
namespace Go.Proofs.YteemnmalikomgaaGreatDoor
open Go.ChangeShapes Go.WideShapes Go.ChangeAt Go.RowKit
namespace Ln
open Rw
theorem okC_ref (r m a : Int) : okC (r, m, a) = (mayB (r, m, a) && !(m == 0) && !(r == 0 && m == 1 && a == 0)) := by
 cases hb : mayB (r, m, a) with
 | false => unfold okC; simp [hb]
 | true =>
  have h3 : m = 0 ∨ m = 1 ∨ m = 2 := by
   have hw := wof_range r
   unfold mayB at hb
   simp only [Bool.and_eq_true, Bool.or_eq_true, decide_eq_true_eq, beq_iff_eq, Prod.mk.injEq] at hb
   omega
  unfold okC hasB isB
  simp only [hb, Bool.and_true, Bool.true_and]
  rcases h3 with rfl | rfl | rfl <;> simp
theorem lineB_step {l : List Cel} {k : Nat} {r m a : Int} (h : l[k]? = some (r, m, a)) : lineB (l.drop k) = (mayB (r, m, a) && !(m == 0) && !(r == 0 && m == 1 && a == 0) && lineB (l.drop (k + 1))) := by
 rw [drop_get h, ← okC_ref]
 rfl
theorem refLine_walk (A : Option Addr) (n c : Nat) (l : List Cel) (w : World) (hl : ∀ c ∈ l, -2147483648 ≤ c.1 ∧ c.1 ≤ 2147483647) (hq : Sq w w.heap.size 3 n A (flat l)) (hn : n ≤ 1000000) :
  Calls Tryz.prog 65 #[.slice A n c] w fun e w' => e = .returned (.bool (lineB l)) ∧ Below w.heap.size w w' := by
 have hln : l.length = n := by have := hq.len; rw [flat_length] at this; omega
 have LN := Lib.hid hln
 have Q := Lib.hid hq
 have HL := Lib.hid hl
 have B1 := Lib.hid (Below.refl w.heap.size w)
 clear hln hq hl
 go_enter Tryz.func65, Tryz.ntmps65
 go_wp2_with fail
 go_loopw [3] (fun i wr => ∃ k : Nat, i = .int .i64 k ∧ k ≤ n ∧ Below w.heap.size w wr ∧ Hid (lineB (l.drop k) = lineB l)) (fun i _ => n - (intOf i).toNat)
 case atStart => exact ⟨0, rfl, Nat.zero_le _, B1.out, Lib.hid rfl⟩
 case round =>
  obtain ⟨k, rfl, hk, hb, RG⟩ := hrel
  have HB := Lib.hid hb
  have hsz := hb.size
  by_cases hlt : k < n
  ·obtain ⟨b, off, rfl, hbb, ⟨r, m, a⟩, hcc, q0, q1, q2⟩ := (Q.out.below hb).three hlt
   have hx := HL.out _ (List.mem_of_getElem? hcc)
   have ST := Lib.hid (lineB_step hcc)
   obtain ⟨C, hC⟩ : ∃ C, mayB (r, m, a) = C := ⟨_, rfl⟩
   obtain ⟨D, hD⟩ : ∃ D, (r == 0 && m == 1 && a == 0) = D := ⟨_, rfl⟩
   have MC := Lib.hid (fun w => refCell_walk r m a hx.1 hx.2 w)
   have NE := fun w => Rw.eql_cell r m a 0 1 0 w
   rw [hC] at MC ST
   rw [hD] at NE ST
   obtain ⟨I, hI, F, h0, hB, hN⟩ := Cls.below wr
   have H0 := Lib.hid h0
   have HBn := Lib.hid (fun n => HB.out.trans ((hB n).mono hsz))
   have HN := Lib.hid hN
   have RD := Lib.hid (show ∀ j c, l[j]? = some c → ∀ n, (F n).cell? ⟨b, off + j * 3, none⟩ = some (.int .i32 c.1) ∧ (F n).cell? ⟨b, off + j * 3 + 1, none⟩ = some (.int .i64 c.2.1) ∧ (F n).cell? ⟨b, off + j * 3 + 2, none⟩ = some (.int .i64 c.2.2) from fun j c hj n => (Q.out.below (HBn.out n)).cells hj)
   have c0 := fun n => (RD.out k _ hcc n).1
   have c1 := fun n => (RD.out k _ hcc n).2.1
   have c2 := fun n => (RD.out k _ hcc n).2.2
   dsimp only at c0 c1 c2
   have MCN := Lib.hid (show ∀ n, Calls Tryz.prog 101 #[cellV r m a] (F n) fun e w' => e = .returned (.bool C) ∧ ∃ m, w' = F m from fun n => (MC.out (F n)).mono fun e w' ⟨he, hb⟩ => ⟨he, HN.out n w' hb⟩)
   have PDN := Lib.hid (show ∀ n, Calls Tryz.prog 102 #[] (F n) fun e w' => e = .returned (cellV 0 1 0) ∧ ∃ m, w' = F m from fun n => (refPad_walk (F n)).mono fun e w' ⟨he, hb⟩ => ⟨he, HN.out n w' hb⟩)
   have hk0 : (0 : Int) ≤ (k : Int) := by omega
   have hkn : (k : Int) < (n : Int) := by omega
   clear hb hcc hC hD hbb hx q0 q1 q2 h0 hB hN MC
   go_wp2_with fail
   cases C
   ·refine Cls.region F H0.out (by kernel_rfl) (by kernel_rfl) ?_
    repeat (go_big_quiet_step ((first | (go_at_call 102; exact PDN.out _) | (go_at_call 101; exact MCN.out _))))
    refine wpQuiet_nil ?_
    intro _ hw'
    obtain ⟨nq, hw''⟩ := hw'
    subst hw''
    have BB := Lib.hid (HBn.out nq)
    have RF := Lib.hid (show lineB l = false by rw [← RG.out, ST.out]; simp)
    go_wp2
    go_ret
    exact ⟨ret_bool RF.out.symm, BB.out⟩
   ·cases h0 : (m == 0)
    ·cases D
     ·refine Cls.region F H0.out (by kernel_rfl) (by kernel_rfl) ?_
      repeat (go_big_quiet_step ((first | (go_at_call 102; exact PDN.out _) | (go_at_call 101; exact MCN.out _))))
      refine wpQuiet_nil ?_
      intro _ hw'
      obtain ⟨nq, hw''⟩ := hw'
      subst hw''
      have BB := Lib.hid (HBn.out nq)
      have RN := Lib.hid (show lineB (l.drop (k + 1)) = lineB l by rw [← RG.out, ST.out]; simp [h0])
      go_wp2
      go_roundw
      case rel => exact ⟨k + 1, by first | go_num | (congr 1; omega), by omega, BB.out, RN⟩
      case measure => first | (simp [intOf]; done) | (simp [intOf]; omega)
     ·refine Cls.region F H0.out (by kernel_rfl) (by kernel_rfl) ?_
      repeat (go_big_quiet_step ((first | (go_at_call 102; exact PDN.out _) | (go_at_call 101; exact MCN.out _))))
      refine wpQuiet_nil ?_
      intro _ hw'
      obtain ⟨nq, hw''⟩ := hw'
      subst hw''
      have BB := Lib.hid (HBn.out nq)
      have RF := Lib.hid (show lineB l = false by rw [← RG.out, ST.out]; simp)
      go_wp2
      go_ret
      exact ⟨ret_bool RF.out.symm, BB.out⟩
    ·refine Cls.region F H0.out (by kernel_rfl) (by kernel_rfl) ?_
     repeat (go_big_quiet_step ((first | (go_at_call 102; exact PDN.out _) | (go_at_call 101; exact MCN.out _))))
     refine wpQuiet_nil ?_
     intro _ hw'
     obtain ⟨nq, hw''⟩ := hw'
     subst hw''
     have BB := Lib.hid (HBn.out nq)
     have RF := Lib.hid (show lineB l = false by rw [← RG.out, ST.out, h0]; simp)
     go_wp2
     go_ret
     exact ⟨ret_bool RF.out.symm, BB.out⟩
  ·have hk' : k = n := by omega
   have E : l.drop k = [] := List.drop_eq_nil_of_le (by have := LN.out; omega)
   have RT := Lib.hid (show lineB l = true by rw [← RG.out, E]; rfl)
   clear hb E hk'
   go_wp2
   go_ret
   exact ⟨ret_bool RT.out.symm, HB.out⟩
end Ln
namespace NF
def AtAll (F : FuncId) (P : Value) (A : Option Addr) (n c : Nat) (f : Nat → Int) (w : World) : Prop :=
 ∀ w2, Below w.heap.size w w2 → ∀ a : Nat, a ≤ n → Calls Tryz.prog F #[P, .slice A n c, .int .i64 (a : Int)] w2 fun e w' => LenP (f a) w2 e w'
theorem AtAll.below {F : FuncId} {P : Value} {A : Option Addr} {n c : Nat} {f : Nat → Int} {w w' : World} (h : AtAll F P A n c f w) (b : Below w.heap.size w w') : AtAll F P A n c f w' := fun w2 b2 => h w2 (b.trans (b2.mono b.size))
theorem findAtAll {w : World} {p : Nat} {t : Nd} (h : Prg w w.heap.size p t) (A : Option Addr) (n c : Nat) (l : List Int) (hn : n ≤ 1000000) (hl : l.length = n) (hq : Sq w w.heap.size 1 n A (runesV l)) :
  AtAll 28 (.pointer (some ⟨p, 0, none⟩)) A n c (longI l t n) w := fun w2 b a ha => by
 rw [← atI_in l t n a ha]
 exact findAt_walk (h.below b) A n c l hn b.size hl ((hq.below b).up b.size) _
theorem refAtAll (t : Nd) (x : Nv) (lo : Nat) (w : World) (hct : may t = true) (hx : NdIn w lo w.heap.size t x) (A : Option Addr) (n c : Nat) (l : List Int) (hn : n ≤ 1000000) (hl : l.length = n) (hq : Sq w w.heap.size 1 n A (runesV l)) :
  AtAll 29 x.v A n c (longI l t n) w := fun w2 b a ha => by
 rw [← atI_in l t n a ha]
 exact refAt_walk t x lo w2 hct (ndIn_up (Nat.le_refl _) b.size (hx.below b)) A n c l hn hl ((hq.below b).up b.size) _
theorem findNext_gen (f : Nat → Int) (P : Value) (A : Option Addr) (n c : Nat) (z : Int) (hz : -9223372036854775808 ≤ z ∧ z ≤ 9223372036854775807) (w : World) (hn : n ≤ 1000000) (CN : AtAll 28 P A n c f w) :
  Calls Tryz.prog 24 #[P, .slice A n c, .int .i64 z] w fun e w' => HitP f (nxt f z.toNat (n - z.toNat)) w e w' := by
 obtain ⟨i0, hi0⟩ : ∃ i0 : Nat, max z 0 = (i0 : Int) := ⟨(max z 0).toNat, by omega⟩
 rw [show z.toNat = i0 by omega]
 obtain ⟨o, ho⟩ : ∃ o, nxt f i0 (n - i0) = o := ⟨_, rfl⟩
 rw [ho]
 have HO := Lib.hid ho
 have C := Lib.hid CN
 unfold HitP
 clear CN ho
 go_enter Tryz.func24, Tryz.ntmps24
 go_wp2_with fail
 go_loopw [9] (fun v wr => ∃ i : Nat, v = .int .i64 (i : Int) ∧ Hid (nxt f i (n - i) = o) ∧ Hid (Below w.heap.size w wr)) (fun v _ => n - (intOf v).toNat)
 case atStart => exact ⟨i0, rfl, HO, Lib.hid (Below.refl _ _)⟩
 case round =>
  obtain ⟨i, rfl, NX, BW⟩ := hrel
  by_cases hlt : i < n
  ·have h1 : (i : Int) < (n : Int) := by omega
   have hw : IntKind.i64.wrap ((i : Int) + 1) = (i : Int) + 1 := IntWalk.i64_in _ (by omega)
   obtain ⟨k, hk⟩ : ∃ k, f i = k := ⟨_, rfl⟩
   have HK := Lib.hid hk
   have CA := Lib.hid (C.out wr (BW.out) i (by omega))
   rw [hk] at CA
   have NS := Lib.hid (show nxt f i (n - i) = if 0 < k then .some i else nxt f (i + 1) (n - (i + 1)) from by
    rw [show n - i = (n - (i + 1)) + 1 by omega, nxt, hk])
   clear hk
   go_wp2_with fail
   refine CA.out.mono ?_
   rintro e w2 ⟨rfl, b2⟩
   have B2 := Lib.hid (BW.out.trans (b2.mono BW.out.size))
   clear b2 CA
   by_cases h0 : 0 < k
   ·have E := Lib.hid (show hitV f o = .tuple #[.int .i64 (i : Int), .int .i64 k, .bool true] from by
     rw [← NX.out, NS.out, if_pos h0, hitV, HK.out])
    go_wp2_with fail
    refine bodyPost_ret (results_tmp3 (t := 6) (u := 7) (v := 8) rfl _ _ _) rfl ?_
    exact ⟨by rw [E.out]; rfl, B2.out⟩
   ·have N2 := Lib.hid (show nxt f (i + 1) (n - (i + 1)) = o from by rw [← NX.out, NS.out, if_neg h0])
    go_wp2_with fail
    go_roundw
    case rel => exact ⟨i + 1, by first | rfl | (congr 1; done) | (congr 1; omega), N2, B2⟩
    case measure => first | (simp [intOf]; done) | (simp [intOf]; omega)
  ·have h1 : ¬ (i : Int) < (n : Int) := by omega
   have E := Lib.hid (show hitV f o = .tuple #[.int .i64 0, .int .i64 0, .bool false] from by
    rw [← NX.out, show n - i = 0 by omega, nxt, hitV])
   go_wp2_with fail
   refine bodyPost_ret (results_tmp3 (t := 6) (u := 7) (v := 8) rfl _ _ _) rfl ?_
   exact ⟨by rw [E.out]; rfl, BW.out⟩
theorem findLast_gen (f : Nat → Int) (P : Value) (A : Option Addr) (n c : Nat) (z : Int) (hz : -9223372036854775808 ≤ z ∧ z ≤ 9223372036854775807) (w : World) (hn : n ≤ 1000000) (CN : AtAll 28 P A n c f w) :
  Calls Tryz.prog 26 #[P, .slice A n c, .int .i64 z] w fun e w' => HitP f (lst f (min z.toNat n)) w e w' := by
 obtain ⟨m0, hm0⟩ : ∃ m0 : Int, min z (n : Int) = m0 := ⟨_, rfl⟩
 have hm1 : m0 ≤ (n : Int) := by omega
 rw [show min z.toNat n = m0.toNat by omega]
 obtain ⟨o, ho⟩ : ∃ o, lst f m0.toNat = o := ⟨_, rfl⟩
 rw [ho]
 have HO := Lib.hid ho
 have C := Lib.hid CN
 unfold HitP
 clear CN ho
 go_enter Tryz.func26, Tryz.ntmps26
 go_wp2_with fail
 go_loopw [9] (fun v wr => ∃ m : Int, v = .int .i64 m ∧ m ≤ (n : Int) ∧ Hid (lst f m.toNat = o) ∧ Hid (Below w.heap.size w wr)) (fun v _ => (intOf v).toNat)
 case atStart => exact ⟨m0, rfl, hm1, HO, Lib.hid (Below.refl _ _)⟩
 case round =>
  obtain ⟨m, rfl, hin, NX, BW⟩ := hrel
  by_cases hlt : 0 < m
  ·obtain ⟨j, rfl⟩ : ∃ j : Nat, m = (j : Int) + 1 := ⟨(m - 1).toNat, by omega⟩
   have hw : IntKind.i64.wrap ((j : Int) + 1 - 1) = (j : Int) := by rw [IntWalk.i64_in _ (by omega)]; omega
   have hjt : ((j : Int) + 1).toNat = j + 1 := by omega
   rw [hjt] at NX
   obtain ⟨k, hk⟩ : ∃ k, f j = k := ⟨_, rfl⟩
   have HK := Lib.hid hk
   have CA := Lib.hid (C.out wr (BW.out) j (by omega))
   rw [hk] at CA
   have NS := Lib.hid (show lst f (j + 1) = if 0 < k then .some j else lst f j from by rw [lst, hk])
   clear hk
   go_wp2_with fail
   refine CA.out.mono ?_
   rintro e w2 ⟨rfl, b2⟩
   have B2 := Lib.hid (BW.out.trans (b2.mono BW.out.size))
   clear b2 CA
   by_cases h0 : 0 < k
   ·have E := Lib.hid (show hitV f o = .tuple #[.int .i64 (j : Int), .int .i64 k, .bool true] from by
     rw [← NX.out, NS.out, if_pos h0, hitV, HK.out])
    go_wp2_with fail
    refine bodyPost_ret (results_tmp3 (t := 6) (u := 7) (v := 8) rfl _ _ _) rfl ?_
    exact ⟨by rw [E.out]; rfl, B2.out⟩
   ·have N2 := Lib.hid (show lst f j = o from by rw [← NX.out, NS.out, if_neg h0])
    go_wp2_with fail
    go_roundw
    case rel => exact ⟨(j : Int), rfl, by omega, by rw [Int.toNat_natCast]; exact N2, B2⟩
    case measure => first | (simp [intOf]; done) | (simp [intOf]; omega)
  ·have hm0 : m.toNat = 0 := by omega
   rw [hm0] at NX
   have E := Lib.hid (show hitV f o = .tuple #[.int .i64 0, .int .i64 0, .bool false] from by
    rw [← NX.out, lst, hitV])
   go_wp2_with fail
   refine bodyPost_ret (results_tmp3 (t := 6) (u := 7) (v := 8) rfl _ _ _) rfl ?_
   exact ⟨by rw [E.out]; rfl, BW.out⟩
end NF
end Go.Proofs.YteemnmalikomgaaGreatDoor
namespace Go.Proofs.YteemnmalikomgaaGreatDoor.NF
def lineH (f : Nat → Int) (i : Nat) : Nat → Nat → List (Nat × Nat)
 | _, 0 => []
 | a, m + 1 => if 0 < f a then (i, a) :: lineH f i (a + 1) m else lineH f i (a + 1) m
def allH (f : Nat → Nat → Int) (n : Nat → Nat) : Nat → Nat → List (Nat × Nat)
 | _, 0 => []
 | i, k + 1 => lineH (f i) i 0 (n i) ++ allH f n (i + 1) k
theorem lineH_head (f : Nat → Int) (i : Nat) : ∀ (m a : Nat), (lineH f i a m).head? = (nxt f a m).map fun b => (i, b)
 | 0, a => rfl
 | m + 1, a => by
  rw [lineH, nxt]
  split
  ·rfl
  ·exact lineH_head f i m (a + 1)
theorem lineH_snoc (f : Nat → Int) (i : Nat) : ∀ (m a : Nat), lineH f i a (m + 1) = lineH f i a m ++ if 0 < f (a + m) then [(i, a + m)] else []
 | 0, a => by by_cases h : 0 < f a <;> simp [lineH, h]
 | m + 1, a => by
  rw [lineH, lineH_snoc f i m (a + 1)]
  conv => rhs; rw [lineH]
  rw [show a + 1 + m = a + (m + 1) by omega]
  split <;> simp
theorem lineH_last (f : Nat → Int) (i : Nat) : ∀ (m : Nat), (lineH f i 0 m).reverse.head? = (lst f m).map fun b => (i, b)
 | 0 => rfl
 | m + 1 => by
  rw [lineH_snoc, lst, Nat.zero_add]
  split
  ·simp
  ·rw [List.append_nil]; exact lineH_last f i m
theorem lineH_mem {f : Nat → Int} {i : Nat} : ∀ {m a : Nat} {x : Nat × Nat}, x ∈ lineH f i a m → x.1 = i ∧ a ≤ x.2 ∧ x.2 < a + m
 | 0, a, x, h => by simp [lineH] at h
 | m + 1, a, x, h => by
  rw [lineH] at h
  split at h
  ·rcases List.mem_cons.1 h with rfl | h
   ·exact ⟨rfl, Nat.le_refl _, by simp⟩
   ·have := lineH_mem h; exact ⟨this.1, by omega, by omega⟩
  ·have := lineH_mem h; exact ⟨this.1, by omega, by omega⟩
theorem allH_mem {f : Nat → Nat → Int} {n : Nat → Nat} : ∀ {k i : Nat} {x : Nat × Nat}, x ∈ allH f n i k → i ≤ x.1 ∧ x.1 < i + k
 | 0, i, x, h => by simp [allH] at h
 | k + 1, i, x, h => by
  rw [allH] at h
  rcases List.mem_append.1 h with h | h
  ·have := lineH_mem h; omega
  ·have := allH_mem h; omega
theorem allH_add (f : Nat → Nat → Int) (n : Nat → Nat) : ∀ (k j i : Nat), allH f n i (k + j) = allH f n i k ++ allH f n (i + k) j
 | 0, j, i => by simp [allH]
 | k + 1, j, i => by
  rw [show k + 1 + j = (k + j) + 1 by omega, allH, allH_add f n k j (i + 1), allH, List.append_assoc, show i + 1 + k = i + (k + 1) by omega]
theorem lineH_split (f : Nat → Int) (i : Nat) : ∀ (m j a : Nat), lineH f i a (m + j) = lineH f i a m ++ lineH f i (a + m) j
 | 0, j, a => by simp [lineH]
 | m + 1, j, a => by
  rw [show m + 1 + j = (m + j) + 1 by omega, lineH, lineH_split f i m j (a + 1), lineH, show a + 1 + m = a + (m + 1) by omega]
  split <;> simp
def beh (L O : Nat) (x : Nat × Nat) : Bool := decide (L < x.1) || decide (x.1 = L) && decide (O < x.2)
def ahd (L O : Nat) (x : Nat × Nat) : Bool := decide (x.1 < L) || decide (x.1 = L) && decide (x.2 < O)
theorem find_all {α : Type} {p : α → Bool} {l : List α} (h : ∀ x ∈ l, p x = true) : l.find? p = l.head? := by
 cases l with
 | nil => rfl
 | cons x l => rw [List.find?_cons, h x List.mem_cons_self]; rfl
theorem find_nothing {α : Type} {p : α → Bool} {l : List α} (h : ∀ x ∈ l, p x = false) : l.find? p = .none := by
 rw [List.find?_eq_none]
 intro x hx
 rw [h x hx]
 simp
def fwd (f : Nat → Nat → Int) (n : Nat → Nat) (N : Nat) : Nat → Nat → Nat → Option (Nat × Nat)
 | _, _, 0 => .none
 | i, o, k + 1 =>
  match nxt (f i) o (n i - o) with
  | .some a => .some (i, a)
  | .none => fwd f n N ((i + 1) % N) 0 k
theorem fwd_head (f : Nat → Nat → Int) (n : Nat → Nat) (N : Nat) : ∀ (k i : Nat), i + k ≤ N → fwd f n N i 0 k = (allH f n i k).head?
 | 0, i, _ => rfl
 | k + 1, i, h => by
  rw [fwd, allH, List.head?_append, lineH_head, Nat.sub_zero]
  cases hx : nxt (f i) 0 (n i) with
  | some a => rfl
  | none =>
   dsimp only [Option.map_none, Option.none_or]
   cases k with
   | zero => rfl
   | succ k => rw [Nat.mod_eq_of_lt (by omega)]; exact fwd_head f n N (k + 1) (i + 1) (by omega)
theorem fwd_add (f : Nat → Nat → Int) (n : Nat → Nat) (N : Nat) (hN : 0 < N) : ∀ (k j i : Nat), i < N → fwd f n N i 0 (k + j) = (fwd f n N i 0 k).or (fwd f n N ((i + k) % N) 0 j)
 | 0, j, i, h => by rw [Nat.zero_add, Nat.add_zero, Nat.mod_eq_of_lt h]; rfl
 | k + 1, j, i, h => by
  rw [show k + 1 + j = (k + j) + 1 by omega, fwd, fwd]
  cases hx : nxt (f i) 0 (n i - 0) with
  | some a => rfl
  | none =>
   dsimp only
   rw [fwd_add f n N hN k j _ (Nat.mod_lt _ hN)]
   congr 2
   rw [Nat.mod_add_mod]
   congr 1
   omega
theorem find_line {f : Nat → Int} {L O m : Nat} (hO : O ≤ m) : (lineH f L 0 m).find? (beh L O) = (lineH f L (O + 1) (m - (O + 1))).head? := by
 rcases Nat.lt_or_ge O m with h | h
 ·rw [show m = (O + 1) + (m - (O + 1)) by omega, lineH_split, List.find?_append, find_nothing (l := lineH f L 0 (O + 1)) fun x hx => by
   have := lineH_mem hx
   simp [beh]
   omega]
  rw [Nat.zero_add, Option.none_or, Nat.add_sub_cancel_left]
  exact find_all fun x hx => by
   have := lineH_mem hx
   simp [beh]
   omega
 ·rw [show m - (O + 1) = 0 by omega, find_nothing fun x hx => by
   have := lineH_mem hx
   simp [beh]
   omega]
  rfl
theorem fwd_in (f : Nat → Nat → Int) (n : Nat → Nat) (N L O : Nat) (hL : L < N) (hO : O ≤ n L) : fwd f n N L (O + 1) (N + 1) = ((allH f n 0 N).find? (beh L O)).or (allH f n 0 N).head? := by
 obtain ⟨k, rfl⟩ : ∃ k, N = L + (1 + k) := ⟨N - L - 1, by omega⟩
 have e1 : allH f n 0 (L + (1 + k)) = allH f n 0 L ++ (lineH (f L) L 0 (n L) ++ allH f n (L + 1) k) := by
  rw [allH_add, Nat.zero_add, Nat.add_comm 1 k, allH]
 have h1 : (allH f n 0 L).find? (beh L O) = .none := find_nothing fun x hx => by
  have := allH_mem hx
  simp [beh]
  omega
 have h2 : (allH f n (L + 1) k).find? (beh L O) = (allH f n (L + 1) k).head? := find_all fun x hx => by
  have := allH_mem hx
  simp [beh]
  omega
 rw [fwd, e1, List.find?_append, List.find?_append, h1, h2, find_line hO, Option.none_or, lineH_head]
 cases hx : nxt (f L) (O + 1) (n L - (O + 1)) with
 | some a => rfl
 | none =>
  dsimp only [Option.map_none, Option.none_or]
  have e2 : L + (1 + k) = k + (L + 1) := by omega
  rcases Nat.eq_zero_or_pos k with rfl | hk
  ·rw [show (L + 1) % (L + (1 + 0)) = 0 by rw [show L + (1 + 0) = L + 1 by omega, Nat.mod_self], fwd_head _ _ _ _ _ (by omega)]
   rw [allH_add f n L 1 0, Nat.zero_add]
   simp [allH]
  ·rw [Nat.mod_eq_of_lt (show L + 1 < L + (1 + k) by omega)]
   conv => lhs; rw [show fwd f n (L + (1 + k)) (L + 1) 0 (L + (1 + k)) = fwd f n (L + (1 + k)) (L + 1) 0 (k + (L + 1)) by rw [← e2]]
   rw [fwd_add _ _ _ (by omega) _ _ _ (by omega), fwd_head _ _ _ k (L + 1) (by omega), show (L + 1 + k) % (L + (1 + k)) = 0 by rw [show L + 1 + k = L + (1 + k) by omega, Nat.mod_self], fwd_head _ _ _ (L + 1) 0 (by omega), allH_add f n L 1 0, Nat.zero_add]
   cases hr : (allH f n (L + 1) k).head? with
   | some x => rfl
   | none =>
    rw [Option.none_or, Option.none_or, List.head?_eq_none_iff.1 hr]
    simp [allH]
def bwd (f : Nat → Nat → Int) (n : Nat → Nat) (N : Nat) : Nat → Nat → Nat → Option (Nat × Nat)
 | _, _, 0 => .none
 | i, b, k + 1 =>
  match lst (f i) b with
  | .some a => .some (i, a)
  | .none => bwd f n N ((i + N - 1) % N) (n ((i + N - 1) % N)) k
theorem allH_snoc (f : Nat → Nat → Int) (n : Nat → Nat) (i k : Nat) : allH f n i (k + 1) = allH f n i k ++ lineH (f (i + k)) (i + k) 0 (n (i + k)) := by
 rw [allH_add, allH, allH, List.append_nil]
theorem allH_last (f : Nat → Nat → Int) (n : Nat → Nat) (i k : Nat) : (allH f n i (k + 1)).reverse.head? = ((lst (f (i + k)) (n (i + k))).map fun b => (i + k, b)).or (allH f n i k).reverse.head? := by
 rw [allH_snoc, List.reverse_append, List.head?_append, lineH_last]
theorem bwd_last (f : Nat → Nat → Int) (n : Nat → Nat) (N : Nat) : ∀ (k i : Nat), i + (k + 1) ≤ N → bwd f n N (i + k) (n (i + k)) (k + 1) = (allH f n i (k + 1)).reverse.head?
 | 0, i, h => by
  rw [allH_last, bwd]
  cases hx : lst (f (i + 0)) (n (i + 0)) with
  | some a => rfl
  | none => rfl
 | k + 1, i, h => by
  rw [allH_last, bwd]
  cases hx : lst (f (i + (k + 1))) (n (i + (k + 1))) with
  | some a => rfl
  | none =>
   dsimp only [Option.map_none]
   rw [Option.none_or, show (i + (k + 1) + N - 1) % N = i + k by rw [show i + (k + 1) + N - 1 = (i + k) + N by omega, Nat.add_mod_right, Nat.mod_eq_of_lt (by omega)]]
   exact bwd_last f n N k i (by omega)
theorem bwd_add (f : Nat → Nat → Int) (n : Nat → Nat) (N : Nat) : ∀ (k j i : Nat), k ≤ i → i < N → bwd f n N i (n i) (k + j) = (bwd f n N i (n i) k).or (bwd f n N (i - k) (n (i - k)) j)
 | 0, j, i, h, _ => by rw [Nat.zero_add, Nat.sub_zero]; rfl
 | k + 1, j, i, h, h2 => by
  rw [show k + 1 + j = (k + j) + 1 by omega, bwd, bwd]
  cases hx : lst (f i) (n i) with
  | some a => rfl
  | none =>
   dsimp only
   rw [show (i + N - 1) % N = i - 1 by rw [show i + N - 1 = (i - 1) + N by omega, Nat.add_mod_right, Nat.mod_eq_of_lt (by omega)], bwd_add f n N k j (i - 1) (by omega) (by omega), show i - 1 - k = i - (k + 1) by omega]
theorem find_line_back {f : Nat → Int} {L O m : Nat} (hO : O ≤ m) : (lineH f L 0 m).reverse.find? (ahd L O) = (lineH f L 0 O).reverse.head? := by
 rw [show m = O + (m - O) by omega, lineH_split, List.reverse_append, List.find?_append, find_nothing (l := (lineH f L (0 + O) (m - O)).reverse) fun x hx => by
  have := lineH_mem (List.mem_reverse.1 hx)
  simp [ahd]
  omega, Option.none_or]
 exact find_all fun x hx => by
  have := lineH_mem (List.mem_reverse.1 hx)
  simp [ahd]
  omega
theorem bwd_in (f : Nat → Nat → Int) (n : Nat → Nat) (N L O : Nat) (hL : L < N) (hO : O ≤ n L) : bwd f n N L O (N + 1) = ((allH f n 0 N).reverse.find? (ahd L O)).or (allH f n 0 N).reverse.head? := by
 obtain ⟨k, rfl⟩ : ∃ k, N = L + (1 + k) := ⟨N - L - 1, by omega⟩
 have e1 : allH f n 0 (L + (1 + k)) = allH f n 0 L ++ (lineH (f L) L 0 (n L) ++ allH f n (L + 1) k) := by
  rw [allH_add, Nat.zero_add, Nat.add_comm 1 k, allH]
 have e2 : (allH f n 0 (L + (1 + k))).reverse = (allH f n (L + 1) k).reverse ++ ((lineH (f L) L 0 (n L)).reverse ++ (allH f n 0 L).reverse) := by
  rw [e1, List.reverse_append, List.reverse_append, List.append_assoc]
 have h1 : (allH f n (L + 1) k).reverse.find? (ahd L O) = .none := find_nothing fun x hx => by
  have := allH_mem (List.mem_reverse.1 hx)
  simp [ahd]
  omega
 have h2 : (allH f n 0 L).reverse.find? (ahd L O) = (allH f n 0 L).reverse.head? := find_all fun x hx => by
  have := allH_mem (List.mem_reverse.1 hx)
  simp [ahd]
  omega
 rw [bwd, e2, List.find?_append, List.find?_append, h1, h2, find_line_back hO, Option.none_or, lineH_last]
 cases hx : lst (f L) O with
 | some a => rfl
 | none =>
  dsimp only [Option.map_none]
  rw [Option.none_or, ← e2]
  have hlow : bwd f n (L + (1 + k)) ((L + (1 + k)) - 1) (n (L + (1 + k) - 1)) (1 + k) = (allH f n L (1 + k)).reverse.head? := by
   rw [Nat.add_comm 1 k]
   have := bwd_last f n (L + (k + 1)) k L (Nat.le_refl _)
   rwa [show L + k = L + (k + 1) - 1 by omega] at this
  have hall : (allH f n 0 (L + (1 + k))).reverse.head? = (allH f n L (1 + k)).reverse.head?.or (allH f n 0 L).reverse.head? := by
   rw [allH_add, Nat.zero_add, List.reverse_append, List.head?_append]
  rcases Nat.eq_zero_or_pos L with rfl | hl
  ·rw [show (0 + (0 + (1 + k)) - 1) % (0 + (1 + k)) = 0 + (1 + k) - 1 by rw [Nat.zero_add, Nat.mod_eq_of_lt (by omega)]]
   have := hlow
   rw [hall]
   rw [show 0 + (1 + k) = 1 + k by omega] at this ⊢
   rw [this]
   simp [allH]
  ·have e3 : (L + (L + (1 + k)) - 1) % (L + (1 + k)) = L - 1 := by
    rw [show L + (L + (1 + k)) - 1 = (L - 1) + (L + (1 + k)) by omega, Nat.add_mod_right, Nat.mod_eq_of_lt (by omega)]
   rw [e3]
   have e4 : bwd f n (L + (1 + k)) (L - 1) (n (L - 1)) L = (allH f n 0 L).reverse.head? := by
    have := bwd_last f n (L + (1 + k)) (L - 1) 0 (by omega)
    rwa [Nat.zero_add, show L - 1 + 1 = L by omega] at this
   obtain ⟨m, rfl⟩ : ∃ m, L = m + 1 := ⟨L - 1, by omega⟩
   rw [Nat.add_sub_cancel] at e4 ⊢
   have key : bwd f n (m + 1 + (1 + k)) m (n m) ((m + 1) + (1 + k)) = (bwd f n (m + 1 + (1 + k)) m (n m) (m + 1)).or (bwd f n (m + 1 + (1 + k)) (m + 1 + (1 + k) - 1) (n (m + 1 + (1 + k) - 1)) (1 + k)) := by
    rw [show m + 1 + (1 + k) = m + (1 + (1 + k)) by omega, bwd_add _ _ _ m _ m (Nat.le_refl _) (by omega), bwd_add _ _ _ m 1 m (Nat.le_refl _) (by omega), Nat.sub_self]
    cases bwd f n (m + (1 + (1 + k))) m (n m) m with
    | some x => rfl
    | none =>
     rw [Option.none_or, Option.none_or, Nat.add_comm 1 (1 + k), bwd]
     conv => rhs; rw [bwd]
     cases lst (f 0) (n 0) with
     | some x => rfl
     | none =>
      dsimp only
      rw [show (0 + (m + (1 + k + 1)) - 1) % (m + (1 + k + 1)) = m + (1 + k + 1) - 1 by rw [Nat.zero_add, Nat.mod_eq_of_lt (by omega)]]
      rfl
   rw [key, e4, hlow, hall]
   cases (allH f n 0 (m + 1)).reverse.head? with
   | some x => rfl
   | none => simp
end Go.Proofs.YteemnmalikomgaaGreatDoor.NF
namespace Go.Proofs.YteemnmalikomgaaGreatDoor
open Go.ChangeShapes Go.WideShapes Go.ChangeAt Go.RowKit
namespace NF
def sg (l : List Cel) : List Int := l.map (·.1)
theorem sg_len (l : List Cel) : (sg l).length = l.length := by unfold sg; rw [List.length_map]
def RunP (l : List Int) (w : World) (e : Ending) (w' : World) : Prop := ∃ A c, e = .returned (.slice A l.length c) ∧ Sq w' w'.heap.size 1 l.length A (runesV l) ∧ Below w.heap.size w w'
theorem made_runes (n : Nat) : madeCells #[Value.int .i32 0] n = (runesV (List.replicate n 0)).toArray := by
 apply Array.ext
 ·rw [size_madeCells]; simp [runesV]
 ·intro i h1 h2
  rw [size_madeCells] at h1
  have h3 : (madeCells #[Value.int .i32 0] n)[i]? = some (.int .i32 0) := by unfold madeCells; simp [h1, Nat.mod_one]
  rw [Array.getElem?_eq_getElem (by rw [size_madeCells]; exact h1)] at h3
  injection h3 with h3
  rw [h3]
  simp [runesV]
def RnBk (w : World) (g : Nat) (L : List Int) : Prop := Bk w 21 g (runesV L).toArray
theorem RnBk.get {w : World} {g : Nat} {L : List Int} (h : RnBk w g L) {i : Nat} {b : Int} (hi : L[i]? = some b) : w.cell? ⟨g, i, none⟩ = some (.int .i32 b) := by
 rw [Bk.get h i]
 simp [runesV, hi]
theorem RnBk.set {w : World} {g : Nat} {L : List Int} (h : RnBk w g L) (i : Nat) (b : Int) : RnBk (w.setCell ⟨g, i, none⟩ (.int .i32 b)) g (L.set i b) := by
 have := Bk.put h i (.int .i32 b)
 unfold RnBk
 have e : (runesV (L.set i b)).toArray = (runesV L).toArray.setIfInBounds i (.int .i32 b) := by
  simp [runesV, List.map_set]
 rw [e]
 exact this
theorem RnBk.sq {w : World} {g : Nat} {L : List Int} (h : RnBk w g L) : Sq w w.heap.size 1 L.length (some ⟨g, 0, none⟩) (runesV L) :=
 ⟨by simp [runesV], fun _ => ⟨g, 0, rfl, Bk.lt h, fun j u hu => by rw [Nat.zero_add, Bk.get h j]; simpa using hu⟩⟩
theorem srSigns_walk (A : Option Addr) (n c : Nat) (l : List Cel) (w : World) (hl : l.length = n) (hq : Sq w w.heap.size 3 n A (flat l)) (hn : n ≤ 1000000) :
  Calls Tryz.prog 35 #[.slice A n c] w fun e w' => RunP (sg l) w e w' := by
 unfold RunP
 have hsl := sg_len l
 rw [hl] at hsl
 rw [hsl]
 have SL := Lib.hid hsl
 have HL := Lib.hid hl
 have HQ := Lib.hid hq
 clear hl hsl hq
 by_cases h0 : n = 0
 ·subst h0
  have SE := Lib.hid (show sg l = [] from List.eq_nil_of_length_eq_zero SL.out)
  go_enter Tryz.func35, Tryz.ntmps35
  go_wp2_with fail
  go_ret
  exact ⟨none, 0, rfl, by rw [SE.out]; exact Sq.nothing _ _ _ _, Below.refl _ _⟩
 ·obtain ⟨i0, hi, hz0, hz1, hz2⟩ := info_parts info21
  have hN0 : (0 : Int) ≤ (n : Int) := by omega
  have hne : ((n : Int) == 0) = false := by simp; omega
  have MK := run_make w 23 21 i0 (.int .i32 0) Tryz.underlying23 hi hz0 .i64 .i64 (n : Int) (n : Int) hN0 (Int.le_refl _) (by rw [hz2]; omega) (by omega)
  rw [hz1, Int.toNat_natCast, Nat.mul_one] at MK
  obtain ⟨w1, hw1⟩ : ∃ w1, w.alloc (.cells (madeCells #[.int .i32 0] n) 21) = w1 := ⟨_, rfl⟩
  obtain ⟨g, hg⟩ : ∃ g, w.heap.size = g := ⟨_, rfl⟩
  have b1 : Below w.heap.size w w1 := by rw [← hw1]; exact (Below.refl _ _).alloc (Nat.le_refl _) _
  have K1 := Lib.hid (show RnBk w1 g (List.replicate n 0) from by
   unfold RnBk
   rw [← hw1, ← hg, ← made_runes]
   exact heap_alloc_new w _)
  have B1 := Lib.hid b1
  have HG := Lib.hid hg
  have HW := Lib.hid hw1
  clear hw1 b1 hg
  go_enter Tryz.func35, Tryz.ntmps35
  go_upto_region 4 with fail
  rw [HG.out]
  first
   | rw [HW.out]
   | (change Code.wp _ _ _ _ (w.alloc (.cells (madeCells #[.int .i32 0] n) 21)); rw [HW.out])
  clear MK hne h0 hN0 hz0 hz1 hz2 hi
  go_wp2_with fail
  go_loopw [14] (fun y wr => ∃ (i : Nat) (L : List Int), y = .int .i64 (i : Int) ∧ i ≤ n ∧ Hid (RnBk wr g L ∧ L.length = n ∧ ∀ j, j < i → L[j]? = (sg l)[j]?) ∧ Hid (Below w.heap.size w wr)) (fun y _ => n - (intOf y).toNat)
  case atStart => exact ⟨0, _, rfl, Nat.zero_le _, Lib.hid ⟨K1.out, by simp, fun j hj => absurd hj (Nat.not_lt_zero _)⟩, B1⟩
  case round =>
   obtain ⟨i, L, rfl, hin, KL, BR⟩ := hrel
   have hi0 : (0 : Int) ≤ (i : Int) := by omega
   by_cases hlt : i < n
   ·obtain ⟨b, off, rfl, hb, ⟨r, m, a⟩, hcc, q0, q1, q2⟩ := (HQ.out.below BR.out).three hlt
    have h1 : (i : Int) < (n : Int) := by omega
    have hw : IntKind.i64.wrap ((i : Int) + 1) = (i : Int) + 1 := IntWalk.i64_in _ (by omega)
    obtain ⟨w2, hw2⟩ : ∃ w2, wr.alloc (.cells #[.int .i32 r, .int .i64 m, .int .i64 a] 76) = w2 := ⟨_, rfl⟩
    have b2 : Below wr.heap.size wr w2 := by rw [← hw2]; exact (Below.refl _ _).alloc (Nat.le_refl _) _
    have x2 : w2.heap[wr.heap.size]? = some (.cells #[.int .i32 r, .int .i64 m, .int .i64 a] 76 (0, 0)) := by rw [← hw2]; exact heap_alloc_new wr _
    have k2 : RnBk w2 g L := (b2.block g (Bk.lt KL.out.1)).trans KL.out.1
    obtain ⟨z, hz⟩ : ∃ z, L[i]? = some z := ⟨_, List.getElem?_eq_getElem (by rw [KL.out.2.1]; exact hlt)⟩
    have cz := k2.get hz
    have fz := Bk.free k2 i
    obtain ⟨C2, hC2⟩ : ∃ k, wr.heap.size = k := ⟨_, rfl⟩
    have c0 : w2.cell? ⟨C2, 0, none⟩ = some (.int .i32 r) := by rw [← hC2]; exact cell_of_row _ _ 0 _ _ (0, 0) x2
    have S1 := Lib.hid (show RnBk (w2.setCell ⟨g, i, none⟩ (.int .i32 r)) g (L.set i r) ∧ (L.set i r).length = n ∧ ∀ j, j < i + 1 → (L.set i r)[j]? = (sg l)[j]? from ⟨k2.set i r, by rw [List.length_set]; exact KL.out.2.1, fun j hj => by
     by_cases hji : j = i
     ·subst hji
      rw [List.getElem?_set_self (by rw [KL.out.2.1]; exact hlt)]
      unfold sg
      rw [List.getElem?_map, hcc]
      rfl
     ·rw [List.getElem?_set_ne (by omega)]
      exact KL.out.2.2 j (by omega)⟩)
    have S2 := Lib.hid (show Below w.heap.size w (w2.setCell ⟨g, i, none⟩ (.int .i32 r)) from (BR.out.trans (b2.mono BR.out.size)).setCell (p := ⟨g, i, none⟩) (Nat.le_of_eq HG.out) _)
    have HW2 := Lib.hid hw2
    have HC2 := Lib.hid hC2
    clear hz hcc hw2 x2 k2 b2 hC2 hb
    go_upto_region 7 with fail
    rw [HC2.out]
    first
     | rw [HW2.out]
     | (change Code.wp _ _ _ _ (wr.alloc (.cells #[.int .i32 r, .int .i64 m, .int .i64 a] 76)); rw [HW2.out])
    go_wp2_with fail
    go_roundw
    case rel => exact ⟨i + 1, L.set i r, by first | rfl | (congr 1; done) | (congr 1; omega), by omega, S1, S2⟩
    case measure => first | (simp [intOf]; done) | (simp [intOf]; omega)
   ·obtain rfl : i = n := by omega
    have LE := Lib.hid (show L = sg l from List.ext_getElem? fun j => by
     by_cases hj : j < i
     ·exact KL.out.2.2 j hj
     ·rw [List.getElem?_eq_none (by rw [KL.out.2.1]; omega), List.getElem?_eq_none (by rw [SL.out]; omega)])
    have SQ := Lib.hid (show Sq wr wr.heap.size 1 i (some ⟨g, 0, none⟩) (runesV (sg l)) from by
     have h := KL.out.1.sq
     rw [KL.out.2.1, LE.out] at h
     exact h)
    go_wp2_with fail
    go_ret
    exact ⟨_, _, rfl, SQ.out, BR.out⟩
end NF
namespace NF
structure Lat (W : World) (B : Nat) (A : Option Addr) (ls : List (List Cel)) : Prop where
 each : ∀ (i : Nat) (l : List Cel), ls[i]? = some l → ∃ b off A' c', A = some ⟨b, off, none⟩ ∧ b < B ∧ W.cell? ⟨b, off + i, none⟩ = some (.slice A' l.length c') ∧ l.length ≤ c' ∧ Sq W B 3 l.length A' (flat l)
 few : ∀ l ∈ ls, l.length ≤ 1000000
theorem Lat.below {W W' : World} {B : Nat} {A : Option Addr} {ls : List (List Cel)} (h : Lat W B A ls) (hb : Below B W W') : Lat W' B A ls :=
 ⟨fun i l hl => by
  obtain ⟨b, off, A', c', e, h1, h2, h3, h4⟩ := h.each i l hl
  exact ⟨b, off, A', c', e, h1, (hb.cell (p := ⟨b, _, none⟩) h1).trans h2, h3, h4.below hb⟩, h.few⟩
theorem Lat.up {W : World} {B B' : Nat} {A : Option Addr} {ls : List (List Cel)} (h : Lat W B A ls) (hb : B ≤ B') : Lat W B' A ls :=
 ⟨fun i l hl => by
  obtain ⟨b, off, A', c', e, h1, h2, h3, h4⟩ := h.each i l hl
  exact ⟨b, off, A', c', e, by omega, h2, h3, h4.up hb⟩, h.few⟩
def lineAt (ls : List (List Cel)) (i : Nat) : List Cel := ls[i]?.getD []
theorem lineAt_some {ls : List (List Cel)} {i : Nat} (h : i < ls.length) : ls[i]? = some (lineAt ls i) := by
 unfold lineAt
 rw [List.getElem?_eq_getElem h]
 rfl
noncomputable def fOf (t : Nd) (ls : List (List Cel)) (i a : Nat) : Int := longI (sg (lineAt ls i)) t (lineAt ls i).length a
def nOf (ls : List (List Cel)) (i : Nat) : Nat := (lineAt ls i).length
def withinB (ls : List (List Cel)) (x y : Int) : Bool := decide (0 ≤ x) && decide (x < (ls.length : Int)) && decide (0 ≤ y) && decide (y ≤ (nOf ls x.toNat : Int))
theorem withinB_iff {ls : List (List Cel)} {x y : Int} : withinB ls x y = true ↔ (0 ≤ x ∧ x < (ls.length : Int)) ∧ 0 ≤ y ∧ y ≤ (nOf ls x.toNat : Int) := by
 unfold withinB
 simp only [Bool.and_eq_true, decide_eq_true_eq]
 omega
def put3 (w : World) (g : Nat) (x y z : Int) : World := ((w.setCell ⟨g, 0, none⟩ (.int .i64 x)).setCell ⟨g, 1, none⟩ (.int .i64 y)).setCell ⟨g, 2, none⟩ (.int .i64 z)
def threeBk (w : World) (t : TypeId) (g : Nat) (x y z : Int) : Prop := Bk w t g #[.int .i64 x, .int .i64 y, .int .i64 z]
theorem put3_trn (w : World) (g : Nat) (x y z : Int) : Trn (· = g) w (put3 w g x y z) :=
 ((Trn.ofCell g 0 w _).trans (Trn.ofCell g _ _ _) (fun _ _ h => h)).trans (Trn.ofCell g _ _ _) (fun _ _ h => h)
theorem put3_bk {w : World} {t : TypeId} {g : Nat} {x y z : Int} (h : threeBk w t g x y z) (x' y' z' : Int) : threeBk (put3 w g x' y' z') t g x' y' z' := by
 have h0 := Bk.put h 0 (.int .i64 x')
 have h1 := Bk.put h0 1 (.int .i64 y')
 exact Bk.put h1 2 (.int .i64 z')
theorem three_new (w : World) (t : TypeId) (x y z : Int) : ∃ w1, w.alloc (.cells #[.int .i64 x, .int .i64 y, .int .i64 z] t) = w1 ∧ threeBk w1 t w.heap.size x y z ∧ Below w.heap.size w w1 ∧ w1.heap.size = w.heap.size + 1 :=
 ⟨_, rfl, heap_alloc_new w _, (Below.refl _ _).alloc (Nat.le_refl _) _, by simp⟩
theorem threeBk.get {w : World} {t : TypeId} {g : Nat} {x y z : Int} (h : threeBk w t g x y z) : w.cell? ⟨g, 0, none⟩ = some (.int .i64 x) ∧ w.cell? ⟨g, 1, none⟩ = some (.int .i64 y) ∧ w.cell? ⟨g, 2, none⟩ = some (.int .i64 z) := ⟨Bk.get h 0, Bk.get h 1, Bk.get h 2⟩
theorem threeBk.free {w : World} {t : TypeId} {g : Nat} {x y z : Int} (h : threeBk w t g x y z) : w.frozen? ⟨g, 0, none⟩ = false ∧ w.frozen? ⟨g, 1, none⟩ = false ∧ w.frozen? ⟨g, 2, none⟩ = false := ⟨Bk.free h 0, Bk.free h 1, Bk.free h 2⟩
theorem threeBk.below {w w' : World} {t : TypeId} {g B : Nat} {x y z : Int} (h : threeBk w t g x y z) (hb : Below B w w') (hg : g < B) : threeBk w' t g x y z := (hb.block g hg).trans h
theorem laid_drewN (w : World) : ∀ n, Below w.heap.size w (w.drewN n)
 | 0 => Below.refl _ _
 | n + 1 => (laid_drewN w n).drew
theorem within_walk (A : Option Addr) (n c : Nat) (ls : List (List Cel)) (x y z : Int) (w : World) (hl : ls.length = n) (h : Lat w w.heap.size A ls) :
  Calls Tryz.prog 66 #[.slice A n c, .agg #[.int .i64 x, .int .i64 y, .int .i64 z]] w fun e w' => e = .returned (.bool (withinB ls x y)) ∧ Below w.heap.size w w' := by
 obtain ⟨w1, hw1, k1, b1, z1⟩ := three_new w 58 x y z
 obtain ⟨g, hg⟩ : ∃ g, w.heap.size = g := ⟨_, rfl⟩
 rw [hg] at k1
 have K1 := Lib.hid k1
 have B1 := Lib.hid b1
 have HL := Lib.hid hl
 have H1 := Lib.hid ((h.below b1).up b1.size)
 have y0 : ∀ q, (w1.drewN q).cell? ⟨g, 0, none⟩ = some (.int .i64 x) := fun q => ((laid_drewN w1 q).cell (p := ⟨g, 0, none⟩) K1.out.lt).trans K1.out.get.1
 have y1 : ∀ q, (w1.drewN q).cell? ⟨g, 1, none⟩ = some (.int .i64 y) := fun q => ((laid_drewN w1 q).cell (p := ⟨g, 1, none⟩) K1.out.lt).trans K1.out.get.2.1
 have HW := Lib.hid hw1
 have HG := Lib.hid hg
 clear h k1 b1 z1 hw1 hg hl
 by_cases h1 : 0 ≤ x
 ·by_cases h2 : x < (n : Int)
  ·obtain ⟨i, rfl⟩ : ∃ i : Nat, x = (i : Int) := ⟨x.toNat, by omega⟩
   obtain ⟨b, off, A', c', rfl, hb, hc, hc', _⟩ := H1.out.each i _ (lineAt_some (by rw [HL.out]; omega))
   obtain ⟨m, hm⟩ : ∃ m, (lineAt ls i).length = m := ⟨_, rfl⟩
   rw [hm] at hc
   have y2 : ∀ q, (w1.drewN q).cell? ⟨b, off + i, none⟩ = some (.slice A' m c') := fun q => ((laid_drewN w1 q).cell (p := ⟨b, off + i, none⟩) hb).trans hc
   have HM := Lib.hid hm
   clear hc hb hc' hm
   by_cases h3 : 0 ≤ y
   ·by_cases h4 : y ≤ (m : Int)
    ·have E := Lib.hid (show withinB ls (i : Int) y = true from withinB_iff.2 ⟨⟨by omega, by rw [HL.out]; exact h2⟩, h3, by unfold nOf; rw [Int.toNat_natCast, HM.out]; exact h4⟩)
     go_enter Tryz.func66, Tryz.ntmps66
     go_upto_region 1 with fail
     rw [HG.out]
     first
      | rw [HW.out]
      | (change Code.wp _ _ _ _ (w.alloc (.cells #[.int .i64 (i : Int), .int .i64 y, .int .i64 z] 58)); rw [HW.out])
     go_quiet (fail)
     go_wp2_with fail
     go_ret
     exact ⟨by rw [E.out]; rfl, B1.out.trans ((laid_drewN w1 _).mono B1.out.size)⟩
    ·have E := Lib.hid (show withinB ls (i : Int) y = false from by
      rw [← Bool.not_eq_true, withinB_iff]
      unfold nOf
      rw [Int.toNat_natCast, HM.out]
      omega)
     go_enter Tryz.func66, Tryz.ntmps66
     go_upto_region 1 with fail
     rw [HG.out]
     first
      | rw [HW.out]
      | (change Code.wp _ _ _ _ (w.alloc (.cells #[.int .i64 (i : Int), .int .i64 y, .int .i64 z] 58)); rw [HW.out])
     go_quiet (fail)
     go_wp2_with fail
     go_ret
     exact ⟨by rw [E.out]; rfl, B1.out.trans ((laid_drewN w1 _).mono B1.out.size)⟩
   ·have E := Lib.hid (show withinB ls (i : Int) y = false from by rw [← Bool.not_eq_true, withinB_iff]; omega)
    go_enter Tryz.func66, Tryz.ntmps66
    go_upto_region 1 with fail
    rw [HG.out]
    first
     | rw [HW.out]
     | (change Code.wp _ _ _ _ (w.alloc (.cells #[.int .i64 (i : Int), .int .i64 y, .int .i64 z] 58)); rw [HW.out])
    go_quiet (fail)
    go_wp2_with fail
    go_ret
    exact ⟨by rw [E.out]; rfl, B1.out.trans ((laid_drewN w1 _).mono B1.out.size)⟩
  ·have E := Lib.hid (show withinB ls x y = false from by rw [← Bool.not_eq_true, withinB_iff, HL.out]; omega)
   go_enter Tryz.func66, Tryz.ntmps66
   go_upto_region 1 with fail
   rw [HG.out]
   first
    | rw [HW.out]
    | (change Code.wp _ _ _ _ (w.alloc (.cells #[.int .i64 x, .int .i64 y, .int .i64 z] 58)); rw [HW.out])
   go_quiet (fail)
   go_wp2_with fail
   go_ret
   exact ⟨by rw [E.out]; rfl, B1.out.trans ((laid_drewN w1 _).mono B1.out.size)⟩
 ·have E := Lib.hid (show withinB ls x y = false from by rw [← Bool.not_eq_true, withinB_iff]; omega)
  go_enter Tryz.func66, Tryz.ntmps66
  go_upto_region 1 with fail
  rw [HG.out]
  first
   | rw [HW.out]
   | (change Code.wp _ _ _ _ (w.alloc (.cells #[.int .i64 x, .int .i64 y, .int .i64 z] 58)); rw [HW.out])
  go_quiet (fail)
  go_wp2_with fail
  go_ret
  exact ⟨by rw [E.out]; rfl, B1.out.trans ((laid_drewN w1 _).mono B1.out.size)⟩
end NF
namespace ClsB
theorem region {P : Program} {id : Nat} {Q : Exit → Act → World → Prop} {a : Act} {w : World} {l : List Oper} {I : Type} (F : I → World) (h0 : ∃ n, w.drew = F n) (hm : P.follows .mixedOrders = true) (hB : Region.lexB .any l.toArray = true)
  (h : wpQuiet P l.toArray (fun w' => ∃ n, w' = F n) (fun a' => ∀ w', (∃ n, w' = F n) → Q .normal a' w') l a) : (Code.region id l.toArray true).wp P Q a w :=
 wp_region_quiet (C := fun w' => ∃ n, w' = F n) hm hB h0 (by simpa using h)
theorem below (w : World) : ∃ (I : Type) (_ : Nonempty I) (F : I → World), (∃ n, w.drew = F n) ∧ (∀ n, Below w.heap.size w (F n)) ∧ ∀ n W, Below (F n).heap.size (F n) W → ∃ m, W = F m :=
 ⟨{ W : World // Below w.heap.size w W }, ⟨⟨w, Below.refl _ _⟩⟩, Subtype.val, ⟨⟨w.drew, (Below.refl _ _).drew⟩, rfl⟩, fun n => n.2, fun n W h => ⟨⟨W, n.2.trans (h.mono n.2.size)⟩, rfl⟩⟩
end ClsB
