import Derived.Test.YtmpoboffdfcpiaaGreatDoorQBase7
import Derived.Test.YtmpoboffdfcpiaaGreatDoorQRefRow1
set_option maxRecDepth 100000
set_option maxHeartbeats 12800000
namespace Go.Proofs.YtmpoboffdfcpiaaGreatDoor
open Go.ChangeShapes Go.WideShapes Go.ChangeAt Go.RowKit
def nextBad (c : Cel) : List Cel → Bool
 | [] => true
 | d :: _ => !(d.1 == 0 && d.2.1 == 0 && d.2.2 == c.2.2)
def refGo : Cel → List Cel → Bool
 | _, [] => true
 | p, c :: l => mayB c && !(c.2.1 == 2 && nextBad c l) && !(c.2.1 == 0 && !(p.2.1 == 2 && p.2.2 == c.2.2)) && refGo c l
theorem mayB_zero {c : Cel} (h : mayB c = true) (h0 : c.2.1 = 0) : c.1 = 0 := by
 obtain ⟨r, n, a⟩ := c
 simp only at h0
 subst h0
 unfold mayB at h
 simp at h
 exact h.2
theorem mayGo_ref : ∀ (l : List Cel) (p : Cel), mayGo p l = ((!(p.2.1 == 2) || !(nextBad p l)) && refGo p l)
 | [], p => by simp [mayGo, refGo, nextBad]
 | c :: l, p => by
  have ih := mayGo_ref l c
  have e1 : mayGo p (c :: l) = (mayB c && ((p.2.1 == 2) == (c.2.1 == 0)) && (!(c.2.1 == 0) || c.2.2 == p.2.2) && mayGo c l) := rfl
  have e2 : refGo p (c :: l) = (mayB c && !(c.2.1 == 2 && nextBad c l) && !(c.2.1 == 0 && !(p.2.1 == 2 && p.2.2 == c.2.2)) && refGo c l) := rfl
  have e3 : nextBad p (c :: l) = !(c.1 == 0 && c.2.1 == 0 && c.2.2 == p.2.2) := rfl
  rw [e1, e2, e3, ih]
  clear e1 e2 e3 ih
  generalize refGo c l = g
  generalize nextBad c l = nb
  cases hm : mayB c
  ·simp
  ·cases hp : (p.2.1 == 2)
   ·cases h0 : (c.2.1 == 0) <;> cases h2 : (c.2.1 == 2) <;> cases nb <;> cases g <;> rfl
   ·cases h0 : (c.2.1 == 0)
    ·simp
    ·have hr : c.1 = 0 := mayB_zero hm (by simpa using h0)
     have h2 : (c.2.1 == 2) = false := by simp only [beq_iff_eq] at h0; rw [h0]; rfl
     cases ha : (c.2.2 == p.2.2)
     ·simp
     ·have ha' : (p.2.2 == c.2.2) = true := by simp only [beq_iff_eq] at ha ⊢; exact ha.symm
      rw [ha', hr, h2]
      simp
theorem mayL_ref (l : List Cel) : mayL l = (decide (l.length ≤ 300) && refGo (32, 1, 0) l) := by
 unfold mayL
 rw [mayGo_ref]
 rfl
theorem Sq.cells {w : World} {B n b off k : Nat} {l : List Cel} {c : Cel} (h : Sq w B 3 n (some ⟨b, off, none⟩) (flat l)) (hc : l[k]? = some c) : w.cell? ⟨b, off + k * 3, none⟩ = some (.int .i32 c.1) ∧ w.cell? ⟨b, off + k * 3 + 1, none⟩ = some (.int .i64 c.2.1) ∧ w.cell? ⟨b, off + k * 3 + 2, none⟩ = some (.int .i64 c.2.2) := by
 have hl : k < n := by
  have h1 := h.len
  rw [flat_length] at h1
  have := (List.getElem?_eq_some_iff.1 hc).1
  omega
 obtain ⟨b', off', e, _, c', h', q0, q1, q2⟩ := h.three hl
 injection e with e
 injection e with e1 e2
 subst e1 e2
 rw [hc] at h'
 injection h' with h'
 subst h'
 exact ⟨q0, q1, q2⟩
def prevL (l : List Cel) (k : Nat) : Cel := if k = 0 then (32, 1, 0) else l.getD (k - 1) (32, 1, 0)
theorem prevL_succ {l : List Cel} {k : Nat} {c : Cel} (h : l[k]? = some c) : prevL l (k + 1) = c := by
 unfold prevL
 rw [if_neg (by omega), Nat.add_sub_cancel, List.getD, h]
 rfl
theorem prevL_zero (l : List Cel) : prevL l 0 = (32, 1, 0) := rfl
theorem prevL_get {l : List Cel} {k : Nat} {c : Cel} (hk : 0 < k) (h : l[k - 1]? = some c) : prevL l k = c := by
 unfold prevL
 rw [if_neg (by omega), List.getD, h]
 rfl
theorem drop_get {l : List Cel} {k : Nat} {c : Cel} (h : l[k]? = some c) : l.drop k = c :: l.drop (k + 1) := by
 obtain ⟨h1, h2⟩ := List.getElem?_eq_some_iff.1 h
 rw [List.drop_eq_getElem_cons h1, h2]
theorem refGo_step {l : List Cel} {k : Nat} {c : Cel} (h : l[k]? = some c) : refGo (prevL l k) (l.drop k) = (mayB c && !(c.2.1 == 2 && nextBad c (l.drop (k + 1))) && !(c.2.1 == 0 && !((prevL l k).2.1 == 2 && (prevL l k).2.2 == c.2.2)) && refGo (prevL l (k + 1)) (l.drop (k + 1))) := by
 rw [drop_get h, prevL_succ h]
 rfl
theorem neq_cell (r m a a0 : Int) (w : World) : (binOp .neq 62 (cellV r m a) (cellV 0 0 a0)).run Tryz.prog w = .ok (.bool (!(r == 0 && m == 0 && a == a0))) w := by
 have hw := w
 cases h1 : (r == 0) <;> cases h2 : (m == 0) <;> cases h3 : (a == a0) <;> go_simp
theorem refRow_any (A : Option Addr) (n c : Nat) (wrap : Bool) (l : List Cel) (w : World) (hl : ∀ c ∈ l, -2147483648 ≤ c.1 ∧ c.1 ≤ 2147483647) (hq : Sq w w.heap.size 3 n A (flat l)) (hn : n ≤ 9223372036854775807) :
  Calls Tryz.prog 39 #[rowV A n c wrap] w fun e w' => e = .returned (.bool (mayL l)) ∧ Below w.heap.size w w' := by
 have hln : l.length = n := by have := hq.len; rw [flat_length] at this; omega
 have LN := Lib.hid hln
 have Q := Lib.hid hq
 have HL := Lib.hid hl
 have MR := Lib.hid (mayL_ref l)
 have B1 := Lib.hid ((Below.refl w.heap.size w).alloc (Nat.le_refl _) (.cells #[.slice A n c, .bool wrap] 58))
 clear hln hq hl
 go_enter Tryz.func39, Tryz.ntmps39
 go_wp2_with fail
 go_loopw [4] (fun i wr => ∃ k : Nat, i = .int .i64 k ∧ k ≤ n ∧ Below w.heap.size w wr ∧ Hid (refGo (prevL l k) (l.drop k) = refGo (32, 1, 0) l)) (fun i _ => n - (intOf i).toNat)
 case atStart => exact ⟨0, rfl, Nat.zero_le _, B1.out, Lib.hid rfl⟩
 case round =>
  obtain ⟨k, rfl, hk, hb, RG⟩ := hrel
  have HB := Lib.hid hb
  have hsz := hb.size
  by_cases hlt : k < n
  ·obtain ⟨b, off, rfl, hbb, ⟨r, m, a⟩, hcc, q0, q1, q2⟩ := (Q.out.below hb).three hlt
   have hx := HL.out _ (List.mem_of_getElem? hcc)
   have ST := Lib.hid (refGo_step hcc)
   obtain ⟨C, hC⟩ : ∃ C, mayB (r, m, a) = C := ⟨_, rfl⟩
   have MC := Lib.hid (fun w => refCell_walk r m a hx.1 hx.2 w)
   rw [hC] at MC ST
   obtain ⟨I, hI, F, h0, hB, hN⟩ := Cls.below wr
   have H0 := Lib.hid h0
   have HBn := Lib.hid (fun n => HB.out.trans ((hB n).mono hsz))
   have HN := Lib.hid hN
   have RD := Lib.hid (show ∀ j c, l[j]? = some c → ∀ n, (F n).cell? ⟨b, off + j * 3, none⟩ = some (.int .i32 c.1) ∧ (F n).cell? ⟨b, off + j * 3 + 1, none⟩ = some (.int .i64 c.2.1) ∧ (F n).cell? ⟨b, off + j * 3 + 2, none⟩ = some (.int .i64 c.2.2) from fun j c hj n => (Q.out.below (HBn.out n)).cells hj)
   have c0 := fun n => (RD.out k _ hcc n).1
   have c1 := fun n => (RD.out k _ hcc n).2.1
   have c2 := fun n => (RD.out k _ hcc n).2.2
   dsimp only at c0 c1 c2
   have MCN := Lib.hid (show ∀ n, Calls Tryz.prog 92 #[cellV r m a] (F n) fun e w' => e = .returned (.bool C) ∧ ∃ m, w' = F m from fun n => (MC.out (F n)).mono fun e w' ⟨he, hb⟩ => ⟨he, HN.out n w' hb⟩)
   have hinc : IntKind.i64.wrap ((k : Int) + 1) = (k : Int) + 1 := IntWalk.i64_in _ (by omega)
   have hk0 : (0 : Int) ≤ (k : Int) := by omega
   have hkn : (k : Int) < (n : Int) := by omega
   clear hb hcc hC hbb hx q0 q1 q2 h0 hB hN MC
   go_wp2_with fail
   cases C
   ·refine Cls.region F H0.out (by kernel_rfl) (by kernel_rfl) ?_
    repeat (go_big_quiet_step ((go_at_call 92; exact MCN.out _)))
    refine wpQuiet_nil ?_
    intro _ hw'
    obtain ⟨nq, hw''⟩ := hw'
    subst hw''
    have BB := Lib.hid (HBn.out nq)
    have RF := Lib.hid (show mayL l = false by rw [MR.out, ← RG.out, ST.out]; simp)
    go_wp2
    go_ret
    exact ⟨ret_bool RF.out.symm, BB.out⟩
   ·cases h2 : (m == 2)
    ·cases h0 : (m == 0)
     ·refine Cls.region F H0.out (by kernel_rfl) (by kernel_rfl) ?_
      repeat (go_big_quiet_step ((go_at_call 92; exact MCN.out _)))
      refine wpQuiet_nil ?_
      intro _ hw'
      obtain ⟨nq, hw''⟩ := hw'
      subst hw''
      have BB := Lib.hid (HBn.out nq)
      have RN := Lib.hid (show refGo (prevL l (k + 1)) (l.drop (k + 1)) = refGo (32, 1, 0) l by rw [← RG.out, ST.out]; simp [h2, h0])
      go_wp2
      go_roundw
      case rel => exact ⟨k + 1, by first | go_num | (congr 1; omega), by omega, BB.out, RN⟩
      case measure => first | (simp [intOf]; done) | (simp [intOf]; omega)
     ·by_cases hkz : k = 0
      ·subst hkz
       simp only [Nat.zero_mul, Nat.add_zero] at c0 c1 c2
       refine Cls.region F H0.out (by kernel_rfl) (by kernel_rfl) ?_
       repeat (go_big_quiet_step ((go_at_call 92; exact MCN.out _)))
       refine wpQuiet_nil ?_
       intro _ hw'
       obtain ⟨nq, hw''⟩ := hw'
       subst hw''
       have BB := Lib.hid (HBn.out nq)
       have RF := Lib.hid (show mayL l = false by rw [MR.out, ← RG.out, ST.out]; rw [prevL_zero]; simp [h2, h0])
       go_wp2
       go_ret
       exact ⟨ret_bool RF.out.symm, BB.out⟩
      ·obtain ⟨⟨pr, pm, pa⟩, hcp⟩ : ∃ c, l[k - 1]? = some c := ⟨_, List.getElem?_eq_getElem (show k - 1 < l.length by have := LN.out; omega)⟩
       have PL := Lib.hid (prevL_get (by omega) hcp)
       have d0 : ((k : Int) == 0) = false := by simp; omega
       have hw : IntKind.i64.wrap ((k : Int) - 1) = (k : Int) - 1 := IntWalk.i64_in _ (by omega)
       have hp0 : (0 : Int) ≤ (k : Int) - 1 := by omega
       have hp1 : (k : Int) - 1 < (n : Int) := by omega
       have hp3 : ((k : Int) - 1).toNat = k - 1 := by omega
       have p0 := fun n => (RD.out (k - 1) _ hcp n).1
       have p1 := fun n => (RD.out (k - 1) _ hcp n).2.1
       have p2 := fun n => (RD.out (k - 1) _ hcp n).2.2
       dsimp only at p0 p1 p2
       clear hcp
       cases hp : (pm != 2)
       ·have hp' : (pm == 2) = true := by simpa using hp
        cases ha : (pa != a)
        ·have ha' : (pa == a) = true := by simpa using ha
         refine Cls.region F H0.out (by kernel_rfl) (by kernel_rfl) ?_
         repeat (go_big_quiet_step ((go_at_call 92; exact MCN.out _)))
         refine wpQuiet_nil ?_
         intro _ hw'
         obtain ⟨nq, hw''⟩ := hw'
         subst hw''
         have BB := Lib.hid (HBn.out nq)
         have RN := Lib.hid (show refGo (prevL l (k + 1)) (l.drop (k + 1)) = refGo (32, 1, 0) l by rw [← RG.out, ST.out]; rw [PL.out]; (try dsimp only); rw [h2, h0, hp', ha']; simp)
         go_wp2
         go_roundw
         case rel => exact ⟨k + 1, by first | go_num | (congr 1; omega), by omega, BB.out, RN⟩
         case measure => first | (simp [intOf]; done) | (simp [intOf]; omega)
        ·have ha' : (pa == a) = false := by simpa using ha
         refine Cls.region F H0.out (by kernel_rfl) (by kernel_rfl) ?_
         repeat (go_big_quiet_step ((go_at_call 92; exact MCN.out _)))
         refine wpQuiet_nil ?_
         intro _ hw'
         obtain ⟨nq, hw''⟩ := hw'
         subst hw''
         have BB := Lib.hid (HBn.out nq)
         have RF := Lib.hid (show mayL l = false by rw [MR.out, ← RG.out, ST.out]; rw [PL.out]; (try dsimp only); rw [h2, h0, hp', ha']; simp)
         go_wp2
         go_ret
         exact ⟨ret_bool RF.out.symm, BB.out⟩
       ·have hp' : (pm == 2) = false := by simpa using hp
        refine Cls.region F H0.out (by kernel_rfl) (by kernel_rfl) ?_
        repeat (go_big_quiet_step ((go_at_call 92; exact MCN.out _)))
        refine wpQuiet_nil ?_
        intro _ hw'
        obtain ⟨nq, hw''⟩ := hw'
        subst hw''
        have BB := Lib.hid (HBn.out nq)
        have RF := Lib.hid (show mayL l = false by rw [MR.out, ← RG.out, ST.out]; rw [PL.out]; (try dsimp only); rw [h2, h0, hp']; simp)
        go_wp2
        go_ret
        exact ⟨ret_bool RF.out.symm, BB.out⟩
    ·have h0 : (m == 0) = false := by simp only [beq_iff_eq] at h2; rw [h2]; rfl
     by_cases hnx : k + 1 < n
     ·obtain ⟨⟨r', m', a'⟩, hcp⟩ : ∃ c, l[k + 1]? = some c := ⟨_, List.getElem?_eq_getElem (show k + 1 < l.length by have := LN.out; omega)⟩
      have ND := Lib.hid (show nextBad (r, m, a) (l.drop (k + 1)) = !(r' == 0 && m' == 0 && a' == a) by rw [drop_get hcp]; rfl)
      have NE := fun w => neq_cell r' m' a' a w
      have hx0 : (0 : Int) ≤ (k : Int) + 1 := by omega
      have hx1 : (k : Int) + 1 < (n : Int) := by omega
      have hx2 : ¬ (n : Int) ≤ (k : Int) + 1 := by omega
      have hx3 : ((k : Int) + 1).toNat = k + 1 := by omega
      have p0 := fun n => (RD.out (k + 1) _ hcp n).1
      have p1 := fun n => (RD.out (k + 1) _ hcp n).2.1
      have p2 := fun n => (RD.out (k + 1) _ hcp n).2.2
      dsimp only at p0 p1 p2
      clear hcp
      obtain ⟨y, hy⟩ : ∃ y, (!(r' == 0 && m' == 0 && a' == a)) = y := ⟨_, rfl⟩
      rw [hy] at ND NE
      clear hy
      cases y
      ·refine Cls.region F H0.out (by kernel_rfl) (by kernel_rfl) ?_
       repeat (go_big_quiet_step ((go_at_call 92; exact MCN.out _)))
       refine wpQuiet_nil ?_
       intro _ hw'
       obtain ⟨nq, hw''⟩ := hw'
       subst hw''
       have BB := Lib.hid (HBn.out nq)
       have RN := Lib.hid (show refGo (prevL l (k + 1)) (l.drop (k + 1)) = refGo (32, 1, 0) l by rw [← RG.out, ST.out]; (try dsimp only); rw [ND.out, h0]; simp)
       go_wp2
       go_roundw
       case rel => exact ⟨k + 1, by first | go_num | (congr 1; omega), by omega, BB.out, RN⟩
       case measure => first | (simp [intOf]; done) | (simp [intOf]; omega)
      ·refine Cls.region F H0.out (by kernel_rfl) (by kernel_rfl) ?_
       repeat (go_big_quiet_step ((go_at_call 92; exact MCN.out _)))
       refine wpQuiet_nil ?_
       intro _ hw'
       obtain ⟨nq, hw''⟩ := hw'
       subst hw''
       have BB := Lib.hid (HBn.out nq)
       have RF := Lib.hid (show mayL l = false by rw [MR.out, ← RG.out, ST.out]; (try dsimp only); rw [ND.out, h2]; simp)
       go_wp2
       go_ret
       exact ⟨ret_bool RF.out.symm, BB.out⟩
     ·have E := Lib.hid (show l.drop (k + 1) = [] from List.drop_eq_nil_of_le (by have := LN.out; omega))
      have hx2 : (n : Int) ≤ (k : Int) + 1 := by omega
      refine Cls.region F H0.out (by kernel_rfl) (by kernel_rfl) ?_
      repeat (go_big_quiet_step ((go_at_call 92; exact MCN.out _)))
      refine wpQuiet_nil ?_
      intro _ hw'
      obtain ⟨nq, hw''⟩ := hw'
      subst hw''
      have BB := Lib.hid (HBn.out nq)
      have RF := Lib.hid (show mayL l = false by rw [MR.out, ← RG.out, ST.out]; rw [E.out]; (try dsimp only); rw [h2]; simp [nextBad])
      go_wp2
      go_ret
      exact ⟨ret_bool RF.out.symm, BB.out⟩
  ·have hk' : k = n := by omega
   have E : l.drop k = [] := List.drop_eq_nil_of_le (by have := LN.out; omega)
   have RT := Lib.hid (show mayL l = decide (n ≤ 300) by rw [MR.out, ← RG.out, E, LN.out]; simp [refGo])
   clear hb E hk'
   go_wp2
   go_ret
   exact ⟨ret_bool (by rw [RT.out, Bool.eq_iff_iff]; simp only [decide_eq_true_eq]; omega), HB.out⟩
theorem refRow_walk (A : Option Addr) (n c : Nat) (wrap : Bool) (l : List Cel) (w : World) (hl : ∀ c ∈ l, -2147483648 ≤ c.1 ∧ c.1 ≤ 2147483647) (hq : Sq w w.heap.size 3 n A (flat l)) (hn : n ≤ 1000000) :
  Calls Tryz.prog 39 #[rowV A n c wrap] w fun e w' => e = .returned (.bool (mayL l)) ∧ Below w.heap.size w w' := refRow_any A n c wrap l w hl hq (by omega)
namespace Rw
theorem refMark_good (A : Option Addr) (n c : Nat) (wrap : Bool) (l : List Cel) (k q : Nat) (w : World) (hG : Good l) (hn : n ≤ 1000000) (hq : Sq w w.heap.size 3 n A (flat l)) (hk : k + q ≤ n) :
  Calls Tryz.prog 171 #[rowV A n c wrap, .int .i64 (k : Int), .int .i64 (q : Int)] w fun e w' => OverPost wrap (if 0 < q then ovL l k (blanksL q) else l) w e w' := by
 have hln : l.length = n := by have := hq.len; rw [flat_length] at this; omega
 rcases Nat.eq_zero_or_pos n with h0 | h0
 ·obtain rfl : l = [] := List.eq_nil_of_length_eq_zero (by omega)
  obtain rfl : k = 0 := by omega
  obtain rfl : q = 0 := by omega
  subst h0
  exact refMark_none A c wrap w hq
 ·refine (refMark_walk A n c wrap l k q w h0 hn hq hk).mono ?_
  intro e w' h
  split
  ·rename_i hq0
   rw [← hln, scan_blanks hG hq0 (by omega)] at h
   exact h
  ·rename_i hq0
   obtain rfl : q = 0 := by omega
   have e : putO l k (blanksL 0) = l := putO_none l k
   rw [e, scan_good hG] at h
   exact h
def RPostE (ok wrap : Bool) (l : List Cel) (w : World) (e : Ending) (w' : World) : Prop := ∃ A n c, e = .returned (.tuple #[.agg #[.slice A n c, .bool wrap], .bool ok]) ∧ n ≤ c ∧ Sq w' w'.heap.size 3 n A (flat l) ∧ Below w.heap.size w w' ∧ (ok = true → HasC w' w.heap.size (.slice A n c) l)
theorem refErase_walk (A : Option Addr) (n c : Nat) (wrap : Bool) (l : List Cel) (from' to' : Int) (w : World) (hc : n ≤ c) (hl : ∀ c ∈ l, -2147483648 ≤ c.1 ∧ c.1 ≤ 2147483647) (hq : Sq w w.heap.size 3 n A (flat l)) (hn : n ≤ 1000000) :
  Calls Tryz.prog 172 #[rowV A n c wrap, .int .i64 from', .int .i64 to'] w fun e w' => RPostE (eraseOk l from' to') (eraseWrap wrap l from' to') (eraseRes l from' to') w e w' := by
 have hln : l.length = n := by have := hq.len; rw [flat_length] at this; omega
 have Q := Lib.hid hq
 have HL := Lib.hid hl
 have LN := Lib.hid hln
 clear hq hl hln
 go_enter Tryz.func172, Tryz.ntmps172
 go_upto_region 1 with fail
 have ba := ((Below.refl w.heap.size w).alloc (Nat.le_refl _) (.cells #[.slice A n c, .bool wrap] 58)).alloc (by simp) (.cells #[.slice none 0 0, .bool false] 58)
 have r0 : RowAt ((w.alloc (.cells #[.slice A n c, .bool wrap] 58)).alloc (.cells #[.slice none 0 0, .bool false] 58)) w.heap.size (.slice A n c) wrap := (Below.heap_alloc _ _ _ (by simp)).trans (heap_alloc_new w _)
 have z0 : RowAt ((w.alloc (.cells #[.slice A n c, .bool wrap] 58)).alloc (.cells #[.slice none 0 0, .bool false] 58)) (w.heap.size + 1) (.slice none 0 0) false := by
  have h := heap_alloc_new (w.alloc (.cells #[.slice A n c, .bool wrap] 58)) (.cells #[.slice none 0 0, .bool false] 58)
  rw [World.size_alloc] at h
  exact h
 generalize (w.alloc (.cells #[.slice A n c, .bool wrap] 58)).alloc (.cells #[.slice none 0 0, .bool false] 58) = wa at ba r0 z0 ⊢
 obtain ⟨g0, hg0⟩ : ∃ g0, w.heap.size = g0 := ⟨_, rfl⟩
 obtain ⟨g1, hg1⟩ : ∃ g1, g0 + 1 = g1 := ⟨_, rfl⟩
 rw [hg0, hg1] at z0
 rw [hg0] at r0
 have HG1 := Lib.hid (show w.heap.size ≤ g1 by omega)
 have R0 := Lib.hid r0
 have Z0 := Lib.hid z0
 have BA := Lib.hid ba
 rw [hg0, hg1]
 clear hg0 hg1 ba r0 z0
 go_cut [27] from 9 (fun s27 wx => s27 = .bool (!eraseOk l from' to') ∧ Hid (Below wa.heap.size wa wx))
 case first =>
  have r0 := R0.out.get 0
  have r1 := R0.out.get 1
  go_wp2_with fail
  refine (refRow_walk A n c wrap l wa HL.out ((Q.out.below BA.out).up BA.out.size) hn).mono ?_
  rintro e w2 ⟨rfl, b2⟩
  have R2 := Lib.hid (show RowAt w2 g0 (.slice A n c) wrap from (b2.block g0 R0.out.lt).trans R0.out)
  have B2 := Lib.hid b2
  clear b2 r0 r1
  have r0 := R2.out.get 0
  obtain ⟨mb, hmb⟩ : ∃ mb, mayL l = mb := ⟨_, rfl⟩
  have MB := Lib.hid hmb
  rw [hmb]
  clear hmb
  cases mb with
  | false =>
   have E := Lib.hid (show eraseOk l from' to' = false by unfold eraseOk; rw [MB.out]; rfl)
   go_wp2_with fail
   go_meet
   exact ⟨by rw [E.out]; rfl, B2⟩
  | true =>
   by_cases ha0 : from' < 0
   ·have E := Lib.hid (show eraseOk l from' to' = false by unfold eraseOk; rw [decide_eq_false (show ¬ 0 ≤ from' by omega)]; simp)
    go_wp2_with fail
    go_meet
    exact ⟨by rw [E.out]; rfl, B2⟩
   by_cases hab : to' < from'
   ·have E := Lib.hid (show eraseOk l from' to' = false by unfold eraseOk; rw [decide_eq_false (show ¬ from' ≤ to' by omega)]; simp)
    go_wp2_with fail
    go_meet
    exact ⟨by rw [E.out]; rfl, B2⟩
   by_cases hbn : (n : Int) < to'
   ·have E := Lib.hid (show eraseOk l from' to' = false by unfold eraseOk; rw [LN.out, decide_eq_false (show ¬ to' ≤ (n : Int) by omega)]; simp)
    go_wp2_with fail
    go_meet
    exact ⟨by rw [E.out]; rfl, B2⟩
   ·have E := Lib.hid (show eraseOk l from' to' = true by
     unfold eraseOk
     rw [MB.out, LN.out, decide_eq_true (show 0 ≤ from' by omega), decide_eq_true (show from' ≤ to' by omega), decide_eq_true (show to' ≤ (n : Int) by omega)]
     rfl)
    go_wp2_with fail
    go_meet
    exact ⟨by rw [E.out]; show Value.bool _ = Value.bool false; congr 1; simp; omega, B2⟩
 case rest =>
  obtain ⟨rfl, B2⟩ := hcut
  have R2 := Lib.hid (show RowAt wc g0 (.slice A n c) wrap from (B2.out.block g0 R0.out.lt).trans R0.out)
  have Z2 := Lib.hid (show RowAt wc g1 (.slice none 0 0) false from (B2.out.block g1 Z0.out.lt).trans Z0.out)
  have BW := Lib.hid (BA.out.trans (B2.out.mono BA.out.size))
  have r0 := R2.out.get 0
  have r1 := R2.out.get 1
  obtain ⟨ok, hok⟩ : ∃ ok, eraseOk l from' to' = ok := ⟨_, rfl⟩
  have OK := Lib.hid hok
  rw [hok]
  clear hok R0 Z0
  cases ok with
  | false =>
   have e1 : eraseRes l from' to' = l := by unfold eraseRes; rw [OK.out]; rfl
   have e2 : eraseWrap wrap l from' to' = wrap := by unfold eraseWrap; rw [OK.out]; rfl
   have PE := Lib.hid (fun e w' => (show RPostE false wrap l w e w' → RPostE (eraseOk l from' to') (eraseWrap wrap l from' to') (eraseRes l from' to') w e w' by rw [OK.out, e1, e2]; exact id))
   clear e1 e2
   have z0 : wc.cell? ⟨g1, 0, none⟩ = some (.slice none 0 0) := Z2.out.get 0
   have z1 : wc.cell? ⟨g1, 1, none⟩ = some (.bool false) := Z2.out.get 1
   have zf0 := Z2.out.free 0
   have zf1 := Z2.out.free 1
   have RF := Lib.hid (RowAt.put2 Z2.out (.slice A n c) wrap)
   have OF := (OnlyRow.cell g1 0 wc (.slice A n c)).trans (OnlyRow.cell g1 1 _ (.bool wrap))
   have BF := Lib.hid (BW.out.trans ((Turned.ofOnly OF).toBelow BW.out.size (fun k hk e => by have := HG1.out; omega)))
   clear OF
   go_wp2
   generalize (wc.setCell ⟨g1, 0, none⟩ (.slice A n c)).setCell ⟨g1, 1, none⟩ (.bool wrap) = wz at RF BF ⊢
   have e0 : wz.cell? ⟨g1, 0, none⟩ = some (.slice A n c) := RF.out.get 0
   have e1 : wz.cell? ⟨g1, 1, none⟩ = some (.bool wrap) := RF.out.get 1
   refine bodyPost_ret (v := .tuple #[.agg #[.slice A n c, .bool wrap], .bool false]) (by simp [results, Tryz.results172, go_sem, e0, e1]) rfl (PE.out _ _ ?_)
   exact ⟨_, _, _, rfl, hc, (Q.out.below BF.out).up BF.out.size, BF.out, fun e => by cases e⟩
  | true =>
   have hb : mayL l = true ∧ 0 ≤ from' ∧ from' ≤ to' ∧ to' ≤ (n : Int) := by
    have h := OK.out
    unfold eraseOk at h
    rw [LN.out] at h
    simpa [and_assoc] using h
   obtain ⟨hm, ha, hab, hbn⟩ := hb
   have G := Lib.hid ((mayL_iff l).1 hm).2
   obtain ⟨k, rfl⟩ := Int.eq_ofNat_of_zero_le ha
   obtain ⟨q, rfl⟩ := Int.eq_ofNat_of_zero_le (show 0 ≤ to' by omega)
   obtain ⟨m, hm'⟩ : ∃ m, q = k + m := ⟨q - k, by omega⟩
   subst hm'
   have hkm : k + m ≤ n := by omega
   have hsub : IntKind.i64.wrap (((k + m : Nat) : Int) - (k : Int)) = (m : Int) := by rw [IntWalk.i64_in _ (by omega)]; omega
   have HRES := Lib.hid (show eraseRes l (k : Int) ((k + m : Nat) : Int) = if 0 < m then ovL l k (blanksL m) else l by
    unfold eraseRes
    rw [OK.out, Int.toNat_natCast, show (((k + m : Nat) : Int) - (k : Int)).toNat = m by omega]
    by_cases h : 0 < m
    ·rw [if_pos h, decide_eq_true (show (k : Int) < ((k + m : Nat) : Int) by omega)]; rfl
    ·rw [if_neg h, decide_eq_false (show ¬ (k : Int) < ((k + m : Nat) : Int) by omega)]; rfl)
   have HWR := Lib.hid (show eraseWrap wrap l (k : Int) ((k + m : Nat) : Int) = if k + m = n ∧ 0 < m then false else wrap by
    unfold eraseWrap
    rw [OK.out, LN.out]
    have d1 : decide ((k : Int) < ((k + m : Nat) : Int)) = decide (0 < m) := decide_eq_decide.2 (by omega)
    have d2 : decide (((k + m : Nat) : Int) = (n : Int)) = decide (k + m = n) := decide_eq_decide.2 (by omega)
    rw [d1, d2]
    by_cases h : 0 < m <;> by_cases he : k + m = n <;> simp [h, he])
   have MK := Lib.hid (refMark_good A n c wrap l k m wc G.out hn ((Q.out.below BW.out).up BW.out.size) hkm)
   clear hm ha hab hbn G
   obtain ⟨to2, hto2⟩ : ∃ z : Int, ((k + m : Nat) : Int) = z := ⟨_, rfl⟩
   rw [hto2] at hsub HRES HWR OK ⊢
   go_wp2_with fail
   refine MK.out.mono ?_
   rintro e w3 ⟨A3, n3, c3, rfl, h3, b3⟩
   have R3 := Lib.hid (show RowAt w3 g0 (.slice A n c) wrap from (b3.block g0 R2.out.lt).trans R2.out)
   have Z3 := Lib.hid (show RowAt w3 g1 (.slice none 0 0) false from (b3.block g1 Z2.out.lt).trans Z2.out)
   have bal := (Below.refl w3.heap.size w3).alloc (Nat.le_refl _) (.cells #[.slice A3 n3 c3, .bool wrap] 58)
   have B3 := BW.out.trans (b3.mono BW.out.size)
   have R8 := Lib.hid (show RowAt (w3.alloc (.cells #[.slice A3 n3 c3, .bool wrap] 58)) w3.heap.size (.slice A3 n3 c3) wrap from heap_alloc_new w3 _)
   have R4 := Lib.hid (show RowAt (w3.alloc (.cells #[.slice A3 n3 c3, .bool wrap] 58)) g0 (.slice A n c) wrap from (bal.block g0 R3.out.lt).trans R3.out)
   have Z4 := Lib.hid (show RowAt (w3.alloc (.cells #[.slice A3 n3 c3, .bool wrap] 58)) g1 (.slice none 0 0) false from (bal.block g1 Z3.out.lt).trans Z3.out)
   have H4 := Lib.hid (HasC.keep (w' := w3.alloc (.cells #[.slice A3 n3 c3, .bool wrap] 58)) h3 (fun j e => bal.block j (HasC.lt h3 j e).2))
   have B4 := Lib.hid (B3.trans (bal.mono B3.size))
   have hc3 : n3 ≤ c3 := by obtain ⟨_, _, e, h⟩ := HasC.shape h3; injection e with _ e1 e2; omega
   have NB := Lib.hid (fun j (e : (Value.slice A3 n3 c3).ownBlock = some j) => HasC.lt h3 j e)
   have FIN := Lib.hid (fun (W : World) (h : HasC W wc.heap.size (.slice A3 n3 c3) (if 0 < m then ovL l k (blanksL m) else l)) => (show Sq W W.heap.size 3 n3 A3 (flat (if 0 < m then ovL l k (blanksL m) else l)) by
    obtain ⟨_, _, e, _⟩ := HasC.shape h
    injection e with _ e1 _
    subst e1
    exact HasC.sq h))
   obtain ⟨g8, hg8⟩ : ∃ g, w3.heap.size = g := ⟨_, rfl⟩
   have hg81 : g8 ≠ g1 := by have := Z3.out.lt; omega
   have hg80 : g8 ≠ g0 := by have := R3.out.lt; omega
   have HG8 := Lib.hid (show w.heap.size ≤ g8 by rw [← hg8]; exact B3.size)
   have NG8 := Lib.hid (show ∀ j, (Value.slice A3 n3 c3).ownBlock = some j → j ≠ g8 from fun j e e2 => by have := (HasC.lt h3 j e).2; omega)
   rw [hg8] at R8
   have HG8' := Lib.hid hg8
   clear R3 Z3 bal h3 b3 B3 r0 r1 MK R2 hg8
   go_upto_region 4 with fail
   rw [HG8'.out]
   generalize w3.alloc (.cells #[.slice A3 n3 c3, .bool wrap] 58) = w4 at R8 R4 Z4 H4 B4 ⊢
   have r0 : w4.cell? ⟨g0, 0, none⟩ = some (.slice A n c) := R4.out.get 0
   by_cases he : k + m = n
   ·have h1 : (to2 == (n : Int)) = true := by simp; omega
    by_cases h0 : 0 < m
    ·have h2 : (k : Int) < to2 := by omega
     have f1 := R8.out.free 1
     have k81 : w4.cell? ⟨g8, 1, none⟩ = some (.bool wrap) := R8.out.get 1
     have O8 := OnlyRow.cell g8 1 w4 (.bool false)
     have R8' := Lib.hid (show RowAt (w4.setCell ⟨g8, 1, none⟩ (.bool false)) g8 (.slice A3 n3 c3) false from heap_setCell_same w4 g8 1 _ _ (.bool false) R8.out)
     have Z4' := Lib.hid (show RowAt (w4.setCell ⟨g8, 1, none⟩ (.bool false)) g1 (.slice none 0 0) false from (O8.block g1 (Ne.symm hg81)).trans Z4.out)
     have H4' := Lib.hid (HasC.keep H4.out (fun j e => O8.block j (NG8.out j e)))
     have B4' := Lib.hid (B4.out.trans ((Turned.ofOnly O8).toBelow B4.out.size (fun k hk e => by have := HG8.out; omega)))
     clear O8
     go_upto_region 6 with fail
     clear R8 Z4 H4 B4 k81 r0 f1 R4
     generalize w4.setCell ⟨g8, 1, none⟩ (.bool false) = w6 at R8' Z4' H4' B4' ⊢
     have R8 := R8'
     have Z4 := Z4'
     have H4 := H4'
     have B4 := B4'
     clear R8' Z4' H4' B4'
     have k80 : w6.cell? ⟨g8, 0, none⟩ = some (.slice A3 n3 c3) := R8.out.get 0
     have k81 : w6.cell? ⟨g8, 1, none⟩ = some (.bool false) := R8.out.get 1
     have z0 : w6.cell? ⟨g1, 0, none⟩ = some (.slice none 0 0) := Z4.out.get 0
     have z1 : w6.cell? ⟨g1, 1, none⟩ = some (.bool false) := Z4.out.get 1
     have zf0 := Z4.out.free 0
     have zf1 := Z4.out.free 1
     have RF := Lib.hid (RowAt.put2 Z4.out (.slice A3 n3 c3) false)
     have OF := (OnlyRow.cell g1 0 w6 (.slice A3 n3 c3)).trans (OnlyRow.cell g1 1 _ (.bool false))
     have HF := Lib.hid (HasC.keep H4.out (fun j e => OF.block j (by have h1 := (NB.out j e).1; have h2 := Z2.out.lt; omega)))
     have BF := Lib.hid (B4.out.trans ((Turned.ofOnly OF).toBelow B4.out.size (fun k hk e => by have := HG1.out; omega)))
     clear OF
     go_wp2
     generalize (w6.setCell ⟨g1, 0, none⟩ (.slice A3 n3 c3)).setCell ⟨g1, 1, none⟩ (.bool false) = wz at RF HF BF ⊢
     have e0 : wz.cell? ⟨g1, 0, none⟩ = some (.slice A3 n3 c3) := RF.out.get 0
     have e1 : wz.cell? ⟨g1, 1, none⟩ = some (.bool false) := RF.out.get 1
     refine bodyPost_ret (v := .tuple #[.agg #[.slice A3 n3 c3, .bool false], .bool true]) (by simp [results, Tryz.results172, go_sem, e0, e1]) rfl ?_
     first | rw [hto2] | rw [show ((n : Nat) : Int) = to2 by omega]
     rw [OK.out, HRES.out, HWR.out, if_pos ⟨he, h0⟩]
     exact ⟨_, _, _, rfl, hc3, (FIN.out wz HF.out), BF.out, fun _ => HasC.mono HF.out BW.out.size⟩
    ·have h2 : ¬ (k : Int) < to2 := by omega
     have k80 : w4.cell? ⟨g8, 0, none⟩ = some (.slice A3 n3 c3) := R8.out.get 0
     have k81 : w4.cell? ⟨g8, 1, none⟩ = some (.bool wrap) := R8.out.get 1
     have z0 : w4.cell? ⟨g1, 0, none⟩ = some (.slice none 0 0) := Z4.out.get 0
     have z1 : w4.cell? ⟨g1, 1, none⟩ = some (.bool false) := Z4.out.get 1
     have zf0 := Z4.out.free 0
     have zf1 := Z4.out.free 1
     have RF := Lib.hid (RowAt.put2 Z4.out (.slice A3 n3 c3) wrap)
     have OF := (OnlyRow.cell g1 0 w4 (.slice A3 n3 c3)).trans (OnlyRow.cell g1 1 _ (.bool wrap))
     have HF := Lib.hid (HasC.keep H4.out (fun j e => OF.block j (by have h1 := (NB.out j e).1; have h2 := Z2.out.lt; omega)))
     have BF := Lib.hid (B4.out.trans ((Turned.ofOnly OF).toBelow B4.out.size (fun k hk e => by have := HG1.out; omega)))
     clear OF
     go_wp2
     generalize (w4.setCell ⟨g1, 0, none⟩ (.slice A3 n3 c3)).setCell ⟨g1, 1, none⟩ (.bool wrap) = wz at RF HF BF ⊢
     have e0 : wz.cell? ⟨g1, 0, none⟩ = some (.slice A3 n3 c3) := RF.out.get 0
     have e1 : wz.cell? ⟨g1, 1, none⟩ = some (.bool wrap) := RF.out.get 1
     refine bodyPost_ret (v := .tuple #[.agg #[.slice A3 n3 c3, .bool wrap], .bool true]) (by simp [results, Tryz.results172, go_sem, e0, e1]) rfl ?_
     first | rw [hto2] | rw [show ((n : Nat) : Int) = to2 by omega]
     rw [OK.out, HRES.out, HWR.out, if_neg (fun x => h0 x.2)]
     exact ⟨_, _, _, rfl, hc3, (FIN.out wz HF.out), BF.out, fun _ => HasC.mono HF.out BW.out.size⟩
   ·have h1 : (to2 == (n : Int)) = false := by simp; omega
    have k80 : w4.cell? ⟨g8, 0, none⟩ = some (.slice A3 n3 c3) := R8.out.get 0
    have k81 : w4.cell? ⟨g8, 1, none⟩ = some (.bool wrap) := R8.out.get 1
    have z0 : w4.cell? ⟨g1, 0, none⟩ = some (.slice none 0 0) := Z4.out.get 0
    have z1 : w4.cell? ⟨g1, 1, none⟩ = some (.bool false) := Z4.out.get 1
    have zf0 := Z4.out.free 0
    have zf1 := Z4.out.free 1
    have RF := Lib.hid (RowAt.put2 Z4.out (.slice A3 n3 c3) wrap)
    have OF := (OnlyRow.cell g1 0 w4 (.slice A3 n3 c3)).trans (OnlyRow.cell g1 1 _ (.bool wrap))
    have HF := Lib.hid (HasC.keep H4.out (fun j e => OF.block j (by have h1 := (NB.out j e).1; have h2 := Z2.out.lt; omega)))
    have BF := Lib.hid (B4.out.trans ((Turned.ofOnly OF).toBelow B4.out.size (fun k hk e => by have := HG1.out; omega)))
    clear OF
    go_wp2
    generalize (w4.setCell ⟨g1, 0, none⟩ (.slice A3 n3 c3)).setCell ⟨g1, 1, none⟩ (.bool wrap) = wz at RF HF BF ⊢
    have e0 : wz.cell? ⟨g1, 0, none⟩ = some (.slice A3 n3 c3) := RF.out.get 0
    have e1 : wz.cell? ⟨g1, 1, none⟩ = some (.bool wrap) := RF.out.get 1
    refine bodyPost_ret (v := .tuple #[.agg #[.slice A3 n3 c3, .bool wrap], .bool true]) (by simp [results, Tryz.results172, go_sem, e0, e1]) rfl ?_
    first | rw [hto2] | rw [show ((n : Nat) : Int) = to2 by omega]
    rw [OK.out, HRES.out, HWR.out, if_neg (fun x => he x.1)]
    exact ⟨_, _, _, rfl, hc3, (FIN.out wz HF.out), BF.out, fun _ => HasC.mono HF.out BW.out.size⟩
end Rw
namespace Rw
def okOne : List Cel → Bool
 | [c] => (c.1 == 0 && c.2.1 == 1 && c.2.2 == 0) || (c.2.1 == 1 && mayB c)
 | _ => false
def okTwo : List Cel → Bool
 | [c, d] => c.2.1 == 2 && mayB c && (d.1 == 0 && d.2.1 == 0 && d.2.2 == c.2.2)
 | _ => false
theorem ofL_len (r a : Int) : (ofL r a).length ≤ 2 := by
 unfold ofL
 repeat' split
 all_goals simp
theorem one_two (L : List Cel) : isOneB L = (okOne L || okTwo L) := by
 cases L with
 | nil => rfl
 | cons c L =>
  obtain ⟨r, w, a⟩ := c
  cases L with
  | nil =>
   show ((decide (([] : List Cel) = []) && isB 0 r w a) || eqL [(r, w, a)] (ofL r a)) = (((r == 0 && w == 1 && a == 0) || (w == 1 && mayB (r, w, a))) || false)
   rw [decide_eq_true rfl, Bool.true_and, Bool.or_false]
   show ((r == 0 && w == 1 && a == 0) || eqL [(r, w, a)] (ofL r a)) = _
   cases hp : (r == 0 && w == 1 && a == 0) with
   | true => simp
   | false =>
    simp only [Bool.false_or]
    rw [Bool.eq_iff_iff]
    unfold eqL ofL mayA mayB
    simp only [decide_eq_true_eq, Bool.and_eq_true, Bool.or_eq_true, beq_iff_eq, Prod.mk.injEq]
    constructor
    ·intro h
     split at h
     ·rename_i ha
      split at h
      ·rename_i hw
       simp only [List.cons.injEq, Prod.mk.injEq, and_true, true_and] at h
       refine ⟨h, ha, .inr ⟨by omega, by rw [hw]; exact h⟩⟩
      ·split at h
       ·simp at h
       ·cases h
     ·cases h
    ·rintro ⟨hw, ha, h | h⟩
     ·rcases h with ⟨h1, h2, h3⟩ | h
      ·exfalso
       rw [h1, h2, h3] at hp
       simp at hp
      ·omega
     ·rw [if_pos ha, if_pos (by omega), hw]
  | cons d L =>
   cases L with
   | nil =>
    obtain ⟨r', w', a'⟩ := d
    show ((decide (([(r', w', a')] : List Cel) = []) && isB 0 r w a) || eqL [(r, w, a), (r', w', a')] (ofL r a)) = (false || (w == 2 && mayB (r, w, a) && (r' == 0 && w' == 0 && a' == a)))
    rw [decide_eq_false (by simp), Bool.false_and, Bool.false_or, Bool.false_or]
    rw [Bool.eq_iff_iff]
    unfold eqL ofL mayA mayB
    simp only [decide_eq_true_eq, Bool.and_eq_true, Bool.or_eq_true, beq_iff_eq, Prod.mk.injEq]
    constructor
    ·intro h
     split at h
     ·rename_i ha
      split at h
      ·simp at h
      ·split at h
       ·rename_i hw
        simp only [List.cons.injEq, Prod.mk.injEq, and_true, true_and] at h
        obtain ⟨h1, h2, h3, h4⟩ := h
        refine ⟨⟨h1, ha, .inr ⟨by omega, by rw [hw]; exact h1⟩⟩, ⟨h2, h3⟩, h4⟩
       ·cases h
     ·cases h
    ·rintro ⟨⟨hw, ha, h⟩, ⟨h2, h3⟩, h4⟩
     have hw2 : wof r = 2 := by
      rcases h with (⟨_, e, _⟩ | ⟨e, _⟩) | ⟨_, e⟩
      ·omega
      ·omega
      ·omega
     rw [if_pos ha, if_neg (by omega), if_pos hw2, hw, h2, h3, h4]
   | cons e L =>
    show ((decide ((d :: e :: L : List Cel) = []) && isB 0 r w a) || eqL ((r, w, a) :: d :: e :: L) (ofL r a)) = (false || false)
    rw [decide_eq_false (by simp), Bool.false_and, Bool.false_or]
    unfold eqL
    rw [decide_eq_false]
    ·rfl
    ·intro h
     have h1 := congrArg List.length h
     have h2 := ofL_len r a
     simp at h1
     omega
theorem refSet_walk (A : Option Addr) (n c : Nat) (wrap : Bool) (l : List Cel) (col : Int) (A2 : Option Addr) (m c2 : Nat) (L : List Cel) (w : World) (hc : n ≤ c) (hl : ∀ c ∈ l, -2147483648 ≤ c.1 ∧ c.1 ≤ 2147483647) (hL : ∀ c ∈ L, -2147483648 ≤ c.1 ∧ c.1 ≤ 2147483647) (hq : Sq w w.heap.size 3 n A (flat l)) (hn : n ≤ 1000000) (hm : m ≤ 1000000) (hq2 : Sq w w.heap.size 3 m A2 (flat L)) :
  Calls Tryz.prog 124 #[rowV A n c wrap, .int .i64 col, .slice A2 m c2] w fun e w' => RPostE (setOk l col L) wrap (setRes l col L) w e w' := by
 have hln : l.length = n := by have := hq.len; rw [flat_length] at this; omega
 have hLm : L.length = m := by have := hq2.len; rw [flat_length] at this; omega
 have Q := Lib.hid hq
 have Q2 := Lib.hid hq2
 have HL := Lib.hid hl
 have HL2 := Lib.hid hL
 have LN := Lib.hid hln
 have LM := Lib.hid hLm
 clear hq hq2 hl hL hln hLm
 go_enter Tryz.func124, Tryz.ntmps124
 go_upto_region 1 with fail
 have ba := ((Below.refl w.heap.size w).alloc (Nat.le_refl _) (.cells #[.slice A n c, .bool wrap] 58)).alloc (by simp) (.cells #[.slice none 0 0, .bool false] 58)
 have r0 : RowAt ((w.alloc (.cells #[.slice A n c, .bool wrap] 58)).alloc (.cells #[.slice none 0 0, .bool false] 58)) w.heap.size (.slice A n c) wrap := (Below.heap_alloc _ _ _ (by simp)).trans (heap_alloc_new w _)
 have z0 : RowAt ((w.alloc (.cells #[.slice A n c, .bool wrap] 58)).alloc (.cells #[.slice none 0 0, .bool false] 58)) (w.heap.size + 1) (.slice none 0 0) false := by
  have h := heap_alloc_new (w.alloc (.cells #[.slice A n c, .bool wrap] 58)) (.cells #[.slice none 0 0, .bool false] 58)
  rw [World.size_alloc] at h
  exact h
 generalize (w.alloc (.cells #[.slice A n c, .bool wrap] 58)).alloc (.cells #[.slice none 0 0, .bool false] 58) = wa at ba r0 z0 ⊢
 obtain ⟨g0, hg0⟩ : ∃ g0, w.heap.size = g0 := ⟨_, rfl⟩
 obtain ⟨g1, hg1⟩ : ∃ g1, g0 + 1 = g1 := ⟨_, rfl⟩
 rw [hg0, hg1] at z0
 rw [hg0] at r0
 have HG1 := Lib.hid (show w.heap.size ≤ g1 by omega)
 have R0 := Lib.hid r0
 have Z0 := Lib.hid z0
 have BA := Lib.hid ba
 rw [hg0, hg1]
 clear hg0 hg1 ba r0 z0
 have S2 := Lib.hid (show ∀ W, Below wa.heap.size wa W → Sq W W.heap.size 3 m A2 (flat L) from fun W b => (((Q2.out.below BA.out).up BA.out.size).below b).up b.size)
 go_cut [8] from 10 to 32 (fun s8 wx => s8 = .bool (okOne L) ∧ Hid (Below wa.heap.size wa wx))
 case first =>
  have BW := Lib.hid (Below.refl wa.heap.size wa)
  obtain ⟨I, hI, F, h0, hB, hN⟩ := Cls.below wa
  have PD : ∀ n, Calls Tryz.prog 43 #[] (F n) fun e w' => e = .returned (cellV 0 1 0) ∧ ∃ m, w' = F m := fun n => (refPad_walk (F n)).mono fun e w' ⟨he, hb⟩ => ⟨he, hN n w' hb⟩
  have SF := Lib.hid (fun n => S2.out (F n) (hB n))
  by_cases hm1 : m = 1
  ·subst hm1
   obtain ⟨⟨x, y, z⟩, rfl⟩ : ∃ c, L = [c] := List.length_eq_one_iff.1 LM.out
   have hx := HL2.out (x, y, z) (by simp)
   have CB := Lib.hid (fun w => refCell_walk x y z hx.1 hx.2 w)
   obtain ⟨mb, hmb⟩ : ∃ mb, mayB (x, y, z) = mb := ⟨_, rfl⟩
   rw [hmb] at CB
   have OL : okOne [(x, y, z)] = ((x == 0 && y == 1 && z == 0) || (y == 1 && mb)) := by rw [← hmb]; rfl
   have O := Lib.hid OL
   obtain ⟨b, off, rfl, hb, _⟩ := (S2.out wa (Below.refl _ _)).spot (by omega)
   have e0 : ∀ n, (F n).cell? ⟨b, off, none⟩ = some (.int .i32 x) := fun n => by have := (Sq.cellsAt (SF.out n) (k := 0) (c := (x, y, z)) rfl).1; simpa using this
   have e1 : ∀ n, (F n).cell? ⟨b, off + 1, none⟩ = some (.int .i64 y) := fun n => by have := (Sq.cellsAt (SF.out n) (k := 0) (c := (x, y, z)) rfl).2.1; simpa using this
   have e2 : ∀ n, (F n).cell? ⟨b, off + 2, none⟩ = some (.int .i64 z) := fun n => by have := (Sq.cellsAt (SF.out n) (k := 0) (c := (x, y, z)) rfl).2.2; simpa using this
   have hE := fun w => eql_cell x y z 0 1 0 w
   have CE : ∀ n, Calls Tryz.prog 92 #[cellV x y z] (F n) fun e w' => e = .returned (.bool mb) ∧ ∃ m, w' = F m := fun n => (CB.out (F n)).mono fun e w' ⟨he, hb⟩ => ⟨he, hN n w' hb⟩
   obtain ⟨pd, hpd⟩ : ∃ pd, (x == 0 && y == 1 && z == 0) = pd := ⟨_, rfl⟩
   rw [hpd] at hE O
   clear OL hmb hpd
   cases pd
   ·by_cases hy : y = 1
    ·subst hy
     refine Cls.region F h0 (by kernel_rfl) (by kernel_rfl) ?_
     repeat (go_big_quiet_step ((first | (go_at_call 43; exact PD _) | (go_at_call 92; exact CE _))))
     refine wpQuiet_nil ?_
     intro _ hw'
     obtain ⟨nq, hw''⟩ := hw'
     subst hw''
     go_wp2
     go_meet
     exact ⟨by rw [O.out]; simp, Lib.hid (BW.out.trans ((hB nq).mono BW.out.size))⟩
    ·have hyb : (y == 1) = false := by simpa using hy
     refine Cls.region F h0 (by kernel_rfl) (by kernel_rfl) ?_
     repeat (go_big_quiet_step ((first | (go_at_call 43; exact PD _) | (go_at_call 92; exact CE _))))
     refine wpQuiet_nil ?_
     intro _ hw'
     obtain ⟨nq, hw''⟩ := hw'
     subst hw''
     go_wp2
     go_meet
     exact ⟨by rw [O.out, hyb]; rfl, Lib.hid (BW.out.trans ((hB nq).mono BW.out.size))⟩
   ·refine Cls.region F h0 (by kernel_rfl) (by kernel_rfl) ?_
    repeat (go_big_quiet_step ((first | (go_at_call 43; exact PD _) | (go_at_call 92; exact CE _))))
    refine wpQuiet_nil ?_
    intro _ hw'
    obtain ⟨nq, hw''⟩ := hw'
    subst hw''
    go_wp2
    go_meet
    exact ⟨by rw [O.out]; rfl, Lib.hid (BW.out.trans ((hB nq).mono BW.out.size))⟩
  ·have hm1' : ((m : Int) == 1) = false := by simp; omega
   have O := Lib.hid (show okOne L = false from by
    have h := LM.out
    match L, h with
    | [], _ => rfl
    | [c], h => exact absurd h.symm hm1
    | _ :: _ :: _, _ => rfl)
   have CE : True := trivial
   refine Cls.region F h0 (by kernel_rfl) (by kernel_rfl) ?_
   repeat (go_big_quiet_step ((first | (go_at_call 43; exact PD _) | (go_at_call 92; exact CE _))))
   refine wpQuiet_nil ?_
   intro _ hw'
   obtain ⟨nq, hw''⟩ := hw'
   subst hw''
   go_wp2
   go_meet
   exact ⟨by rw [O.out], Lib.hid (BW.out.trans ((hB nq).mono BW.out.size))⟩
 case rest =>
  obtain ⟨rfl, B8⟩ := hcut
  have S3 := Lib.hid (show ∀ W, Below wc.heap.size wc W → Sq W W.heap.size 3 m A2 (flat L) from fun W b => S2.out W (B8.out.trans (b.mono B8.out.size)))
  go_upto_region 2 with fail
  go_cut [9] from 33 to 59 (fun s9 wx => s9 = .bool (okTwo L) ∧ Hid (Below wa.heap.size wa wx))
  case first =>
   obtain ⟨I, hI, F, h0, hB, hN⟩ := Cls.below wc
   have SF := Lib.hid (fun n => S3.out (F n) (hB n))
   by_cases hm1 : m = 2
   ·subst hm1
    obtain ⟨⟨x, y, z⟩, ⟨x', y', z'⟩, rfl⟩ : ∃ c d, L = [c, d] := by
     have h := LM.out
     match L, h with
     | [c, d], _ => exact ⟨c, d, rfl⟩
    have hx := HL2.out (x, y, z) (by simp)
    have CB := Lib.hid (fun w => refCell_walk x y z hx.1 hx.2 w)
    obtain ⟨mb, hmb⟩ : ∃ mb, mayB (x, y, z) = mb := ⟨_, rfl⟩
    rw [hmb] at CB
    have hE := fun w => eql_cell x' y' z' 0 0 z w
    obtain ⟨pd, hpd⟩ : ∃ pd, (x' == 0 && y' == 0 && z' == z) = pd := ⟨_, rfl⟩
    rw [hpd] at hE
    have O := Lib.hid (show okTwo [(x, y, z), (x', y', z')] = (y == 2 && mb && pd) by rw [← hmb, ← hpd]; rfl)
    obtain ⟨b, off, rfl, hb, _⟩ := (S3.out wc (Below.refl _ _)).spot (by omega)
    have e0 : ∀ n, (F n).cell? ⟨b, off, none⟩ = some (.int .i32 x) := fun n => by have := (Sq.cellsAt (SF.out n) (k := 0) (c := (x, y, z)) rfl).1; simpa using this
    have e1 : ∀ n, (F n).cell? ⟨b, off + 1, none⟩ = some (.int .i64 y) := fun n => by have := (Sq.cellsAt (SF.out n) (k := 0) (c := (x, y, z)) rfl).2.1; simpa using this
    have e2 : ∀ n, (F n).cell? ⟨b, off + 2, none⟩ = some (.int .i64 z) := fun n => by have := (Sq.cellsAt (SF.out n) (k := 0) (c := (x, y, z)) rfl).2.2; simpa using this
    have f0 : ∀ n, (F n).cell? ⟨b, off + 3, none⟩ = some (.int .i32 x') := fun n => by have := (Sq.cellsAt (SF.out n) (k := 1) (c := (x', y', z')) rfl).1; simpa using this
    have f1 : ∀ n, (F n).cell? ⟨b, off + 3 + 1, none⟩ = some (.int .i64 y') := fun n => by have := (Sq.cellsAt (SF.out n) (k := 1) (c := (x', y', z')) rfl).2.1; simpa using this
    have f2 : ∀ n, (F n).cell? ⟨b, off + 3 + 2, none⟩ = some (.int .i64 z') := fun n => by have := (Sq.cellsAt (SF.out n) (k := 1) (c := (x', y', z')) rfl).2.2; simpa using this
    have CE : ∀ n, Calls Tryz.prog 92 #[cellV x y z] (F n) fun e w' => e = .returned (.bool mb) ∧ ∃ m, w' = F m := fun n => (CB.out (F n)).mono fun e w' ⟨he, hb⟩ => ⟨he, hN n w' hb⟩
    clear hmb hpd
    by_cases hy : y = 2
    ·subst hy
     cases mb
     ·refine Cls.region F h0 (by kernel_rfl) (by kernel_rfl) ?_
      repeat (go_big_quiet_step ((go_at_call 92; exact CE _)))
      refine wpQuiet_nil ?_
      intro _ hw'
      obtain ⟨nq, hw''⟩ := hw'
      subst hw''
      go_wp2
      go_meet
      exact ⟨by rw [O.out]; rfl, Lib.hid (B8.out.trans ((hB nq).mono B8.out.size))⟩
     ·refine Cls.region F h0 (by kernel_rfl) (by kernel_rfl) ?_
      repeat (go_big_quiet_step ((go_at_call 92; exact CE _)))
      refine wpQuiet_nil ?_
      intro _ hw'
      obtain ⟨nq, hw''⟩ := hw'
      subst hw''
      go_wp2
      go_meet
      exact ⟨by rw [O.out]; simp, Lib.hid (B8.out.trans ((hB nq).mono B8.out.size))⟩
    ·have hyb : (y == 2) = false := by simpa using hy
     refine Cls.region F h0 (by kernel_rfl) (by kernel_rfl) ?_
     repeat (go_big_quiet_step ((go_at_call 92; exact CE _)))
     refine wpQuiet_nil ?_
     intro _ hw'
     obtain ⟨nq, hw''⟩ := hw'
     subst hw''
     go_wp2
     go_meet
     exact ⟨by rw [O.out, hyb]; rfl, Lib.hid (B8.out.trans ((hB nq).mono B8.out.size))⟩
   ·have hm1' : ((m : Int) == 2) = false := by simp; omega
    have O := Lib.hid (show okTwo L = false from by
     have h := LM.out
     match L, h with
     | [], _ => rfl
     | [c], _ => rfl
     | [c, d], h => exact absurd h.symm hm1
     | _ :: _ :: _ :: _, _ => rfl)
    have CE : True := trivial
    refine Cls.region F h0 (by kernel_rfl) (by kernel_rfl) ?_
    repeat (go_big_quiet_step ((go_at_call 92; exact CE _)))
    refine wpQuiet_nil ?_
    intro _ hw'
    obtain ⟨nq, hw''⟩ := hw'
    subst hw''
    go_wp2
    go_meet
    exact ⟨by rw [O.out], Lib.hid (B8.out.trans ((hB nq).mono B8.out.size))⟩
  case rest =>
   clear S3 B8
   obtain ⟨rfl, B9⟩ := hcut
   obtain ⟨o1, ho1⟩ : ∃ o, okOne L = o := ⟨_, rfl⟩
   obtain ⟨o2, ho2⟩ : ∃ o, okTwo L = o := ⟨_, rfl⟩
   have PO := Lib.hid (show isOneB L = (o1 || o2) by rw [← ho1, ← ho2]; exact one_two L)
   rw [ho1, ho2]
   clear ho1 ho2
   go_upto_region 3 with fail
   go_cut [91] from 60 (fun s91 wx => s91 = .bool (!setOk l col L) ∧ Hid (Below wa.heap.size wa wx))
   case first =>
    have R2 := Lib.hid (show RowAt wc g0 (.slice A n c) wrap from (B9.out.block g0 R0.out.lt).trans R0.out)
    have BC := Lib.hid (BA.out.trans (B9.out.mono BA.out.size))
    have r0 := R2.out.get 0
    have r1 := R2.out.get 1
    go_wp2_with fail
    refine (refRow_walk A n c wrap l wc HL.out ((Q.out.below BC.out).up BC.out.size) hn).mono ?_
    rintro e w2 ⟨rfl, b2⟩
    have R3 := Lib.hid (show RowAt w2 g0 (.slice A n c) wrap from (b2.block g0 R2.out.lt).trans R2.out)
    have B2 := Lib.hid (B9.out.trans (b2.mono B9.out.size))
    clear b2 r0 r1
    have r0 := R3.out.get 0
    obtain ⟨mb, hmb⟩ : ∃ mb, mayL l = mb := ⟨_, rfl⟩
    have MB := Lib.hid hmb
    rw [hmb]
    clear hmb
    cases mb with
    | false =>
     have E := Lib.hid (show setOk l col L = false by unfold setOk; rw [MB.out]; rfl)
     go_wp2_with fail
     go_meet
     exact ⟨by rw [E.out]; rfl, B2⟩
    | true =>
     by_cases ha0 : col < 0
     ·have E := Lib.hid (show setOk l col L = false by unfold setOk; rw [decide_eq_false (show ¬ 0 ≤ col by omega)]; simp)
      go_wp2_with fail
      go_meet
      exact ⟨by rw [E.out]; rfl, B2⟩
     by_cases hab : (n : Int) < col
     ·have E := Lib.hid (show setOk l col L = false by unfold setOk; rw [LN.out, LM.out, decide_eq_false (show ¬ col ≤ (n : Int) - (m : Int) by omega)]; simp)
      go_wp2_with fail
      go_meet
      exact ⟨by rw [E.out]; rfl, B2⟩
     have hsub : IntKind.i64.wrap ((n : Int) - col) = (n : Int) - col := IntWalk.i64_in _ (by omega)
     by_cases hbn : (n : Int) - col < (m : Int)
     ·have E := Lib.hid (show setOk l col L = false by unfold setOk; rw [LN.out, LM.out, decide_eq_false (show ¬ col ≤ (n : Int) - (m : Int) by omega)]; simp)
      go_wp2_with fail
      go_meet
      exact ⟨by rw [E.out]; rfl, B2⟩
     ·have E := Lib.hid (show setOk l col L = (o1 || o2) by
       unfold setOk
       rw [MB.out, PO.out, LN.out, LM.out, decide_eq_true (show 0 ≤ col by omega), decide_eq_true (show col ≤ (n : Int) - (m : Int) by omega)]
       simp)
      cases o1 <;> cases o2
      all_goals
       go_wp2_with fail
       go_meet
       exact ⟨by rw [E.out]; first | rfl | (rw [decide_eq_false (show ¬ col < 0 by omega), decide_eq_false (show ¬ (n : Int) < col by omega), decide_eq_false (show ¬ (n : Int) - col < (m : Int) by omega)]; rfl), B2⟩
   case rest =>
    clear B9
    obtain ⟨rfl, B2⟩ := hcut
    have R2 := Lib.hid (show RowAt wc g0 (.slice A n c) wrap from (B2.out.block g0 R0.out.lt).trans R0.out)
    have Z2 := Lib.hid (show RowAt wc g1 (.slice none 0 0) false from (B2.out.block g1 Z0.out.lt).trans Z0.out)
    have BW := Lib.hid (BA.out.trans (B2.out.mono BA.out.size))
    have r0 := R2.out.get 0
    have r1 := R2.out.get 1
    obtain ⟨ok, hok⟩ : ∃ ok, setOk l col L = ok := ⟨_, rfl⟩
    have OK := Lib.hid hok
    rw [hok]
    clear hok R0 Z0
    cases ok with
    | false =>
     have e1 : setRes l col L = l := by unfold setRes; rw [OK.out]; rfl
     have PE := Lib.hid (fun e w' => (show RPostE false wrap l w e w' → RPostE (setOk l col L) wrap (setRes l col L) w e w' by rw [OK.out, e1]; exact id))
     clear e1
     have z0 : wc.cell? ⟨g1, 0, none⟩ = some (.slice none 0 0) := Z2.out.get 0
     have z1 : wc.cell? ⟨g1, 1, none⟩ = some (.bool false) := Z2.out.get 1
     have zf0 := Z2.out.free 0
     have zf1 := Z2.out.free 1
     have RF := Lib.hid (RowAt.put2 Z2.out (.slice A n c) wrap)
     have OF := (OnlyRow.cell g1 0 wc (.slice A n c)).trans (OnlyRow.cell g1 1 _ (.bool wrap))
     have BF := Lib.hid (BW.out.trans ((Turned.ofOnly OF).toBelow BW.out.size (fun k hk e => by have := HG1.out; omega)))
     clear OF
     go_wp2
     generalize (wc.setCell ⟨g1, 0, none⟩ (.slice A n c)).setCell ⟨g1, 1, none⟩ (.bool wrap) = wz at RF BF ⊢
     have e0 : wz.cell? ⟨g1, 0, none⟩ = some (.slice A n c) := RF.out.get 0
     have e1 : wz.cell? ⟨g1, 1, none⟩ = some (.bool wrap) := RF.out.get 1
     refine bodyPost_ret (v := .tuple #[.agg #[.slice A n c, .bool wrap], .bool false]) (by simp [results, Tryz.results124, go_sem, e0, e1]) rfl (PE.out _ _ ?_)
     exact ⟨_, _, _, rfl, hc, (Q.out.below BF.out).up BF.out.size, BF.out, fun e => by cases e⟩
    | true =>
     have hb : ((mayL l = true ∧ isOneB L = true) ∧ 0 ≤ col) ∧ col ≤ (n : Int) - (m : Int) := by
      have h := OK.out
      unfold setOk at h
      rw [LN.out, LM.out] at h
      simpa only [Bool.and_eq_true, decide_eq_true_eq] using h
     obtain ⟨⟨⟨hm0, hone⟩, ha⟩, hab⟩ := hb
     have hm1 : 0 < m := by
      have h := LM.out
      cases L with
      | nil => cases hone
      | cons c L => rw [List.length_cons] at h; omega
     have hg := ((mayL_iff l).1 hm0).2
     obtain ⟨k, rfl⟩ := Int.eq_ofNat_of_zero_le ha
     have hkm : k + m ≤ n := by omega
     have EQ := Lib.hid (show scanK (putO (ovL l k (blanksL m)) k L) n = setRes l (k : Int) L by
      unfold setRes
      rw [OK.out, if_pos rfl, Int.toNat_natCast, ← scan_blanks hg hm1 (by rw [LN.out]; exact hkm), ← LN.out, ← LM.out]
      exact refSet_eq hg (isOne_whole hone) (by rw [LN.out, LM.out]; exact hkm))
     have hlen2 : (ovL l k (blanksL m)).length = n := by rw [ovL_length]; exact LN.out
     have MK := Lib.hid (refMark_good A n c wrap l k m wc hg hn ((Q.out.below BW.out).up BW.out.size) hkm)
     rw [if_pos hm1] at MK
     have LEN2 := Lib.hid hlen2
     clear hg hm0 hone hlen2
     go_wp2_with fail
     refine MK.out.mono ?_
     rintro e w3 ⟨A3, n3, c3, rfl, h3, b3⟩
     obtain rfl : n3 = n := by
      obtain ⟨_, _, e, _⟩ := HasC.shape h3
      injection e with _ e1 _
      rw [e1, LEN2.out]
     have Z3 := Lib.hid (show RowAt w3 g1 (.slice none 0 0) false from (b3.block g1 Z2.out.lt).trans Z2.out)
     have B3 := Lib.hid (BW.out.trans (b3.mono BW.out.size))
     have OV := Lib.hid (refOver_walk A3 n3 c3 wrap (ovL l k (blanksL m)) k A2 m c2 L w3 (by omega) hn (HasC.sq h3) ((Q2.out.below B3.out).up B3.out.size) hkm)
     rw [EQ.out] at OV
     clear R2 Z2 MK b3 h3 r0 r1
     go_wp2_with fail
     refine OV.out.mono ?_
     rintro e w4 ⟨A4, n4, c4, rfl, h4, b4⟩
     have Z4 := Lib.hid (show RowAt w4 g1 (.slice none 0 0) false from (b4.block g1 Z3.out.lt).trans Z3.out)
     have B4 := Lib.hid (B3.out.trans (b4.mono B3.out.size))
     have hc4 : n4 ≤ c4 := by obtain ⟨_, _, e, h⟩ := HasC.shape h4; injection e with _ e1 e2; omega
     have NB := Lib.hid (fun j (e : (Value.slice A4 n4 c4).ownBlock = some j) => HasC.lt h4 j e)
     have FIN := Lib.hid (fun (W : World) (h : HasC W w3.heap.size (.slice A4 n4 c4) (setRes l (k : Int) L)) => (show Sq W W.heap.size 3 n4 A4 (flat (setRes l (k : Int) L)) by
      obtain ⟨_, _, e, _⟩ := HasC.shape h
      injection e with _ e1 _
      subst e1
      exact HasC.sq h))
     have z0 : w4.cell? ⟨g1, 0, none⟩ = some (.slice none 0 0) := Z4.out.get 0
     have z1 : w4.cell? ⟨g1, 1, none⟩ = some (.bool false) := Z4.out.get 1
     have zf0 := Z4.out.free 0
     have zf1 := Z4.out.free 1
     have RF := Lib.hid (RowAt.put2 Z4.out (.slice A4 n4 c4) wrap)
     have OF := (OnlyRow.cell g1 0 w4 (.slice A4 n4 c4)).trans (OnlyRow.cell g1 1 _ (.bool wrap))
     have HF := Lib.hid (HasC.keep h4 (fun j e => OF.block j (by have h1 := (NB.out j e).1; have h2 := Z3.out.lt; omega)))
     have BF := Lib.hid (B4.out.trans ((Turned.ofOnly OF).toBelow B4.out.size (fun k hk e => by have := HG1.out; omega)))
     clear OF h4
     go_wp2
     generalize (w4.setCell ⟨g1, 0, none⟩ (.slice A4 n4 c4)).setCell ⟨g1, 1, none⟩ (.bool wrap) = wz at RF HF BF ⊢
     have e0 : wz.cell? ⟨g1, 0, none⟩ = some (.slice A4 n4 c4) := RF.out.get 0
     have e1 : wz.cell? ⟨g1, 1, none⟩ = some (.bool wrap) := RF.out.get 1
     refine bodyPost_ret (v := .tuple #[.agg #[.slice A4 n4 c4, .bool wrap], .bool true]) (by simp [results, Tryz.results124, go_sem, e0, e1]) rfl ?_
     rw [OK.out]
     exact ⟨_, _, _, rfl, hc4, (FIN.out wz HF.out), BF.out, fun _ => HasC.mono HF.out B3.out.size⟩
end Rw
