/-
  The reference's Row: may a row be?
-/
import Derived.Test.YtmpoboffdfcpiaaGreatDoorQJBase2
import Derived.Test.YtmpoboffdfcpiaaGreatDoorQJRefRow0
import Derived.Test.YtmpoboffdfcpiaaGreatDoorQJBase1
import Derived.IntWalk
namespace Go.Proofs.YtmpoboffdfcpiaaGreatDoor
open Go.ChangeShapes Go.WideShapes Go.ChangeAt Go.RowKit
def nextBad (c : Cel) : List Cel → Bool
 | [] => true
 | d :: _ => !(d.1 == 0 && d.2.1 == 0 && d.2.2 == c.2.2)
def refGo : Cel → List Cel → Bool
 | _, [] => true
 | p, c :: l => mayB c && !(c.2.1 == 2 && nextBad c l) && !(c.2.1 == 0 && !(p.2.1 == 2 && p.2.2 == c.2.2)) && refGo c l
theorem mayB_zero {c : Cel} (h : mayB c = true) (h0 : c.2.1 = 0) : c.1 = 0 := by
 obtain ⟨r, n, a⟩ := c
 simp only at h0
 subst h0
 unfold mayB at h
 simp at h
 exact h.2
theorem mayGo_ref : ∀ (l : List Cel) (p : Cel), mayGo p l = ((!(p.2.1 == 2) || !(nextBad p l)) && refGo p l)
 | [], p => by simp [mayGo, refGo, nextBad]
 | c :: l, p => by
  have ih := mayGo_ref l c
  have e1 : mayGo p (c :: l) = (mayB c && ((p.2.1 == 2) == (c.2.1 == 0)) && (!(c.2.1 == 0) || c.2.2 == p.2.2) && mayGo c l) := rfl
  have e2 : refGo p (c :: l) = (mayB c && !(c.2.1 == 2 && nextBad c l) && !(c.2.1 == 0 && !(p.2.1 == 2 && p.2.2 == c.2.2)) && refGo c l) := rfl
  have e3 : nextBad p (c :: l) = !(c.1 == 0 && c.2.1 == 0 && c.2.2 == p.2.2) := rfl
  rw [e1, e2, e3, ih]
  clear e1 e2 e3 ih
  generalize refGo c l = g
  generalize nextBad c l = nb
  cases hm : mayB c
  ·simp
  ·cases hp : (p.2.1 == 2)
   ·cases h0 : (c.2.1 == 0) <;> cases h2 : (c.2.1 == 2) <;> cases nb <;> cases g <;> rfl
   ·cases h0 : (c.2.1 == 0)
    ·simp
    ·have hr : c.1 = 0 := mayB_zero hm (by simpa using h0)
     have h2 : (c.2.1 == 2) = false := by simp only [beq_iff_eq] at h0; rw [h0]; rfl
     cases ha : (c.2.2 == p.2.2)
     ·simp
     ·have ha' : (p.2.2 == c.2.2) = true := by simp only [beq_iff_eq] at ha ⊢; exact ha.symm
      rw [ha', hr, h2]
      simp
theorem mayL_ref (l : List Cel) : mayL l = (decide (l.length ≤ 300) && refGo (32, 1, 0) l) := by
 unfold mayL
 rw [mayGo_ref]
 rfl
theorem Sq.cells {w : World} {B n b off k : Nat} {l : List Cel} {c : Cel} (h : Sq w B 3 n (some ⟨b, off, none⟩) (flat l)) (hc : l[k]? = some c) : w.cell? ⟨b, off + k * 3, none⟩ = some (.int .i32 c.1) ∧ w.cell? ⟨b, off + k * 3 + 1, none⟩ = some (.int .i64 c.2.1) ∧ w.cell? ⟨b, off + k * 3 + 2, none⟩ = some (.int .i64 c.2.2) := by
 have hl : k < n := by
  have h1 := h.len
  rw [flat_length] at h1
  have := (List.getElem?_eq_some_iff.1 hc).1
  omega
 obtain ⟨b', off', e, _, c', h', q0, q1, q2⟩ := h.three hl
 injection e with e
 injection e with e1 e2
 subst e1 e2
 rw [hc] at h'
 injection h' with h'
 subst h'
 exact ⟨q0, q1, q2⟩
def prevL (l : List Cel) (k : Nat) : Cel := if k = 0 then (32, 1, 0) else l.getD (k - 1) (32, 1, 0)
theorem prevL_succ {l : List Cel} {k : Nat} {c : Cel} (h : l[k]? = some c) : prevL l (k + 1) = c := by
 unfold prevL
 rw [if_neg (by omega), Nat.add_sub_cancel, List.getD, h]
 rfl
theorem prevL_zero (l : List Cel) : prevL l 0 = (32, 1, 0) := rfl
theorem prevL_get {l : List Cel} {k : Nat} {c : Cel} (hk : 0 < k) (h : l[k - 1]? = some c) : prevL l k = c := by
 unfold prevL
 rw [if_neg (by omega), List.getD, h]
 rfl
theorem drop_get {l : List Cel} {k : Nat} {c : Cel} (h : l[k]? = some c) : l.drop k = c :: l.drop (k + 1) := by
 obtain ⟨h1, h2⟩ := List.getElem?_eq_some_iff.1 h
 rw [List.drop_eq_getElem_cons h1, h2]
theorem refGo_step {l : List Cel} {k : Nat} {c : Cel} (h : l[k]? = some c) : refGo (prevL l k) (l.drop k) = (mayB c && !(c.2.1 == 2 && nextBad c (l.drop (k + 1))) && !(c.2.1 == 0 && !((prevL l k).2.1 == 2 && (prevL l k).2.2 == c.2.2)) && refGo (prevL l (k + 1)) (l.drop (k + 1))) := by
 rw [drop_get h, prevL_succ h]
 rfl
theorem neq_cell (r m a a0 : Int) (w : World) : (binOp .neq 62 (cellV r m a) (cellV 0 0 a0)).run Tryz.prog w = .ok (.bool (!(r == 0 && m == 0 && a == a0))) w := by
 have hw := w
 cases h1 : (r == 0) <;> cases h2 : (m == 0) <;> cases h3 : (a == a0) <;> go_simp
set_option maxRecDepth 100000 in
set_option maxHeartbeats 6400000 in
theorem refRow_any (A : Option Addr) (n c : Nat) (wrap : Bool) (l : List Cel) (w : World) (hl : ∀ c ∈ l, -2147483648 ≤ c.1 ∧ c.1 ≤ 2147483647) (hq : Sq w w.heap.size 3 n A (flat l)) (hn : n ≤ 9223372036854775807) :
  Calls Tryz.prog 39 #[rowV A n c wrap] w fun e w' => e = .returned (.bool (mayL l)) ∧ Below w.heap.size w w' := by
 have hln : l.length = n := by have := hq.len; rw [flat_length] at this; omega
 have LN := Lib.hid hln
 have Q := Lib.hid hq
 have HL := Lib.hid hl
 have MR := Lib.hid (mayL_ref l)
 have B1 := Lib.hid ((Below.refl w.heap.size w).alloc (Nat.le_refl _) (.cells #[.slice A n c, .bool wrap] 58))
 clear hln hq hl
 go_enter Tryz.func39, Tryz.ntmps39
 go_wp2_with fail
 go_loopw [4] (fun i wr => ∃ k : Nat, i = .int .i64 k ∧ k ≤ n ∧ Below w.heap.size w wr ∧ Hid (refGo (prevL l k) (l.drop k) = refGo (32, 1, 0) l)) (fun i _ => n - (intOf i).toNat)
 case atStart => exact ⟨0, rfl, Nat.zero_le _, B1.out, Lib.hid rfl⟩
 case round =>
  obtain ⟨k, rfl, hk, hb, RG⟩ := hrel
  have HB := Lib.hid hb
  have hsz := hb.size
  by_cases hlt : k < n
  ·obtain ⟨b, off, rfl, hbb, ⟨r, m, a⟩, hcc, q0, q1, q2⟩ := (Q.out.below hb).three hlt
   have hx := HL.out _ (List.mem_of_getElem? hcc)
   have ST := Lib.hid (refGo_step hcc)
   obtain ⟨C, hC⟩ : ∃ C, mayB (r, m, a) = C := ⟨_, rfl⟩
   have MC := Lib.hid (fun w => refCell_walk r m a hx.1 hx.2 w)
   rw [hC] at MC ST
   obtain ⟨I, hI, F, h0, hB, hN⟩ := Cls.below wr
   have H0 := Lib.hid h0
   have HBn := Lib.hid (fun n => HB.out.trans ((hB n).mono hsz))
   have HN := Lib.hid hN
   have RD := Lib.hid (show ∀ j c, l[j]? = some c → ∀ n, (F n).cell? ⟨b, off + j * 3, none⟩ = some (.int .i32 c.1) ∧ (F n).cell? ⟨b, off + j * 3 + 1, none⟩ = some (.int .i64 c.2.1) ∧ (F n).cell? ⟨b, off + j * 3 + 2, none⟩ = some (.int .i64 c.2.2) from fun j c hj n => (Q.out.below (HBn.out n)).cells hj)
   have c0 := fun n => (RD.out k _ hcc n).1
   have c1 := fun n => (RD.out k _ hcc n).2.1
   have c2 := fun n => (RD.out k _ hcc n).2.2
   dsimp only at c0 c1 c2
   have MCN := Lib.hid (show ∀ n, Calls Tryz.prog 92 #[cellV r m a] (F n) fun e w' => e = .returned (.bool C) ∧ ∃ m, w' = F m from fun n => (MC.out (F n)).mono fun e w' ⟨he, hb⟩ => ⟨he, HN.out n w' hb⟩)
   have hinc : IntKind.i64.wrap ((k : Int) + 1) = (k : Int) + 1 := IntWalk.i64_in _ (by omega)
   have hk0 : (0 : Int) ≤ (k : Int) := by omega
   have hkn : (k : Int) < (n : Int) := by omega
   clear hb hcc hC hbb hx q0 q1 q2 h0 hB hN MC
   go_wp2_with fail
   cases C
   ·refine Cls.region F H0.out (by kernel_rfl) (by kernel_rfl) ?_
    repeat (go_big_quiet_step ((go_at_call 92; exact MCN.out _)))
    refine wpQuiet_nil ?_
    intro _ hw'
    obtain ⟨nq, hw''⟩ := hw'
    subst hw''
    have BB := Lib.hid (HBn.out nq)
    have RF := Lib.hid (show mayL l = false by rw [MR.out, ← RG.out, ST.out]; simp)
    go_wp2
    go_ret
    exact ⟨ret_bool RF.out.symm, BB.out⟩
   ·cases h2 : (m == 2)
    ·cases h0 : (m == 0)
     ·refine Cls.region F H0.out (by kernel_rfl) (by kernel_rfl) ?_
      repeat (go_big_quiet_step ((go_at_call 92; exact MCN.out _)))
      refine wpQuiet_nil ?_
      intro _ hw'
      obtain ⟨nq, hw''⟩ := hw'
      subst hw''
      have BB := Lib.hid (HBn.out nq)
      have RN := Lib.hid (show refGo (prevL l (k + 1)) (l.drop (k + 1)) = refGo (32, 1, 0) l by rw [← RG.out, ST.out]; simp [h2, h0])
      go_wp2
      go_roundw
      case rel => exact ⟨k + 1, by first | go_num | (congr 1; omega), by omega, BB.out, RN⟩
      case measure => first | (simp [intOf]; done) | (simp [intOf]; omega)
     ·by_cases hkz : k = 0
      ·subst hkz
       simp only [Nat.zero_mul, Nat.add_zero] at c0 c1 c2
       refine Cls.region F H0.out (by kernel_rfl) (by kernel_rfl) ?_
       repeat (go_big_quiet_step ((go_at_call 92; exact MCN.out _)))
       refine wpQuiet_nil ?_
       intro _ hw'
       obtain ⟨nq, hw''⟩ := hw'
       subst hw''
       have BB := Lib.hid (HBn.out nq)
       have RF := Lib.hid (show mayL l = false by rw [MR.out, ← RG.out, ST.out]; rw [prevL_zero]; simp [h2, h0])
       go_wp2
       go_ret
       exact ⟨ret_bool RF.out.symm, BB.out⟩
      ·obtain ⟨⟨pr, pm, pa⟩, hcp⟩ : ∃ c, l[k - 1]? = some c := ⟨_, List.getElem?_eq_getElem (show k - 1 < l.length by have := LN.out; omega)⟩
       have PL := Lib.hid (prevL_get (by omega) hcp)
       have d0 : ((k : Int) == 0) = false := by simp; omega
       have hw : IntKind.i64.wrap ((k : Int) - 1) = (k : Int) - 1 := IntWalk.i64_in _ (by omega)
       have hp0 : (0 : Int) ≤ (k : Int) - 1 := by omega
       have hp1 : (k : Int) - 1 < (n : Int) := by omega
       have hp3 : ((k : Int) - 1).toNat = k - 1 := by omega
       have p0 := fun n => (RD.out (k - 1) _ hcp n).1
       have p1 := fun n => (RD.out (k - 1) _ hcp n).2.1
       have p2 := fun n => (RD.out (k - 1) _ hcp n).2.2
       dsimp only at p0 p1 p2
       clear hcp
       cases hp : (pm != 2)
       ·have hp' : (pm == 2) = true := by simpa using hp
        cases ha : (pa != a)
        ·have ha' : (pa == a) = true := by simpa using ha
         refine Cls.region F H0.out (by kernel_rfl) (by kernel_rfl) ?_
         repeat (go_big_quiet_step ((go_at_call 92; exact MCN.out _)))
         refine wpQuiet_nil ?_
         intro _ hw'
         obtain ⟨nq, hw''⟩ := hw'
         subst hw''
         have BB := Lib.hid (HBn.out nq)
         have RN := Lib.hid (show refGo (prevL l (k + 1)) (l.drop (k + 1)) = refGo (32, 1, 0) l by rw [← RG.out, ST.out]; rw [PL.out]; (try dsimp only); rw [h2, h0, hp', ha']; simp)
         go_wp2
         go_roundw
         case rel => exact ⟨k + 1, by first | go_num | (congr 1; omega), by omega, BB.out, RN⟩
         case measure => first | (simp [intOf]; done) | (simp [intOf]; omega)
        ·have ha' : (pa == a) = false := by simpa using ha
         refine Cls.region F H0.out (by kernel_rfl) (by kernel_rfl) ?_
         repeat (go_big_quiet_step ((go_at_call 92; exact MCN.out _)))
         refine wpQuiet_nil ?_
         intro _ hw'
         obtain ⟨nq, hw''⟩ := hw'
         subst hw''
         have BB := Lib.hid (HBn.out nq)
         have RF := Lib.hid (show mayL l = false by rw [MR.out, ← RG.out, ST.out]; rw [PL.out]; (try dsimp only); rw [h2, h0, hp', ha']; simp)
         go_wp2
         go_ret
         exact ⟨ret_bool RF.out.symm, BB.out⟩
       ·have hp' : (pm == 2) = false := by simpa using hp
        refine Cls.region F H0.out (by kernel_rfl) (by kernel_rfl) ?_
        repeat (go_big_quiet_step ((go_at_call 92; exact MCN.out _)))
        refine wpQuiet_nil ?_
        intro _ hw'
        obtain ⟨nq, hw''⟩ := hw'
        subst hw''
        have BB := Lib.hid (HBn.out nq)
        have RF := Lib.hid (show mayL l = false by rw [MR.out, ← RG.out, ST.out]; rw [PL.out]; (try dsimp only); rw [h2, h0, hp']; simp)
        go_wp2
        go_ret
        exact ⟨ret_bool RF.out.symm, BB.out⟩
    ·have h0 : (m == 0) = false := by simp only [beq_iff_eq] at h2; rw [h2]; rfl
     by_cases hnx : k + 1 < n
     ·obtain ⟨⟨r', m', a'⟩, hcp⟩ : ∃ c, l[k + 1]? = some c := ⟨_, List.getElem?_eq_getElem (show k + 1 < l.length by have := LN.out; omega)⟩
      have ND := Lib.hid (show nextBad (r, m, a) (l.drop (k + 1)) = !(r' == 0 && m' == 0 && a' == a) by rw [drop_get hcp]; rfl)
      have NE := fun w => neq_cell r' m' a' a w
      have hx0 : (0 : Int) ≤ (k : Int) + 1 := by omega
      have hx1 : (k : Int) + 1 < (n : Int) := by omega
      have hx2 : ¬ (n : Int) ≤ (k : Int) + 1 := by omega
      have hx3 : ((k : Int) + 1).toNat = k + 1 := by omega
      have p0 := fun n => (RD.out (k + 1) _ hcp n).1
      have p1 := fun n => (RD.out (k + 1) _ hcp n).2.1
      have p2 := fun n => (RD.out (k + 1) _ hcp n).2.2
      dsimp only at p0 p1 p2
      clear hcp
      obtain ⟨y, hy⟩ : ∃ y, (!(r' == 0 && m' == 0 && a' == a)) = y := ⟨_, rfl⟩
      rw [hy] at ND NE
      clear hy
      cases y
      ·refine Cls.region F H0.out (by kernel_rfl) (by kernel_rfl) ?_
       repeat (go_big_quiet_step ((go_at_call 92; exact MCN.out _)))
       refine wpQuiet_nil ?_
       intro _ hw'
       obtain ⟨nq, hw''⟩ := hw'
       subst hw''
       have BB := Lib.hid (HBn.out nq)
       have RN := Lib.hid (show refGo (prevL l (k + 1)) (l.drop (k + 1)) = refGo (32, 1, 0) l by rw [← RG.out, ST.out]; (try dsimp only); rw [ND.out, h0]; simp)
       go_wp2
       go_roundw
       case rel => exact ⟨k + 1, by first | go_num | (congr 1; omega), by omega, BB.out, RN⟩
       case measure => first | (simp [intOf]; done) | (simp [intOf]; omega)
      ·refine Cls.region F H0.out (by kernel_rfl) (by kernel_rfl) ?_
       repeat (go_big_quiet_step ((go_at_call 92; exact MCN.out _)))
       refine wpQuiet_nil ?_
       intro _ hw'
       obtain ⟨nq, hw''⟩ := hw'
       subst hw''
       have BB := Lib.hid (HBn.out nq)
       have RF := Lib.hid (show mayL l = false by rw [MR.out, ← RG.out, ST.out]; (try dsimp only); rw [ND.out, h2]; simp)
       go_wp2
       go_ret
       exact ⟨ret_bool RF.out.symm, BB.out⟩
     ·have E := Lib.hid (show l.drop (k + 1) = [] from List.drop_eq_nil_of_le (by have := LN.out; omega))
      have hx2 : (n : Int) ≤ (k : Int) + 1 := by omega
      refine Cls.region F H0.out (by kernel_rfl) (by kernel_rfl) ?_
      repeat (go_big_quiet_step ((go_at_call 92; exact MCN.out _)))
      refine wpQuiet_nil ?_
      intro _ hw'
      obtain ⟨nq, hw''⟩ := hw'
      subst hw''
      have BB := Lib.hid (HBn.out nq)
      have RF := Lib.hid (show mayL l = false by rw [MR.out, ← RG.out, ST.out]; rw [E.out]; (try dsimp only); rw [h2]; simp [nextBad])
      go_wp2
      go_ret
      exact ⟨ret_bool RF.out.symm, BB.out⟩
  ·have hk' : k = n := by omega
   have E : l.drop k = [] := List.drop_eq_nil_of_le (by have := LN.out; omega)
   have RT := Lib.hid (show mayL l = decide (n ≤ 300) by rw [MR.out, ← RG.out, E, LN.out]; simp [refGo])
   clear hb E hk'
   go_wp2
   go_ret
   exact ⟨ret_bool (by rw [RT.out, Bool.eq_iff_iff]; simp only [decide_eq_true_eq]; omega), HB.out⟩
end Go.Proofs.YtmpoboffdfcpiaaGreatDoor
