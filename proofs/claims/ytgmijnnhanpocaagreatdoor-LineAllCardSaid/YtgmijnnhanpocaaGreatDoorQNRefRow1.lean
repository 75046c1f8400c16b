/-
  The reference's Row: may a row be? The reference's Trim: its question, step by step. The reference's Trim, Used.
-/
import Derived.Test.YtgmijnnhanpocaaGreatDoorQNBase3
import Derived.Test.YtgmijnnhanpocaaGreatDoorQNRefRow0
import Derived.Test.YtgmijnnhanpocaaGreatDoorQNBase1
import Derived.IntWalk
import Derived.Test.YtgmijnnhanpocaaGreatDoorQNRow0
namespace Go.Proofs.YtgmijnnhanpocaaGreatDoor
open Go.ChangeShapes Go.WideShapes Go.ChangeAt Go.RowKit
def nextBad (c : Cel) : List Cel → Bool
 | [] => true
 | d :: _ => !(d.1 == 0 && d.2.1 == 0 && d.2.2 == c.2.2)
def refGo : Cel → List Cel → Bool
 | _, [] => true
 | p, c :: l => mayB c && !(c.2.1 == 2 && nextBad c l) && !(c.2.1 == 0 && !(p.2.1 == 2 && p.2.2 == c.2.2)) && refGo c l
theorem mayB_zero {c : Cel} (h : mayB c = true) (h0 : c.2.1 = 0) : c.1 = 0 := by
 obtain ⟨r, n, a⟩ := c
 simp only at h0
 subst h0
 unfold mayB at h
 simp at h
 exact h.2
theorem mayGo_ref : ∀ (l : List Cel) (p : Cel), mayGo p l = ((!(p.2.1 == 2) || !(nextBad p l)) && refGo p l)
 | [], p => by simp [mayGo, refGo, nextBad]
 | c :: l, p => by
  have ih := mayGo_ref l c
  have e1 : mayGo p (c :: l) = (mayB c && ((p.2.1 == 2) == (c.2.1 == 0)) && (!(c.2.1 == 0) || c.2.2 == p.2.2) && mayGo c l) := rfl
  have e2 : refGo p (c :: l) = (mayB c && !(c.2.1 == 2 && nextBad c l) && !(c.2.1 == 0 && !(p.2.1 == 2 && p.2.2 == c.2.2)) && refGo c l) := rfl
  have e3 : nextBad p (c :: l) = !(c.1 == 0 && c.2.1 == 0 && c.2.2 == p.2.2) := rfl
  rw [e1, e2, e3, ih]
  clear e1 e2 e3 ih
  generalize refGo c l = g
  generalize nextBad c l = nb
  cases hm : mayB c
  ·simp
  ·cases hp : (p.2.1 == 2)
   ·cases h0 : (c.2.1 == 0) <;> cases h2 : (c.2.1 == 2) <;> cases nb <;> cases g <;> rfl
   ·cases h0 : (c.2.1 == 0)
    ·simp
    ·have hr : c.1 = 0 := mayB_zero hm (by simpa using h0)
     have h2 : (c.2.1 == 2) = false := by simp only [beq_iff_eq] at h0; rw [h0]; rfl
     cases ha : (c.2.2 == p.2.2)
     ·simp
     ·have ha' : (p.2.2 == c.2.2) = true := by simp only [beq_iff_eq] at ha ⊢; exact ha.symm
      rw [ha', hr, h2]
      simp
theorem mayL_ref (l : List Cel) : mayL l = (decide (l.length ≤ 300) && refGo (32, 1, 0) l) := by
 unfold mayL
 rw [mayGo_ref]
 rfl
theorem Sq.cells {w : World} {B n b off k : Nat} {l : List Cel} {c : Cel} (h : Sq w B 3 n (some ⟨b, off, none⟩) (flat l)) (hc : l[k]? = some c) : w.cell? ⟨b, off + k * 3, none⟩ = some (.int .i32 c.1) ∧ w.cell? ⟨b, off + k * 3 + 1, none⟩ = some (.int .i64 c.2.1) ∧ w.cell? ⟨b, off + k * 3 + 2, none⟩ = some (.int .i64 c.2.2) := by
 have hl : k < n := by
  have h1 := h.len
  rw [flat_length] at h1
  have := (List.getElem?_eq_some_iff.1 hc).1
  omega
 obtain ⟨b', off', e, _, c', h', q0, q1, q2⟩ := h.three hl
 injection e with e
 injection e with e1 e2
 subst e1 e2
 rw [hc] at h'
 injection h' with h'
 subst h'
 exact ⟨q0, q1, q2⟩
def prevL (l : List Cel) (k : Nat) : Cel := if k = 0 then (32, 1, 0) else l.getD (k - 1) (32, 1, 0)
theorem prevL_succ {l : List Cel} {k : Nat} {c : Cel} (h : l[k]? = some c) : prevL l (k + 1) = c := by
 unfold prevL
 rw [if_neg (by omega), Nat.add_sub_cancel, List.getD, h]
 rfl
theorem prevL_zero (l : List Cel) : prevL l 0 = (32, 1, 0) := rfl
theorem prevL_get {l : List Cel} {k : Nat} {c : Cel} (hk : 0 < k) (h : l[k - 1]? = some c) : prevL l k = c := by
 unfold prevL
 rw [if_neg (by omega), List.getD, h]
 rfl
theorem drop_get {l : List Cel} {k : Nat} {c : Cel} (h : l[k]? = some c) : l.drop k = c :: l.drop (k + 1) := by
 obtain ⟨h1, h2⟩ := List.getElem?_eq_some_iff.1 h
 rw [List.drop_eq_getElem_cons h1, h2]
theorem refGo_step {l : List Cel} {k : Nat} {c : Cel} (h : l[k]? = some c) : refGo (prevL l k) (l.drop k) = (mayB c && !(c.2.1 == 2 && nextBad c (l.drop (k + 1))) && !(c.2.1 == 0 && !((prevL l k).2.1 == 2 && (prevL l k).2.2 == c.2.2)) && refGo (prevL l (k + 1)) (l.drop (k + 1))) := by
 rw [drop_get h, prevL_succ h]
 rfl
theorem neq_cell (r m a a0 : Int) (w : World) : (binOp .neq 50 (cellV r m a) (cellV 0 0 a0)).run Tryz.prog w = .ok (.bool (!(r == 0 && m == 0 && a == a0))) w := by
 have hw := w
 cases h1 : (r == 0) <;> cases h2 : (m == 0) <;> cases h3 : (a == a0) <;> go_simp
set_option maxRecDepth 100000 in
set_option maxHeartbeats 6400000 in
theorem refRow_any (A : Option Addr) (n c : Nat) (wrap : Bool) (l : List Cel) (w : World) (hl : ∀ c ∈ l, -2147483648 ≤ c.1 ∧ c.1 ≤ 2147483647) (hq : Sq w w.heap.size 3 n A (flat l)) (hn : n ≤ 9223372036854775807) :
  Calls Tryz.prog 24 #[rowV A n c wrap] w fun e w' => e = .returned (.bool (mayL l)) ∧ Below w.heap.size w w' := by
 have hln : l.length = n := by have := hq.len; rw [flat_length] at this; omega
 have LN := Lib.hid hln
 have Q := Lib.hid hq
 have HL := Lib.hid hl
 have MR := Lib.hid (mayL_ref l)
 have B1 := Lib.hid ((Below.refl w.heap.size w).alloc (Nat.le_refl _) (.cells #[.slice A n c, .bool wrap] 48))
 clear hln hq hl
 go_enter Tryz.func24, Tryz.ntmps24
 go_wp2_with fail
 go_loopw [4] (fun i wr => ∃ k : Nat, i = .int .i64 k ∧ k ≤ n ∧ Below w.heap.size w wr ∧ Hid (refGo (prevL l k) (l.drop k) = refGo (32, 1, 0) l)) (fun i _ => n - (intOf i).toNat)
 case atStart => exact ⟨0, rfl, Nat.zero_le _, B1.out, Lib.hid rfl⟩
 case round =>
  obtain ⟨k, rfl, hk, hb, RG⟩ := hrel
  have HB := Lib.hid hb
  have hsz := hb.size
  by_cases hlt : k < n
  ·obtain ⟨b, off, rfl, hbb, ⟨r, m, a⟩, hcc, q0, q1, q2⟩ := (Q.out.below hb).three hlt
   have hx := HL.out _ (List.mem_of_getElem? hcc)
   have ST := Lib.hid (refGo_step hcc)
   obtain ⟨C, hC⟩ : ∃ C, mayB (r, m, a) = C := ⟨_, rfl⟩
   have MC := Lib.hid (fun w => refCell_walk r m a hx.1 hx.2 w)
   rw [hC] at MC ST
   obtain ⟨I, hI, F, h0, hB, hN⟩ := Cls.below wr
   have H0 := Lib.hid h0
   have HBn := Lib.hid (fun n => HB.out.trans ((hB n).mono hsz))
   have HN := Lib.hid hN
   have RD := Lib.hid (show ∀ j c, l[j]? = some c → ∀ n, (F n).cell? ⟨b, off + j * 3, none⟩ = some (.int .i32 c.1) ∧ (F n).cell? ⟨b, off + j * 3 + 1, none⟩ = some (.int .i64 c.2.1) ∧ (F n).cell? ⟨b, off + j * 3 + 2, none⟩ = some (.int .i64 c.2.2) from fun j c hj n => (Q.out.below (HBn.out n)).cells hj)
   have c0 := fun n => (RD.out k _ hcc n).1
   have c1 := fun n => (RD.out k _ hcc n).2.1
   have c2 := fun n => (RD.out k _ hcc n).2.2
   dsimp only at c0 c1 c2
   have MCN := Lib.hid (show ∀ n, Calls Tryz.prog 51 #[cellV r m a] (F n) fun e w' => e = .returned (.bool C) ∧ ∃ m, w' = F m from fun n => (MC.out (F n)).mono fun e w' ⟨he, hb⟩ => ⟨he, HN.out n w' hb⟩)
   have hinc : IntKind.i64.wrap ((k : Int) + 1) = (k : Int) + 1 := IntWalk.i64_in _ (by omega)
   have hk0 : (0 : Int) ≤ (k : Int) := by omega
   have hkn : (k : Int) < (n : Int) := by omega
   clear hb hcc hC hbb hx q0 q1 q2 h0 hB hN MC
   go_wp2_with fail
   cases C
   ·refine Cls.region F H0.out (by kernel_rfl) (by kernel_rfl) ?_
    repeat (go_big_quiet_step ((go_at_call 51; exact MCN.out _)))
    refine wpQuiet_nil ?_
    intro _ hw'
    obtain ⟨nq, hw''⟩ := hw'
    subst hw''
    have BB := Lib.hid (HBn.out nq)
    have RF := Lib.hid (show mayL l = false by rw [MR.out, ← RG.out, ST.out]; simp)
    go_wp2
    go_ret
    exact ⟨ret_bool RF.out.symm, BB.out⟩
   ·cases h2 : (m == 2)
    ·cases h0 : (m == 0)
     ·refine Cls.region F H0.out (by kernel_rfl) (by kernel_rfl) ?_
      repeat (go_big_quiet_step ((go_at_call 51; exact MCN.out _)))
      refine wpQuiet_nil ?_
      intro _ hw'
      obtain ⟨nq, hw''⟩ := hw'
      subst hw''
      have BB := Lib.hid (HBn.out nq)
      have RN := Lib.hid (show refGo (prevL l (k + 1)) (l.drop (k + 1)) = refGo (32, 1, 0) l by rw [← RG.out, ST.out]; simp [h2, h0])
      go_wp2
      go_roundw
      case rel => exact ⟨k + 1, by first | go_num | (congr 1; omega), by omega, BB.out, RN⟩
      case measure => first | (simp [intOf]; done) | (simp [intOf]; omega)
     ·by_cases hkz : k = 0
      ·subst hkz
       simp only [Nat.zero_mul, Nat.add_zero] at c0 c1 c2
       refine Cls.region F H0.out (by kernel_rfl) (by kernel_rfl) ?_
       repeat (go_big_quiet_step ((go_at_call 51; exact MCN.out _)))
       refine wpQuiet_nil ?_
       intro _ hw'
       obtain ⟨nq, hw''⟩ := hw'
       subst hw''
       have BB := Lib.hid (HBn.out nq)
       have RF := Lib.hid (show mayL l = false by rw [MR.out, ← RG.out, ST.out]; rw [prevL_zero]; simp [h2, h0])
       go_wp2
       go_ret
       exact ⟨ret_bool RF.out.symm, BB.out⟩
      ·obtain ⟨⟨pr, pm, pa⟩, hcp⟩ : ∃ c, l[k - 1]? = some c := ⟨_, List.getElem?_eq_getElem (show k - 1 < l.length by have := LN.out; omega)⟩
       have PL := Lib.hid (prevL_get (by omega) hcp)
       have d0 : ((k : Int) == 0) = false := by simp; omega
       have hw : IntKind.i64.wrap ((k : Int) - 1) = (k : Int) - 1 := IntWalk.i64_in _ (by omega)
       have hp0 : (0 : Int) ≤ (k : Int) - 1 := by omega
       have hp1 : (k : Int) - 1 < (n : Int) := by omega
       have hp3 : ((k : Int) - 1).toNat = k - 1 := by omega
       have p0 := fun n => (RD.out (k - 1) _ hcp n).1
       have p1 := fun n => (RD.out (k - 1) _ hcp n).2.1
       have p2 := fun n => (RD.out (k - 1) _ hcp n).2.2
       dsimp only at p0 p1 p2
       clear hcp
       cases hp : (pm != 2)
       ·have hp' : (pm == 2) = true := by simpa using hp
        cases ha : (pa != a)
        ·have ha' : (pa == a) = true := by simpa using ha
         refine Cls.region F H0.out (by kernel_rfl) (by kernel_rfl) ?_
         repeat (go_big_quiet_step ((go_at_call 51; exact MCN.out _)))
         refine wpQuiet_nil ?_
         intro _ hw'
         obtain ⟨nq, hw''⟩ := hw'
         subst hw''
         have BB := Lib.hid (HBn.out nq)
         have RN := Lib.hid (show refGo (prevL l (k + 1)) (l.drop (k + 1)) = refGo (32, 1, 0) l by rw [← RG.out, ST.out]; rw [PL.out]; (try dsimp only); rw [h2, h0, hp', ha']; simp)
         go_wp2
         go_roundw
         case rel => exact ⟨k + 1, by first | go_num | (congr 1; omega), by omega, BB.out, RN⟩
         case measure => first | (simp [intOf]; done) | (simp [intOf]; omega)
        ·have ha' : (pa == a) = false := by simpa using ha
         refine Cls.region F H0.out (by kernel_rfl) (by kernel_rfl) ?_
         repeat (go_big_quiet_step ((go_at_call 51; exact MCN.out _)))
         refine wpQuiet_nil ?_
         intro _ hw'
         obtain ⟨nq, hw''⟩ := hw'
         subst hw''
         have BB := Lib.hid (HBn.out nq)
         have RF := Lib.hid (show mayL l = false by rw [MR.out, ← RG.out, ST.out]; rw [PL.out]; (try dsimp only); rw [h2, h0, hp', ha']; simp)
         go_wp2
         go_ret
         exact ⟨ret_bool RF.out.symm, BB.out⟩
       ·have hp' : (pm == 2) = false := by simpa using hp
        refine Cls.region F H0.out (by kernel_rfl) (by kernel_rfl) ?_
        repeat (go_big_quiet_step ((go_at_call 51; exact MCN.out _)))
        refine wpQuiet_nil ?_
        intro _ hw'
        obtain ⟨nq, hw''⟩ := hw'
        subst hw''
        have BB := Lib.hid (HBn.out nq)
        have RF := Lib.hid (show mayL l = false by rw [MR.out, ← RG.out, ST.out]; rw [PL.out]; (try dsimp only); rw [h2, h0, hp']; simp)
        go_wp2
        go_ret
        exact ⟨ret_bool RF.out.symm, BB.out⟩
    ·have h0 : (m == 0) = false := by simp only [beq_iff_eq] at h2; rw [h2]; rfl
     by_cases hnx : k + 1 < n
     ·obtain ⟨⟨r', m', a'⟩, hcp⟩ : ∃ c, l[k + 1]? = some c := ⟨_, List.getElem?_eq_getElem (show k + 1 < l.length by have := LN.out; omega)⟩
      have ND := Lib.hid (show nextBad (r, m, a) (l.drop (k + 1)) = !(r' == 0 && m' == 0 && a' == a) by rw [drop_get hcp]; rfl)
      have NE := fun w => neq_cell r' m' a' a w
      have hx0 : (0 : Int) ≤ (k : Int) + 1 := by omega
      have hx1 : (k : Int) + 1 < (n : Int) := by omega
      have hx2 : ¬ (n : Int) ≤ (k : Int) + 1 := by omega
      have hx3 : ((k : Int) + 1).toNat = k + 1 := by omega
      have p0 := fun n => (RD.out (k + 1) _ hcp n).1
      have p1 := fun n => (RD.out (k + 1) _ hcp n).2.1
      have p2 := fun n => (RD.out (k + 1) _ hcp n).2.2
      dsimp only at p0 p1 p2
      clear hcp
      obtain ⟨y, hy⟩ : ∃ y, (!(r' == 0 && m' == 0 && a' == a)) = y := ⟨_, rfl⟩
      rw [hy] at ND NE
      clear hy
      cases y
      ·refine Cls.region F H0.out (by kernel_rfl) (by kernel_rfl) ?_
       repeat (go_big_quiet_step ((go_at_call 51; exact MCN.out _)))
       refine wpQuiet_nil ?_
       intro _ hw'
       obtain ⟨nq, hw''⟩ := hw'
       subst hw''
       have BB := Lib.hid (HBn.out nq)
       have RN := Lib.hid (show refGo (prevL l (k + 1)) (l.drop (k + 1)) = refGo (32, 1, 0) l by rw [← RG.out, ST.out]; (try dsimp only); rw [ND.out, h0]; simp)
       go_wp2
       go_roundw
       case rel => exact ⟨k + 1, by first | go_num | (congr 1; omega), by omega, BB.out, RN⟩
       case measure => first | (simp [intOf]; done) | (simp [intOf]; omega)
      ·refine Cls.region F H0.out (by kernel_rfl) (by kernel_rfl) ?_
       repeat (go_big_quiet_step ((go_at_call 51; exact MCN.out _)))
       refine wpQuiet_nil ?_
       intro _ hw'
       obtain ⟨nq, hw''⟩ := hw'
       subst hw''
       have BB := Lib.hid (HBn.out nq)
       have RF := Lib.hid (show mayL l = false by rw [MR.out, ← RG.out, ST.out]; (try dsimp only); rw [ND.out, h2]; simp)
       go_wp2
       go_ret
       exact ⟨ret_bool RF.out.symm, BB.out⟩
     ·have E := Lib.hid (show l.drop (k + 1) = [] from List.drop_eq_nil_of_le (by have := LN.out; omega))
      have hx2 : (n : Int) ≤ (k : Int) + 1 := by omega
      refine Cls.region F H0.out (by kernel_rfl) (by kernel_rfl) ?_
      repeat (go_big_quiet_step ((go_at_call 51; exact MCN.out _)))
      refine wpQuiet_nil ?_
      intro _ hw'
      obtain ⟨nq, hw''⟩ := hw'
      subst hw''
      have BB := Lib.hid (HBn.out nq)
      have RF := Lib.hid (show mayL l = false by rw [MR.out, ← RG.out, ST.out]; rw [E.out]; (try dsimp only); rw [h2]; simp [nextBad])
      go_wp2
      go_ret
      exact ⟨ret_bool RF.out.symm, BB.out⟩
  ·have hk' : k = n := by omega
   have E : l.drop k = [] := List.drop_eq_nil_of_le (by have := LN.out; omega)
   have RT := Lib.hid (show mayL l = decide (n ≤ 300) by rw [MR.out, ← RG.out, E, LN.out]; simp [refGo])
   clear hb E hk'
   go_wp2
   go_ret
   exact ⟨ret_bool (by rw [RT.out, Bool.eq_iff_iff]; simp only [decide_eq_true_eq]; omega), HB.out⟩
end Go.Proofs.YtgmijnnhanpocaaGreatDoor
namespace Go.Proofs.YtgmijnnhanpocaaGreatDoor
open Go.ChangeShapes Go.WideShapes Go.ChangeAt Go.RowKit
namespace Rw
abbrev U11TrimR (k : Nat) := Ord.upto k 11
def trimQ : List Ord.Line := [
 (some 6, Go.Op.move (Go.Operand.tmp 3), none, []),
 (some 7, Go.Op.binOp Go.BinOp.gtr 3 (Go.Operand.tmp 6) (Go.Operand.const (Go.Value.int Go.IntKind.i64 0)) 3, none, [0]),
 (some 8, Go.Op.move (Go.Operand.tmp 7), none, [1]),
 (some 9, Go.Op.move (Go.Operand.tmp 0), some (2, true), [2]),
 (some 10, Go.Op.move (Go.Operand.tmp 3), some (2, true), [2]),
 (some 11, Go.Op.binOp Go.BinOp.sub 3 (Go.Operand.tmp 10) (Go.Operand.const (Go.Value.int Go.IntKind.i64 1)) 3, some (2, true), [4, 2]),
 (some 12, Go.Op.indexAddr 46 (Go.Operand.tmp 9) (Go.Operand.tmp 11), some (2, true), [3, 5, 2]),
 (some 13, Go.Op.load 50 (Go.Operand.tmp 12), some (2, true), [6, 2]),
 (some 14, Go.Op.call { callee := Go.Callee.value (Go.Operand.func 73), args := #[], argTypes := #[] }, some (2, true), [2, 2]),
 (some 15, Go.Op.binOp Go.BinOp.eql 50 (Go.Operand.tmp 13) (Go.Operand.tmp 14) 50, some (2, true), [7, 8, 2]),
 (some 16, Go.Op.pick (Go.Operand.tmp 8) (Go.Operand.tmp 15) (Go.Operand.const (Go.Value.bool false)), none, [2, 9])]
structure TrimFr0 (p0 p1 p2 p4 p5 p17 p18 p19 p20 p21 p22 : Value) (a : Act) : Prop where
 size : a.tmps.size = 23
 defers : a.defers = []
 s0 : Chain.At a 0 (p0)
 s1 : Chain.At a 1 (p1)
 s2 : Chain.At a 2 (p2)
 s3 : Chain.At a 3 (.int .i64 0)
 s4 : Chain.At a 4 (p4)
 s5 : Chain.At a 5 (p5)
 s17 : Chain.At a 17 (p17)
 s18 : Chain.At a 18 (p18)
 s19 : Chain.At a 19 (p19)
 s20 : Chain.At a 20 (p20)
 s21 : Chain.At a 21 (p21)
 s22 : Chain.At a 22 (p22)
theorem TrimFr0.next {p0 p1 p2 p4 p5 p17 p18 p19 p20 p21 p22 : Value} {a a' : Act} {d : Nat} {v : Value} (F : TrimFr0 p0 p1 p2 p4 p5 p17 p18 p19 p20 p21 p22 a) (nx : Chain.Next a a' d v) (h : d ≠ 0 ∧ d ≠ 1 ∧ d ≠ 2 ∧ d ≠ 3 ∧ d ≠ 4 ∧ d ≠ 5 ∧ d ≠ 17 ∧ d ≠ 18 ∧ d ≠ 19 ∧ d ≠ 20 ∧ d ≠ 21 ∧ d ≠ 22 := by decide) : TrimFr0 p0 p1 p2 p4 p5 p17 p18 p19 p20 p21 p22 a' := ⟨nx.size.trans F.size, nx.defers.trans F.defers, nx.k F.s0 (by omega), nx.k F.s1 (by omega), nx.k F.s2 (by omega), nx.k F.s3 (by omega), nx.k F.s4 (by omega), nx.k F.s5 (by omega), nx.k F.s17 (by omega), nx.k F.s18 (by omega), nx.k F.s19 (by omega), nx.k F.s20 (by omega), nx.k F.s21 (by omega), nx.k F.s22 (by omega)⟩
theorem TrimFr0.lt {p0 p1 p2 p4 p5 p17 p18 p19 p20 p21 p22 : Value} {a : Act} {d : Nat} (F : TrimFr0 p0 p1 p2 p4 p5 p17 p18 p19 p20 p21 p22 a) (h : d < 23 := by decide) : d < a.tmps.size := by rw [F.size]; exact h
set_option maxRecDepth 100000 in
theorem trimq_none {ops : Array Oper} {Q : Exit → Act → World → Prop} (R : Ord.Reg ops trimQ) (hQ : ∀ c a w d v, Q (.panic c) (Act.put a (some d) v) w → Q (.panic c) a w) {w1 : World} {p0 p1 p2 p4 p5 p17 p18 p19 p20 p21 p22 : Value}
  (a : Act) (F : TrimFr0 p0 p1 p2 p4 p5 p17 p18 p19 p20 p21 p22 a) (h : ∀ a w, Below w1.heap.size w1 w → TrimFr0 p0 p1 p2 p4 p5 p17 p18 p19 p20 p21 p22 a → Chain.At a 16 (.bool false) → Q .normal a w) (w : World) (hS : Below w1.heap.size w1 w) :
  wpAnyH Tryz.prog .any ops Q (fun w => Below w1.heap.size w1 w) 11 (List.replicate 11 false).toArray a w := by
 refine Ord.take R (k := 0) (v := .int .i64 0) (bs' := U11TrimR 1) rfl (by kernel_rfl) hQ trivial hS (fun w _ hS => Chain.ev_move F.s3.ev) F.lt fun a0 N => ?_
 replace F := F.next N
 have f6 := N.got
 clear N a
 refine Ord.take R (k := 1) (v := .bool false) (bs' := U11TrimR 2) rfl (by kernel_rfl) hQ trivial hS (fun w _ hS => by have e6 := f6; unfold Chain.At at e6; clear F; go_simp) F.lt fun a1 N => ?_
 replace F := F.next N
 clear f6
 have f7 := N.got
 clear N a0
 refine Ord.take R (k := 2) (v := .bool false) (bs' := U11TrimR 3) rfl (by kernel_rfl) hQ trivial hS (fun w _ hS => Chain.ev_move f7.ev) F.lt fun a2 N => ?_
 replace F := F.next N
 clear f7
 have f8 := N.got
 clear N a1
 refine Ord.skip R (k := 3) (bs' := U11TrimR 4) rfl (by kernel_rfl) hQ (R.shut (j := 2) rfl f8 (Ord.ne_not rfl)) hS F.lt fun a3 N => ?_
 replace F := F.next N
 replace f8 := N.k f8
 have f9 := N.got
 clear N a2
 refine Ord.skip R (k := 4) (bs' := U11TrimR 5) rfl (by kernel_rfl) hQ (R.shut (j := 2) rfl f8 (Ord.ne_not rfl)) hS F.lt fun a4 N => ?_
 replace F := F.next N
 replace f8 := N.k f8
 replace f9 := N.k f9
 have f10 := N.got
 clear N a3
 refine Ord.skip R (k := 5) (bs' := U11TrimR 6) rfl (by kernel_rfl) hQ (R.shut (j := 2) rfl f8 (Ord.ne_not rfl)) hS F.lt fun a5 N => ?_
 replace F := F.next N
 replace f8 := N.k f8
 replace f9 := N.k f9
 clear f10
 have f11 := N.got
 clear N a4
 refine Ord.skip R (k := 6) (bs' := U11TrimR 7) rfl (by kernel_rfl) hQ (R.shut (j := 2) rfl f8 (Ord.ne_not rfl)) hS F.lt fun a6 N => ?_
 replace F := F.next N
 replace f8 := N.k f8
 clear f9
 clear f11
 have f12 := N.got
 clear N a5
 refine Ord.skip R (k := 7) (bs' := U11TrimR 8) rfl (by kernel_rfl) hQ (R.shut (j := 2) rfl f8 (Ord.ne_not rfl)) hS F.lt fun a7 N => ?_
 replace F := F.next N
 replace f8 := N.k f8
 clear f12
 have f13 := N.got
 clear N a6
 refine Ord.skip R (k := 8) (bs' := U11TrimR 9) rfl (by kernel_rfl) hQ (R.shut (j := 2) rfl f8 (Ord.ne_not rfl)) hS F.lt fun a8 N => ?_
 replace F := F.next N
 replace f8 := N.k f8
 replace f13 := N.k f13
 have f14 := N.got
 clear N a7
 refine Ord.skip R (k := 9) (bs' := U11TrimR 10) rfl (by kernel_rfl) hQ (R.shut (j := 2) rfl f8 (Ord.ne_not rfl)) hS F.lt fun a9 N => ?_
 replace F := F.next N
 replace f8 := N.k f8
 clear f13
 clear f14
 have f15 := N.got
 clear N a8
 refine Ord.take R (k := 10) (v := Go.Value.bool false) (bs' := U11TrimR 11) rfl (by kernel_rfl) hQ trivial hS (fun w _ hS => Ord.ev_pick_no f8.ev rfl) F.lt fun a10 N => ?_
 replace F := F.next N
 clear f8
 clear f15
 have f16 := N.got
 clear N a9
 exact Ord.finish R (by kernel_rfl) (h _ _ hS F f16)
structure TrimFr1 (b o n c j : Nat) (p1 p2 p4 p5 p17 p18 p19 p20 p21 p22 : Value) (a : Act) : Prop where
 size : a.tmps.size = 23
 defers : a.defers = []
 s0 : Chain.At a 0 (.slice (some ⟨b, o, none⟩) n c)
 s1 : Chain.At a 1 (p1)
 s2 : Chain.At a 2 (p2)
 s3 : Chain.At a 3 (.int .i64 ((j + 1 : Nat) : Int))
 s4 : Chain.At a 4 (p4)
 s5 : Chain.At a 5 (p5)
 s17 : Chain.At a 17 (p17)
 s18 : Chain.At a 18 (p18)
 s19 : Chain.At a 19 (p19)
 s20 : Chain.At a 20 (p20)
 s21 : Chain.At a 21 (p21)
 s22 : Chain.At a 22 (p22)
theorem TrimFr1.next {b o n c j : Nat} {p1 p2 p4 p5 p17 p18 p19 p20 p21 p22 : Value} {a a' : Act} {d : Nat} {v : Value} (F : TrimFr1 b o n c j p1 p2 p4 p5 p17 p18 p19 p20 p21 p22 a) (nx : Chain.Next a a' d v) (h : d ≠ 0 ∧ d ≠ 1 ∧ d ≠ 2 ∧ d ≠ 3 ∧ d ≠ 4 ∧ d ≠ 5 ∧ d ≠ 17 ∧ d ≠ 18 ∧ d ≠ 19 ∧ d ≠ 20 ∧ d ≠ 21 ∧ d ≠ 22 := by decide) : TrimFr1 b o n c j p1 p2 p4 p5 p17 p18 p19 p20 p21 p22 a' := ⟨nx.size.trans F.size, nx.defers.trans F.defers, nx.k F.s0 (by omega), nx.k F.s1 (by omega), nx.k F.s2 (by omega), nx.k F.s3 (by omega), nx.k F.s4 (by omega), nx.k F.s5 (by omega), nx.k F.s17 (by omega), nx.k F.s18 (by omega), nx.k F.s19 (by omega), nx.k F.s20 (by omega), nx.k F.s21 (by omega), nx.k F.s22 (by omega)⟩
theorem TrimFr1.lt {b o n c j : Nat} {p1 p2 p4 p5 p17 p18 p19 p20 p21 p22 : Value} {a : Act} {d : Nat} (F : TrimFr1 b o n c j p1 p2 p4 p5 p17 p18 p19 p20 p21 p22 a) (h : d < 23 := by decide) : d < a.tmps.size := by rw [F.size]; exact h
set_option maxRecDepth 100000 in
theorem trimq_some {ops : Array Oper} {Q : Exit → Act → World → Prop} (R : Ord.Reg ops trimQ) (hQ : ∀ c a w d v, Q (.panic c) (Act.put a (some d) v) w → Q (.panic c) a w) {w1 : World} {b o n c j : Nat} {p1 p2 p4 p5 p17 p18 p19 p20 p21 p22 : Value}
  {r wd x : Int} {qb : Bool} (hE : ∀ w, (binOp .eql 50 (.agg #[.int .i32 r, .int .i64 wd, .int .i64 x]) (.agg #[.int .i32 32, .int .i64 1, .int .i64 0])).run Tryz.prog w = .ok (.bool qb) w) (hpos : (0 : Int) < ((j + 1 : Nat) : Int)) (hsub : IntKind.i64.wrap (j : Int) = (j : Int)) (hj0 : (0 : Int) ≤ (j : Int)) (hjn : (j : Int) < (n : Int))
  (q0 : ∀ w, Below w1.heap.size w1 w → w.cell? ⟨b, o + j * 3, none⟩ = some (.int .i32 r))
  (q1 : ∀ w, Below w1.heap.size w1 w → w.cell? ⟨b, o + j * 3 + 1, none⟩ = some (.int .i64 wd))
  (q2 : ∀ w, Below w1.heap.size w1 w → w.cell? ⟨b, o + j * 3 + 2, none⟩ = some (.int .i64 x))
  (BW : ∀ w, Calls Tryz.prog 73 #[] w fun e w' => e = .returned (.agg #[.int .i32 32, .int .i64 1, .int .i64 0]) ∧ Below w.heap.size w w')
  (a : Act) (F : TrimFr1 b o n c j p1 p2 p4 p5 p17 p18 p19 p20 p21 p22 a) (h : ∀ a w, Below w1.heap.size w1 w → TrimFr1 b o n c j p1 p2 p4 p5 p17 p18 p19 p20 p21 p22 a → Chain.At a 16 (.bool qb) → Q .normal a w) (w : World) (hS : Below w1.heap.size w1 w) :
  wpAnyH Tryz.prog .any ops Q (fun w => Below w1.heap.size w1 w) 11 (List.replicate 11 false).toArray a w := by
 refine Ord.take R (k := 0) (v := .int .i64 ((j + 1 : Nat) : Int)) (bs' := U11TrimR 1) rfl (by kernel_rfl) hQ trivial hS (fun w _ hS => Chain.ev_move F.s3.ev) F.lt fun a0 N => ?_
 replace F := F.next N
 have f6 := N.got
 clear N a
 refine Ord.take R (k := 1) (v := .bool true) (bs' := U11TrimR 2) rfl (by kernel_rfl) hQ trivial hS (fun w _ hS => by have e6 := f6; unfold Chain.At at e6; have q0 := hpos; clear F; go_simp) F.lt fun a1 N => ?_
 replace F := F.next N
 clear f6
 have f7 := N.got
 clear N a0
 refine Ord.take R (k := 2) (v := .bool true) (bs' := U11TrimR 3) rfl (by kernel_rfl) hQ trivial hS (fun w _ hS => Chain.ev_move f7.ev) F.lt fun a2 N => ?_
 replace F := F.next N
 clear f7
 have f8 := N.got
 clear N a1
 refine Ord.take R (k := 3) (v := .slice (some ⟨b, o, none⟩) n c) (bs' := U11TrimR 4) rfl (by kernel_rfl) hQ (R.opened (j := 2) rfl f8) hS (fun w _ hS => Chain.ev_move F.s0.ev) F.lt fun a3 N => ?_
 replace F := F.next N
 replace f8 := N.k f8
 have f9 := N.got
 clear N a2
 refine Ord.take R (k := 4) (v := .int .i64 ((j + 1 : Nat) : Int)) (bs' := U11TrimR 5) rfl (by kernel_rfl) hQ (R.opened (j := 2) rfl f8) hS (fun w _ hS => Chain.ev_move F.s3.ev) F.lt fun a4 N => ?_
 replace F := F.next N
 replace f8 := N.k f8
 replace f9 := N.k f9
 have f10 := N.got
 clear N a3
 refine Ord.take R (k := 5) (v := .int .i64 (j : Int)) (bs' := U11TrimR 6) rfl (by kernel_rfl) hQ (R.opened (j := 2) rfl f8) hS (fun w _ hS => by have e10 := f10; unfold Chain.At at e10; have q0 := hsub; clear F; go_simp) F.lt fun a5 N => ?_
 replace F := F.next N
 replace f8 := N.k f8
 replace f9 := N.k f9
 clear f10
 have f11 := N.got
 clear N a4
 refine Ord.take R (k := 6) (v := .pointer (some ⟨b, o + j * 3, none⟩)) (bs' := U11TrimR 7) rfl (by kernel_rfl) hQ (R.opened (j := 2) rfl f8) hS (fun w _ hS => by have e9 := f9; unfold Chain.At at e9; have e11 := f11; unfold Chain.At at e11; have q0 := hj0; have q1 := hjn; clear F; go_simp) F.lt fun a6 N => ?_
 replace F := F.next N
 replace f8 := N.k f8
 clear f9
 clear f11
 have f12 := N.got
 clear N a5
 refine Ord.take R (k := 7) (v := .agg #[.int .i32 r, .int .i64 wd, .int .i64 x]) (bs' := U11TrimR 8) rfl (by kernel_rfl) hQ (R.opened (j := 2) rfl f8) hS (fun w _ hS => by have e12 := f12; unfold Chain.At at e12; have q0 := (q0 w hS); have q1 := (q1 w hS); have q2 := (q2 w hS); clear F; go_simp) F.lt fun a7 N => ?_
 replace F := F.next N
 replace f8 := N.k f8
 clear f12
 have f13 := N.got
 clear N a6
 refine Ord.call R (k := 8) (args := #[]) (bs' := U11TrimR 9) rfl (by kernel_rfl) (R.opened (j := 2) rfl f8) (by simp) (by kernel_rfl) (BW _) F.lt ?_
 rintro e w ⟨rfl, b9⟩
 replace hS := hS.trans (b9.mono hS.size)
 refine ⟨_, rfl, hS, fun a8 N => ?_⟩
 replace F := F.next N
 replace f8 := N.k f8
 replace f13 := N.k f13
 have f14 := N.got
 clear N a7
 refine Ord.take R (k := 9) (v := .bool qb) (bs' := U11TrimR 10) rfl (by kernel_rfl) hQ (R.opened (j := 2) rfl f8) hS (fun w _ hS => by have e13 := f13; unfold Chain.At at e13; have e14 := f14; unfold Chain.At at e14; have q0 := (hE w); clear F; go_simp) F.lt fun a9 N => ?_
 replace F := F.next N
 replace f8 := N.k f8
 clear f13
 clear f14
 have f15 := N.got
 clear N a8
 refine Ord.take R (k := 10) (v := .bool qb) (bs' := U11TrimR 11) rfl (by kernel_rfl) hQ trivial hS (fun w _ hS => Ord.ev_pick_yes f8.ev f15.ev) F.lt fun a10 N => ?_
 replace F := F.next N
 clear f8
 clear f15
 have f16 := N.got
 clear N a9
 exact Ord.finish R (by kernel_rfl) (h _ _ hS F f16)
set_option maxRecDepth 100000 in
theorem trimq_frame {a : Act} {w : World} {K : Act → World → Prop} {v0 v1 v2 v3 v4 v5 v16 v17 v18 v19 v20 v21 v22 : Value} (hz : a.tmps.size = 23) (hd : a.defers = []) (f0 : Chain.At a 0 v0) (f1 : Chain.At a 1 v1) (f2 : Chain.At a 2 v2) (f3 : Chain.At a 3 v3) (f4 : Chain.At a 4 v4) (f5 : Chain.At a 5 v5) (f16 : Chain.At a 16 v16) (f17 : Chain.At a 17 v17) (f18 : Chain.At a 18 v18) (f19 : Chain.At a 19 v19) (f20 : Chain.At a 20 v20) (f21 : Chain.At a 21 v21) (f22 : Chain.At a 22 v22)
  (h : ∀ u6 u7 u8 u9 u10 u11 u12 u13 u14 u15 : Value, K ⟨#[v0, v1, v2, v3, v4, v5, u6, u7, u8, u9, u10, u11, u12, u13, u14, u15, v16, v17, v18, v19, v20, v21, v22], []⟩ w) : K a w := by
 have e := Ord.frame_out hz hd
 have r : (List.range 23).map (fun i => a.tmps.toList.getD i undef) = [a.tmps.toList.getD 0 undef, a.tmps.toList.getD 1 undef, a.tmps.toList.getD 2 undef, a.tmps.toList.getD 3 undef, a.tmps.toList.getD 4 undef, a.tmps.toList.getD 5 undef, a.tmps.toList.getD 6 undef, a.tmps.toList.getD 7 undef, a.tmps.toList.getD 8 undef, a.tmps.toList.getD 9 undef, a.tmps.toList.getD 10 undef, a.tmps.toList.getD 11 undef, a.tmps.toList.getD 12 undef, a.tmps.toList.getD 13 undef, a.tmps.toList.getD 14 undef, a.tmps.toList.getD 15 undef, a.tmps.toList.getD 16 undef, a.tmps.toList.getD 17 undef, a.tmps.toList.getD 18 undef, a.tmps.toList.getD 19 undef, a.tmps.toList.getD 20 undef, a.tmps.toList.getD 21 undef, a.tmps.toList.getD 22 undef] := rfl
 rw [r, Ord.at_get f0, Ord.at_get f1, Ord.at_get f2, Ord.at_get f3, Ord.at_get f4, Ord.at_get f5, Ord.at_get f16, Ord.at_get f17, Ord.at_get f18, Ord.at_get f19, Ord.at_get f20, Ord.at_get f21, Ord.at_get f22] at e
 rw [e]
 exact h _ _ _ _ _ _ _ _ _ _
end Rw
end Go.Proofs.YtgmijnnhanpocaaGreatDoor
namespace Go.Proofs.YtgmijnnhanpocaaGreatDoor
open Go.ChangeShapes Go.WideShapes Go.ChangeAt Go.RowKit
namespace Rw
theorem refBlank_walk (w : World) : Calls Tryz.prog 73 #[] w fun e w' => e = .returned (cellV 32 1 0) ∧ Below w.heap.size w w' := by
 go_enter Tryz.func73, Tryz.ntmps73
 go_wp2
 exact bodyPost_ret (v := cellV 32 1 0) (by simp [results, Tryz.results73, go_sem]) rfl ⟨rfl, (Below.refl _ _).alloc (Nat.le_refl _) _⟩
set_option maxRecDepth 100000 in
theorem eql_cell (x y z r m a : Int) (w : World) : (binOp .eql 50 (cellV x y z) (cellV r m a)).run Tryz.prog w = .ok (.bool (x == r && y == m && z == a)) w := by
 have hw := w
 cases h1 : (x == r) <;> cases h2 : (y == m) <;> cases h3 : (z == a) <;> go_simp
set_option maxRecDepth 100000 in
set_option maxHeartbeats 3200000 in
theorem refTrim_walk (A : Option Addr) (n c : Nat) (hc : n ≤ c) (l : List Cel) (w : World) (hn : n ≤ 1000000) (hq : Sq w w.heap.size 3 n A (flat l)) :
  Calls Tryz.prog 42 #[.slice A n c] w fun e w' => TrimPost l w e w' := by
 obtain ⟨i0, hi0, hz0, hz1, hz2⟩ := info_parts infoCell
 have hln : l.length = n := by have := hq.len; rw [flat_length] at this; omega
 have LN := Lib.hid hln
 have Q := Lib.hid hq
 clear hln hq
 go_enter Tryz.func42, Tryz.ntmps42
 go_wp2_with fail
 go_loopw [3] (fun i wr => ∃ k : Nat, i = .int .i64 k ∧ k ≤ n ∧ Hid (trimN l k = trimN l n) ∧ Hid (Below w.heap.size w wr)) (fun i _ => (intOf i).toNat)
 case atStart => exact ⟨n, rfl, Nat.le_refl _, Lib.hid rfl, Lib.hid (Below.refl _ _)⟩
 case round =>
  obtain ⟨k, rfl, hk, HT, BL⟩ := hrel
  have hsz := BL.out.size
  rcases Nat.eq_zero_or_pos k with rfl | hp
  ·have E0 := Lib.hid (show trimL l = [] by unfold trimL; rw [LN.out, ← HT.out]; simp [trimN])
   go_wp2_with fail
   refine Ord.start (S := fun w' => Below wr.heap.size wr w') (n := 11) (by kernel_rfl) (by kernel_rfl) (Below.refl wr.heap.size wr).drew ?_
   apply trimq_none (w1 := wr) (p0 := .slice A n c) (p1 := undef) (p2 := .slice none 0 0) (p4 := .slice A n c) (p5 := .int .i64 (n : Int)) (p17 := u17) (p18 := u18) (p19 := undef) (p20 := undef) (p21 := undef) (p22 := undef)
   case R => exact ⟨by kernel_rfl, by kernel_rfl⟩
   case hQ => exact fun _ _ _ _ _ h => h
   case F => exact ⟨rfl, rfl, rfl, rfl, rfl, rfl, rfl, rfl, rfl, rfl, rfl, rfl, rfl, rfl⟩
   case hS => exact (Below.refl wr.heap.size wr).drew
   intro a2 w2 hS2 F2 f16
   have B2 := Lib.hid (BL.out.trans (hS2.mono hsz))
   have hsz2 := B2.out.size
   refine trimq_frame F2.size F2.defers F2.s0 F2.s1 F2.s2 F2.s3 F2.s4 F2.s5 f16 F2.s17 F2.s18 F2.s19 F2.s20 F2.s21 F2.s22 ?_
   intros
   clear F2 f16
   try dsimp only
   rcases A with _ | ⟨b, off, o⟩
   ·go_wp2
    go_ret
    exact ⟨_, rfl, by rw [E0.out]; exact World.ownsRow_nil _ _ _ _, B2.out⟩
   ·go_wp2_with (at_builtin; refine wpList_append_own _ rfl _ _ 46 rfl w.heap.size 50 i0 (.agg #[.int .i32 0, .int .i64 0, .int .i64 0]) 3 24 Tryz.underlying46 hi0 hz0 hz1 hz2 rfl (by decide) (.slice none 0 0) 0 [] rfl (World.ownsRow_nil _ _ _ _) ⟨b, off, o⟩ 0 c [] rfl rfl (by simp) (by simp) (by decide) (by decide) hsz2 ?_; intro v' w3 hown hg _)
    go_wp2
    go_ret
    exact ⟨_, rfl, by rw [E0.out]; exact hown, B2.out.grown hg hsz2 (by simp [Value.ownBlock])⟩
  ·obtain ⟨j, rfl⟩ : ∃ j, k = j + 1 := ⟨k - 1, by omega⟩
   obtain ⟨b, off, rfl, hb, ⟨r, m, a⟩, hcc, q0, q1, q2⟩ := Q.out.three (show j < n by omega)
   have HC := Lib.hid hcc
   obtain ⟨qb, hqb⟩ : ∃ qb, (r == 32 && m == 1 && a == 0) = qb := ⟨_, rfl⟩
   have HBB := Lib.hid (show blankC (r, m, a) = qb by rw [← hqb]; rfl)
   have EC := fun w => eql_cell r m a 32 1 0 w
   rw [hqb] at EC
   have C0 : ∀ w', Below wr.heap.size wr w' → w'.cell? ⟨b, off + j * 3, none⟩ = some (.int .i32 r) := fun w' hb' => ((BL.out.trans (hb'.mono hsz)).cell (p := ⟨b, off + j * 3, none⟩) hb).trans q0
   have C1 : ∀ w', Below wr.heap.size wr w' → w'.cell? ⟨b, off + j * 3 + 1, none⟩ = some (.int .i64 m) := fun w' hb' => ((BL.out.trans (hb'.mono hsz)).cell (p := ⟨b, off + j * 3 + 1, none⟩) hb).trans q1
   have C2 : ∀ w', Below wr.heap.size wr w' → w'.cell? ⟨b, off + j * 3 + 2, none⟩ = some (.int .i64 a) := fun w' hb' => ((BL.out.trans (hb'.mono hsz)).cell (p := ⟨b, off + j * 3 + 2, none⟩) hb).trans q2
   clear hcc hqb q0 q1 q2
   go_wp2_with fail
   refine Ord.start (S := fun w' => Below wr.heap.size wr w') (n := 11) (by kernel_rfl) (by kernel_rfl) (Below.refl wr.heap.size wr).drew ?_
   apply trimq_some (w1 := wr) (b := b) (o := off) (n := n) (c := c) (j := j) (r := r) (wd := m) (x := a) (qb := qb) (p1 := undef) (p2 := .slice none 0 0) (p4 := .slice (some ⟨b, off, none⟩) n c) (p5 := .int .i64 (n : Int)) (p17 := u17) (p18 := u18) (p19 := undef) (p20 := undef) (p21 := undef) (p22 := undef)
   case R => exact ⟨by kernel_rfl, by kernel_rfl⟩
   case hQ => exact fun _ _ _ _ _ h => h
   case hE => exact EC
   case hpos => omega
   case hsub => exact IntWalk.i64_in _ (by omega)
   case hj0 => omega
   case hjn => omega
   case q0 => exact C0
   case q1 => exact C1
   case q2 => exact C2
   case BW => exact refBlank_walk
   case F => exact ⟨rfl, rfl, rfl, rfl, rfl, rfl, rfl, rfl, rfl, rfl, rfl, rfl, rfl, rfl⟩
   case hS => exact (Below.refl wr.heap.size wr).drew
   intro a2 w2 hS2 F2 f16
   have B2 := Lib.hid (BL.out.trans (hS2.mono hsz))
   have hsz2 := B2.out.size
   refine trimq_frame F2.size F2.defers F2.s0 F2.s1 F2.s2 F2.s3 F2.s4 F2.s5 f16 F2.s17 F2.s18 F2.s19 F2.s20 F2.s21 F2.s22 ?_
   intros
   clear F2 f16
   try dsimp only
   clear C0 C1 C2 EC
   cases qb
   ·go_wp2_with (at_builtin; refine wpList_append_own _ rfl _ _ 46 rfl w.heap.size 50 i0 (.agg #[.int .i32 0, .int .i64 0, .int .i64 0]) 3 24 Tryz.underlying46 hi0 hz0 hz1 hz2 rfl (by decide) (.slice none 0 0) 0 [] rfl (World.ownsRow_nil _ _ _ _) ⟨b, off, none⟩ (j + 1) c (flat (l.take (j + 1))) rfl (flat_take_len (by have := LN.out; omega)) (sq_news Q.out B2.out (by omega)) (flat_one _) (fit24 (by omega)).1 (fit24 (by omega)).2 hsz2 ?_; intro v' w3 hown hg _)
    go_wp2
    go_ret
    have e : trimL l = l.take (j + 1) := by unfold trimL; rw [LN.out, ← HT.out, trimN_no HC.out HBB.out]
    have h : (l.take (j + 1)).length = 0 + (j + 1) := by rw [List.length_take]; have := LN.out; omega
    refine ⟨_, rfl, ?_, B2.out.grown hg hsz2 (by simp [Value.ownBlock])⟩
    rw [e]
    unfold HasC
    rw [h]
    exact hown
   ·go_wp2_with fail
    go_roundw
    case rel => exact ⟨j, by go_num, by omega, Lib.hid ((trimN_yes HC.out HBB.out).symm.trans HT.out), B2⟩
    case measure => first | (simp [intOf]; done) | (simp [intOf]; omega)
end Rw
end Go.Proofs.YtgmijnnhanpocaaGreatDoor
