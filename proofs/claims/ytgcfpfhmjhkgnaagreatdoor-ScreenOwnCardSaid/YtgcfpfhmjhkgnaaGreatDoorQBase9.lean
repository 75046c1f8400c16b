/-
  What some events do to a screen, in plain words. ScreenOwn: an event done to both screens, step by step.
-/
import Derived.Test.YtgcfpfhmjhkgnaaGreatDoorQLaw0
import Derived.Test.YtgcfpfhmjhkgnaaGreatDoorQEsc1
import Derived.Test.YtgcfpfhmjhkgnaaGreatDoorQBase5
namespace Go.Proofs.YtgcfpfhmjhkgnaaGreatDoor
open Go.ChangeShapes Go.WideShapes Go.ChangeAt Go.RowKit
namespace Sc
open Rw
theorem downS_len {s : Scr} (h : 1 ≤ s.rows.length) : (downS s).rows.length = s.rows.length := by
 unfold downS
 split
 ·rfl
 ·simp; omega
theorem setS_len (s : Scr) (L : List Cel) : (setS s L).rows.length = s.rows.length := by simp [setS]
theorem wrapS_len {s : Scr} (h : 1 ≤ s.rows.length) : (wrapS s).rows.length = s.rows.length := by
 have e : (markS (padS s)).rows.length = s.rows.length := by simp [markS, (padS_w s).2.2.2.2]
 unfold wrapS
 rw [downS_len (by omega), e]
theorem eraseS_len (s : Scr) (i : Nat) (f t : Int) : (eraseS s i f t).rows.length = s.rows.length := by simp [eraseS]
theorem rowE_len (s : Scr) (what : Int) : (rowE s what).w = s.w ∧ (rowE s what).rows.length = s.rows.length := by
 unfold rowE
 repeat' split
 all_goals first | exact ⟨rfl, eraseS_len _ _ _ _⟩ | exact ⟨rfl, rfl⟩
theorem scrE_len (s : Scr) (what : Int) : (scrE s what).w = s.w ∧ (scrE s what).rows.length = s.rows.length := by
 unfold scrE
 rw [(rowE_len _ _).1, (rowE_len _ _).2]
 repeat' split
 all_goals first | exact ⟨(rowsE_w _ _ _).1, (rowsE_w _ _ _).2.1⟩ | exact ⟨rfl, rfl⟩
theorem doS_dims {s : Scr} (k r : Int) (l : List Int) (h : 1 ≤ s.rows.length) : (doS s k r l).w = s.w ∧ (doS s k r l).rows.length = s.rows.length := by
 unfold doS
 split
 ·unfold printS
  split
  ·exact ⟨rfl, rfl⟩
  ·refine ⟨(roomS_w s _).1, ?_⟩
   show (setS (roomS s (wof r)) (ofL r s.a)).rows.length = _
   rw [setS_len]
   unfold roomS
   split
   ·exact wrapS_len h
   ·rfl
 ·split
  ·unfold ctrlS
   repeat' split
   all_goals first | exact ⟨rfl, rfl⟩ | exact ⟨(downS_w _).1, downS_len h⟩
  ·split
   ·unfold csiS
    split
    ·unfold actS
     repeat' split
     all_goals first | exact ⟨rfl, rfl⟩ | exact scrE_len (leaveS s) _ | exact rowE_len (leaveS s) _
    ·exact ⟨rfl, rfl⟩
   ·exact ⟨rfl, rfl⟩
end Sc
end Go.Proofs.YtgcfpfhmjhkgnaaGreatDoor
namespace Go.Proofs.YtgcfpfhmjhkgnaaGreatDoor
open Go.ChangeShapes Go.WideShapes Go.ChangeAt Go.RowKit
namespace Sc
def scownL : List Ord.Line := [
 (some 33, Go.Op.move (Go.Operand.tmp 4), none, []),
 (some 34, Go.Op.load 43 (Go.Operand.tmp 7), none, []),
 (some 35, Go.Op.call { callee := Go.Callee.value (Go.Operand.func 17), args := #[Go.Operand.tmp 33, Go.Operand.tmp 34], argTypes := #[37, 43] }, none, [0, 1]),
 (some 36, Go.Op.move (Go.Operand.tmp 5), none, []),
 (some 37, Go.Op.load 43 (Go.Operand.tmp 7), none, []),
 (some 38, Go.Op.call { callee := Go.Callee.value (Go.Operand.func 17), args := #[Go.Operand.tmp 36, Go.Operand.tmp 37], argTypes := #[37, 43] }, none, [3, 4, 2]),
 (some 8, Go.Op.assign (Go.Operand.tmp 35), none, [2, 5, 0, 1, 2]),
 (some 9, Go.Op.assign (Go.Operand.tmp 38), none, [5, 6, 0, 1, 2, 3, 4, 5, 6])]
structure ScOwnFr (p q b7 : Nat) (p0 p1 p2 p3 p6 p10 p11 p12 p13 p14 p15 p16 p17 p18 p19 p20 p21 p22 p23 p24 p25 p26 p27 p28 p29 p30 p31 p32 p39 p40 p41 p42 p43 p44 p45 p46 p47 p48 p49 p50 p51 p52 p53 p54 p55 p56 p57 p58 p59 p60 p61 p62 p63 p64 p65 p66 p67 p68 p69 : Value) (a : Act) : Prop where
 size : a.tmps.size = 70
 defers : a.defers = []
 s0 : Chain.At a 0 (p0)
 s1 : Chain.At a 1 (p1)
 s2 : Chain.At a 2 (p2)
 s3 : Chain.At a 3 (p3)
 s4 : Chain.At a 4 (.pointer (some ⟨p, 0, none⟩))
 s5 : Chain.At a 5 (.pointer (some ⟨q, 0, none⟩))
 s6 : Chain.At a 6 (p6)
 s7 : Chain.At a 7 (.pointer (some ⟨b7, 0, none⟩))
 s10 : Chain.At a 10 (p10)
 s11 : Chain.At a 11 (p11)
 s12 : Chain.At a 12 (p12)
 s13 : Chain.At a 13 (p13)
 s14 : Chain.At a 14 (p14)
 s15 : Chain.At a 15 (p15)
 s16 : Chain.At a 16 (p16)
 s17 : Chain.At a 17 (p17)
 s18 : Chain.At a 18 (p18)
 s19 : Chain.At a 19 (p19)
 s20 : Chain.At a 20 (p20)
 s21 : Chain.At a 21 (p21)
 s22 : Chain.At a 22 (p22)
 s23 : Chain.At a 23 (p23)
 s24 : Chain.At a 24 (p24)
 s25 : Chain.At a 25 (p25)
 s26 : Chain.At a 26 (p26)
 s27 : Chain.At a 27 (p27)
 s28 : Chain.At a 28 (p28)
 s29 : Chain.At a 29 (p29)
 s30 : Chain.At a 30 (p30)
 s31 : Chain.At a 31 (p31)
 s32 : Chain.At a 32 (p32)
 s39 : Chain.At a 39 (p39)
 s40 : Chain.At a 40 (p40)
 s41 : Chain.At a 41 (p41)
 s42 : Chain.At a 42 (p42)
 s43 : Chain.At a 43 (p43)
 s44 : Chain.At a 44 (p44)
 s45 : Chain.At a 45 (p45)
 s46 : Chain.At a 46 (p46)
 s47 : Chain.At a 47 (p47)
 s48 : Chain.At a 48 (p48)
 s49 : Chain.At a 49 (p49)
 s50 : Chain.At a 50 (p50)
 s51 : Chain.At a 51 (p51)
 s52 : Chain.At a 52 (p52)
 s53 : Chain.At a 53 (p53)
 s54 : Chain.At a 54 (p54)
 s55 : Chain.At a 55 (p55)
 s56 : Chain.At a 56 (p56)
 s57 : Chain.At a 57 (p57)
 s58 : Chain.At a 58 (p58)
 s59 : Chain.At a 59 (p59)
 s60 : Chain.At a 60 (p60)
 s61 : Chain.At a 61 (p61)
 s62 : Chain.At a 62 (p62)
 s63 : Chain.At a 63 (p63)
 s64 : Chain.At a 64 (p64)
 s65 : Chain.At a 65 (p65)
 s66 : Chain.At a 66 (p66)
 s67 : Chain.At a 67 (p67)
 s68 : Chain.At a 68 (p68)
 s69 : Chain.At a 69 (p69)
theorem ScOwnFr.next {p q b7 : Nat} {p0 p1 p2 p3 p6 p10 p11 p12 p13 p14 p15 p16 p17 p18 p19 p20 p21 p22 p23 p24 p25 p26 p27 p28 p29 p30 p31 p32 p39 p40 p41 p42 p43 p44 p45 p46 p47 p48 p49 p50 p51 p52 p53 p54 p55 p56 p57 p58 p59 p60 p61 p62 p63 p64 p65 p66 p67 p68 p69 : Value} {a a' : Act} {d : Nat} {v : Value} (F : ScOwnFr p q b7 p0 p1 p2 p3 p6 p10 p11 p12 p13 p14 p15 p16 p17 p18 p19 p20 p21 p22 p23 p24 p25 p26 p27 p28 p29 p30 p31 p32 p39 p40 p41 p42 p43 p44 p45 p46 p47 p48 p49 p50 p51 p52 p53 p54 p55 p56 p57 p58 p59 p60 p61 p62 p63 p64 p65 p66 p67 p68 p69 a) (nx : Chain.Next a a' d v) (h : d = 8 ∨ d = 9 ∨ (32 < d ∧ d < 39)) : ScOwnFr p q b7 p0 p1 p2 p3 p6 p10 p11 p12 p13 p14 p15 p16 p17 p18 p19 p20 p21 p22 p23 p24 p25 p26 p27 p28 p29 p30 p31 p32 p39 p40 p41 p42 p43 p44 p45 p46 p47 p48 p49 p50 p51 p52 p53 p54 p55 p56 p57 p58 p59 p60 p61 p62 p63 p64 p65 p66 p67 p68 p69 a' := ⟨nx.size.trans F.size, nx.defers.trans F.defers, nx.k F.s0 (by omega), nx.k F.s1 (by omega), nx.k F.s2 (by omega), nx.k F.s3 (by omega), nx.k F.s4 (by omega), nx.k F.s5 (by omega), nx.k F.s6 (by omega), nx.k F.s7 (by omega), nx.k F.s10 (by omega), nx.k F.s11 (by omega), nx.k F.s12 (by omega), nx.k F.s13 (by omega), nx.k F.s14 (by omega), nx.k F.s15 (by omega), nx.k F.s16 (by omega), nx.k F.s17 (by omega), nx.k F.s18 (by omega), nx.k F.s19 (by omega), nx.k F.s20 (by omega), nx.k F.s21 (by omega), nx.k F.s22 (by omega), nx.k F.s23 (by omega), nx.k F.s24 (by omega), nx.k F.s25 (by omega), nx.k F.s26 (by omega), nx.k F.s27 (by omega), nx.k F.s28 (by omega), nx.k F.s29 (by omega), nx.k F.s30 (by omega), nx.k F.s31 (by omega), nx.k F.s32 (by omega), nx.k F.s39 (by omega), nx.k F.s40 (by omega), nx.k F.s41 (by omega), nx.k F.s42 (by omega), nx.k F.s43 (by omega), nx.k F.s44 (by omega), nx.k F.s45 (by omega), nx.k F.s46 (by omega), nx.k F.s47 (by omega), nx.k F.s48 (by omega), nx.k F.s49 (by omega), nx.k F.s50 (by omega), nx.k F.s51 (by omega), nx.k F.s52 (by omega), nx.k F.s53 (by omega), nx.k F.s54 (by omega), nx.k F.s55 (by omega), nx.k F.s56 (by omega), nx.k F.s57 (by omega), nx.k F.s58 (by omega), nx.k F.s59 (by omega), nx.k F.s60 (by omega), nx.k F.s61 (by omega), nx.k F.s62 (by omega), nx.k F.s63 (by omega), nx.k F.s64 (by omega), nx.k F.s65 (by omega), nx.k F.s66 (by omega), nx.k F.s67 (by omega), nx.k F.s68 (by omega), nx.k F.s69 (by omega)⟩
theorem ScOwnFr.lt {p q b7 : Nat} {p0 p1 p2 p3 p6 p10 p11 p12 p13 p14 p15 p16 p17 p18 p19 p20 p21 p22 p23 p24 p25 p26 p27 p28 p29 p30 p31 p32 p39 p40 p41 p42 p43 p44 p45 p46 p47 p48 p49 p50 p51 p52 p53 p54 p55 p56 p57 p58 p59 p60 p61 p62 p63 p64 p65 p66 p67 p68 p69 : Value} {a : Act} {d : Nat} (F : ScOwnFr p q b7 p0 p1 p2 p3 p6 p10 p11 p12 p13 p14 p15 p16 p17 p18 p19 p20 p21 p22 p23 p24 p25 p26 p27 p28 p29 p30 p31 p32 p39 p40 p41 p42 p43 p44 p45 p46 p47 p48 p49 p50 p51 p52 p53 p54 p55 p56 p57 p58 p59 p60 p61 p62 p63 p64 p65 p66 p67 p68 p69 a) (h : d < 70) : d < a.tmps.size := by rw [F.size]; exact h
set_option maxRecDepth 100000 in
theorem scown_region {ops : Array Oper} {Q : Exit → Act → World → Prop} (R : Ord.Reg ops scownL) (hQ : ∀ c a w d v, Q (.panic c) (Act.put a (some d) v) w → Q (.panic c) a w) {w1 : World} {p q b7 : Nat} {r : Int} {p0 p1 p2 p3 p6 p10 p11 p12 p13 p14 p15 p16 p17 p18 p19 p20 p21 p22 p23 p24 p25 p26 p27 p28 p29 p30 p31 p32 p39 p40 p41 p42 p43 p44 p45 p46 p47 p48 p49 p50 p51 p52 p53 p54 p55 p56 p57 p58 p59 p60 p61 p62 p63 p64 p65 p66 p67 p68 p69 : Value} {P1 : World → Option Addr → Nat → Nat → Prop} {P2 : World → Option Addr → Nat → Nat → Option Addr → Nat → Nat → Prop}
  (k0 : ∀ w : World, w.heap[b7]? = w1.heap[b7]? → w.cell? ⟨b7, 0, none⟩ = some (.int .i64 1)) (k1 : ∀ w : World, w.heap[b7]? = w1.heap[b7]? → w.cell? ⟨b7, 1, none⟩ = some (.int .i32 r)) (k2 : ∀ w : World, w.heap[b7]? = w1.heap[b7]? → w.cell? ⟨b7, 2, none⟩ = some (.slice none 0 0)) (k3 : ∀ w : World, w.heap[b7]? = w1.heap[b7]? → w.cell? ⟨b7, 3, none⟩ = some (.string .empty))
  (C1 : Calls Tryz.prog 17 #[.pointer (some ⟨p, 0, none⟩), .agg #[.int .i64 1, .int .i32 r, .slice none 0 0, .string .empty]] w1 fun e w' => ∃ A m c, e = .returned (.slice A m c) ∧ P1 w' A m c)
  (C2 : ∀ w A8 m8 c8, P1 w A8 m8 c8 → Calls Tryz.prog 17 #[.pointer (some ⟨q, 0, none⟩), .agg #[.int .i64 1, .int .i32 r, .slice none 0 0, .string .empty]] w fun e w' => ∃ A m c, e = .returned (.slice A m c) ∧ P2 w' A8 m8 c8 A m c)
  (KS1 : ∀ w A m c, P1 w A m c → w.heap[b7]? = w1.heap[b7]?) (KS2 : ∀ w A m c A2 m2 c2, P2 w A m c A2 m2 c2 → w.heap[b7]? = w1.heap[b7]?)
  (a : Act) (F : ScOwnFr p q b7 p0 p1 p2 p3 p6 p10 p11 p12 p13 p14 p15 p16 p17 p18 p19 p20 p21 p22 p23 p24 p25 p26 p27 p28 p29 p30 p31 p32 p39 p40 p41 p42 p43 p44 p45 p46 p47 p48 p49 p50 p51 p52 p53 p54 p55 p56 p57 p58 p59 p60 p61 p62 p63 p64 p65 p66 p67 p68 p69 a) (h : ∀ a w A8 m8 c8 A9 m9 c9, P2 w A8 m8 c8 A9 m9 c9 → ScOwnFr p q b7 p0 p1 p2 p3 p6 p10 p11 p12 p13 p14 p15 p16 p17 p18 p19 p20 p21 p22 p23 p24 p25 p26 p27 p28 p29 p30 p31 p32 p39 p40 p41 p42 p43 p44 p45 p46 p47 p48 p49 p50 p51 p52 p53 p54 p55 p56 p57 p58 p59 p60 p61 p62 p63 p64 p65 p66 p67 p68 p69 a → Chain.At a 8 (.slice A8 m8 c8) → Chain.At a 9 (.slice A9 m9 c9) → Q .normal a w) :
  wpAnyH Tryz.prog .any ops Q (fun w => w.heap[b7]? = w1.heap[b7]?) 8 (List.replicate 8 false).toArray a w1 := by
 have hS : w1.heap[b7]? = w1.heap[b7]? := rfl
 refine Ord.take R (k := 0) (v := .pointer (some ⟨p, 0, none⟩)) (bs' := (Ord.upto 1 8)) rfl (by kernel_rfl) hQ trivial hS (fun w _ hS => Chain.ev_move F.s4.ev) (F.lt (by decide)) fun a0 N => ?_
 replace F := F.next N (by decide)
 have f33 := N.got
 clear N a
 refine Ord.take R (k := 1) (v := .agg #[.int .i64 1, .int .i32 r, .slice none 0 0, .string .empty]) (bs' := (Ord.upto 2 8)) rfl (by kernel_rfl) hQ trivial hS (fun w _ hS => by have e7 := F.s7; unfold Chain.At at e7; have q0 := (k0 w hS); have q1 := (k1 w hS); have q2 := (k2 w hS); have q3 := (k3 w hS); clear F; go_simp) (F.lt (by decide)) fun a1 N => ?_
 replace F := F.next N (by decide)
 replace f33 := N.keep 33 _ (by decide) f33
 have f34 := N.got
 clear N a0
 refine Ord.take R (k := 3) (v := .pointer (some ⟨q, 0, none⟩)) (bs' := [true, true, false, true, false, false, false, false]) rfl (by kernel_rfl) hQ trivial hS (fun w _ hS => Chain.ev_move F.s5.ev) (F.lt (by decide)) fun a3 N => ?_
 replace F := F.next N (by decide)
 replace f33 := N.keep 33 _ (by decide) f33
 replace f34 := N.keep 34 _ (by decide) f34
 have f36 := N.got
 clear N a1
 refine Ord.take R (k := 4) (v := .agg #[.int .i64 1, .int .i32 r, .slice none 0 0, .string .empty]) (bs' := [true, true, false, true, true, false, false, false]) rfl (by kernel_rfl) hQ trivial hS (fun w _ hS => by have e7 := F.s7; unfold Chain.At at e7; have q0 := (k0 w hS); have q1 := (k1 w hS); have q2 := (k2 w hS); have q3 := (k3 w hS); clear F; go_simp) (F.lt (by decide)) fun a4 N => ?_
 replace F := F.next N (by decide)
 replace f33 := N.keep 33 _ (by decide) f33
 replace f34 := N.keep 34 _ (by decide) f34
 replace f36 := N.keep 36 _ (by decide) f36
 have f37 := N.got
 clear N a3
 refine Ord.call R (k := 2) (args := #[.pointer (some ⟨p, 0, none⟩), .agg #[.int .i64 1, .int .i32 r, .slice none 0 0, .string .empty]]) (bs' := (Ord.upto 5 8)) rfl (by kernel_rfl) trivial (by simp [f33.ev, f34.ev]) (by kernel_rfl) (C1) (F.lt (by decide)) ?_
 rintro e w ⟨A8, m8, c8, rfl, K1⟩
 replace hS := KS1 w A8 m8 c8 K1
 refine ⟨_, rfl, hS, fun a2 N => ?_⟩
 replace F := F.next N (by decide)
 clear f33
 clear f34
 replace f36 := N.keep 36 _ (by decide) f36
 replace f37 := N.keep 37 _ (by decide) f37
 have f35 := N.got
 clear N a4
 refine Ord.call R (k := 5) (args := #[.pointer (some ⟨q, 0, none⟩), .agg #[.int .i64 1, .int .i32 r, .slice none 0 0, .string .empty]]) (bs' := (Ord.upto 6 8)) rfl (by kernel_rfl) trivial (by simp [f36.ev, f37.ev]) (by kernel_rfl) (C2 w A8 m8 c8 K1) (F.lt (by decide)) ?_
 rintro e w ⟨A9, m9, c9, rfl, K2⟩
 replace hS := KS2 w A8 m8 c8 A9 m9 c9 K2
 refine ⟨_, rfl, hS, fun a5 N => ?_⟩
 replace F := F.next N (by decide)
 replace f35 := N.keep 35 _ (by decide) f35
 clear f36
 clear f37
 have f38 := N.got
 clear N a2
 refine Ord.take R (k := 6) (v := .slice A8 m8 c8) (bs' := (Ord.upto 7 8)) rfl (by kernel_rfl) hQ trivial hS (fun w _ hS => Chain.ev_assign f35.ev) (F.lt (by decide)) fun a6 N => ?_
 replace F := F.next N (by decide)
 clear f35
 replace f38 := N.keep 38 _ (by decide) f38
 have f8 := N.got
 clear N a5
 refine Ord.take R (k := 7) (v := .slice A9 m9 c9) (bs' := (Ord.upto 8 8)) rfl (by kernel_rfl) hQ trivial hS (fun w _ hS => Chain.ev_assign f38.ev) (F.lt (by decide)) fun a7 N => ?_
 replace F := F.next N (by decide)
 replace f8 := N.keep 8 _ (by decide) f8
 clear f38
 have f9 := N.got
 clear N a6
 exact Ord.finish R (by kernel_rfl) (h _ _ _ _ _ _ _ _ K2 F f8 f9)
set_option maxRecDepth 100000 in
theorem scown_frame {a : Act} {w : World} {K : Act → World → Prop} {v0 v1 v2 v3 v4 v5 v6 v7 v8 v9 v10 v11 v12 v13 v14 v15 v16 v17 v18 v19 v20 v21 v22 v23 v24 v25 v26 v27 v28 v29 v30 v31 v32 v39 v40 v41 v42 v43 v44 v45 v46 v47 v48 v49 v50 v51 v52 v53 v54 v55 v56 v57 v58 v59 v60 v61 v62 v63 v64 v65 v66 v67 v68 v69 : Value} (hz : a.tmps.size = 70) (hd : a.defers = []) (f0 : Chain.At a 0 v0) (f1 : Chain.At a 1 v1) (f2 : Chain.At a 2 v2) (f3 : Chain.At a 3 v3) (f4 : Chain.At a 4 v4) (f5 : Chain.At a 5 v5) (f6 : Chain.At a 6 v6) (f7 : Chain.At a 7 v7) (f8 : Chain.At a 8 v8) (f9 : Chain.At a 9 v9) (f10 : Chain.At a 10 v10) (f11 : Chain.At a 11 v11) (f12 : Chain.At a 12 v12) (f13 : Chain.At a 13 v13) (f14 : Chain.At a 14 v14) (f15 : Chain.At a 15 v15) (f16 : Chain.At a 16 v16) (f17 : Chain.At a 17 v17) (f18 : Chain.At a 18 v18) (f19 : Chain.At a 19 v19) (f20 : Chain.At a 20 v20) (f21 : Chain.At a 21 v21) (f22 : Chain.At a 22 v22) (f23 : Chain.At a 23 v23) (f24 : Chain.At a 24 v24) (f25 : Chain.At a 25 v25) (f26 : Chain.At a 26 v26) (f27 : Chain.At a 27 v27) (f28 : Chain.At a 28 v28) (f29 : Chain.At a 29 v29) (f30 : Chain.At a 30 v30) (f31 : Chain.At a 31 v31) (f32 : Chain.At a 32 v32) (f39 : Chain.At a 39 v39) (f40 : Chain.At a 40 v40) (f41 : Chain.At a 41 v41) (f42 : Chain.At a 42 v42) (f43 : Chain.At a 43 v43) (f44 : Chain.At a 44 v44) (f45 : Chain.At a 45 v45) (f46 : Chain.At a 46 v46) (f47 : Chain.At a 47 v47) (f48 : Chain.At a 48 v48) (f49 : Chain.At a 49 v49) (f50 : Chain.At a 50 v50) (f51 : Chain.At a 51 v51) (f52 : Chain.At a 52 v52) (f53 : Chain.At a 53 v53) (f54 : Chain.At a 54 v54) (f55 : Chain.At a 55 v55) (f56 : Chain.At a 56 v56) (f57 : Chain.At a 57 v57) (f58 : Chain.At a 58 v58) (f59 : Chain.At a 59 v59) (f60 : Chain.At a 60 v60) (f61 : Chain.At a 61 v61) (f62 : Chain.At a 62 v62) (f63 : Chain.At a 63 v63) (f64 : Chain.At a 64 v64) (f65 : Chain.At a 65 v65) (f66 : Chain.At a 66 v66) (f67 : Chain.At a 67 v67) (f68 : Chain.At a 68 v68) (f69 : Chain.At a 69 v69)
  (h : ∀ u33 u34 u35 u36 u37 u38 : Value, K ⟨#[v0, v1, v2, v3, v4, v5, v6, v7, v8, v9, v10, v11, v12, v13, v14, v15, v16, v17, v18, v19, v20, v21, v22, v23, v24, v25, v26, v27, v28, v29, v30, v31, v32, u33, u34, u35, u36, u37, u38, v39, v40, v41, v42, v43, v44, v45, v46, v47, v48, v49, v50, v51, v52, v53, v54, v55, v56, v57, v58, v59, v60, v61, v62, v63, v64, v65, v66, v67, v68, v69], []⟩ w) : K a w := by
 have e := Ord.frame_out hz hd
 have r : (List.range 70).map (fun i => a.tmps.toList.getD i undef) = [a.tmps.toList.getD 0 undef, a.tmps.toList.getD 1 undef, a.tmps.toList.getD 2 undef, a.tmps.toList.getD 3 undef, a.tmps.toList.getD 4 undef, a.tmps.toList.getD 5 undef, a.tmps.toList.getD 6 undef, a.tmps.toList.getD 7 undef, a.tmps.toList.getD 8 undef, a.tmps.toList.getD 9 undef, a.tmps.toList.getD 10 undef, a.tmps.toList.getD 11 undef, a.tmps.toList.getD 12 undef, a.tmps.toList.getD 13 undef, a.tmps.toList.getD 14 undef, a.tmps.toList.getD 15 undef, a.tmps.toList.getD 16 undef, a.tmps.toList.getD 17 undef, a.tmps.toList.getD 18 undef, a.tmps.toList.getD 19 undef, a.tmps.toList.getD 20 undef, a.tmps.toList.getD 21 undef, a.tmps.toList.getD 22 undef, a.tmps.toList.getD 23 undef, a.tmps.toList.getD 24 undef, a.tmps.toList.getD 25 undef, a.tmps.toList.getD 26 undef, a.tmps.toList.getD 27 undef, a.tmps.toList.getD 28 undef, a.tmps.toList.getD 29 undef, a.tmps.toList.getD 30 undef, a.tmps.toList.getD 31 undef, a.tmps.toList.getD 32 undef, a.tmps.toList.getD 33 undef, a.tmps.toList.getD 34 undef, a.tmps.toList.getD 35 undef, a.tmps.toList.getD 36 undef, a.tmps.toList.getD 37 undef, a.tmps.toList.getD 38 undef, a.tmps.toList.getD 39 undef, a.tmps.toList.getD 40 undef, a.tmps.toList.getD 41 undef, a.tmps.toList.getD 42 undef, a.tmps.toList.getD 43 undef, a.tmps.toList.getD 44 undef, a.tmps.toList.getD 45 undef, a.tmps.toList.getD 46 undef, a.tmps.toList.getD 47 undef, a.tmps.toList.getD 48 undef, a.tmps.toList.getD 49 undef, a.tmps.toList.getD 50 undef, a.tmps.toList.getD 51 undef, a.tmps.toList.getD 52 undef, a.tmps.toList.getD 53 undef, a.tmps.toList.getD 54 undef, a.tmps.toList.getD 55 undef, a.tmps.toList.getD 56 undef, a.tmps.toList.getD 57 undef, a.tmps.toList.getD 58 undef, a.tmps.toList.getD 59 undef, a.tmps.toList.getD 60 undef, a.tmps.toList.getD 61 undef, a.tmps.toList.getD 62 undef, a.tmps.toList.getD 63 undef, a.tmps.toList.getD 64 undef, a.tmps.toList.getD 65 undef, a.tmps.toList.getD 66 undef, a.tmps.toList.getD 67 undef, a.tmps.toList.getD 68 undef, a.tmps.toList.getD 69 undef] := rfl
 rw [r, Ord.at_get f0, Ord.at_get f1, Ord.at_get f2, Ord.at_get f3, Ord.at_get f4, Ord.at_get f5, Ord.at_get f6, Ord.at_get f7, Ord.at_get f8, Ord.at_get f9, Ord.at_get f10, Ord.at_get f11, Ord.at_get f12, Ord.at_get f13, Ord.at_get f14, Ord.at_get f15, Ord.at_get f16, Ord.at_get f17, Ord.at_get f18, Ord.at_get f19, Ord.at_get f20, Ord.at_get f21, Ord.at_get f22, Ord.at_get f23, Ord.at_get f24, Ord.at_get f25, Ord.at_get f26, Ord.at_get f27, Ord.at_get f28, Ord.at_get f29, Ord.at_get f30, Ord.at_get f31, Ord.at_get f32, Ord.at_get f39, Ord.at_get f40, Ord.at_get f41, Ord.at_get f42, Ord.at_get f43, Ord.at_get f44, Ord.at_get f45, Ord.at_get f46, Ord.at_get f47, Ord.at_get f48, Ord.at_get f49, Ord.at_get f50, Ord.at_get f51, Ord.at_get f52, Ord.at_get f53, Ord.at_get f54, Ord.at_get f55, Ord.at_get f56, Ord.at_get f57, Ord.at_get f58, Ord.at_get f59, Ord.at_get f60, Ord.at_get f61, Ord.at_get f62, Ord.at_get f63, Ord.at_get f64, Ord.at_get f65, Ord.at_get f66, Ord.at_get f67, Ord.at_get f68, Ord.at_get f69] at e
 rw [e]
 exact h _ _ _ _ _ _
end Sc
end Go.Proofs.YtgcfpfhmjhkgnaaGreatDoor
