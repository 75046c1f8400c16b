import Derived.Test.YtmpoboffdfcpiaaGreatDoorQRow0
import Derived.Laws.MakeOwn
import Derived.StillTailTactics
set_option maxRecDepth 100000
set_option maxHeartbeats 6400000
namespace Go.Proofs.YtmpoboffdfcpiaaGreatDoor
open Go.ChangeShapes Go.WideShapes Go.ChangeAt Go.RowKit
namespace Rw
def isOneB : List Cel → Bool
 | [] => false
 | c :: l => (decide (l = []) && isB 0 c.1 c.2.1 c.2.2) || eqL (c :: l) (ofL c.1 c.2.2)
theorem isOne_walk (A : Option Addr) (m c2 : Nat) (L : List Cel) (w : World) (hs : Spans w) (hl : ∀ c ∈ L, -2147483648 ≤ c.1 ∧ c.1 ≤ 2147483647) (hm : m ≤ 1000000) (hq : Sq w w.heap.size 3 m A (flat L)) :
  Calls Tryz.prog 104 #[.slice A m c2] w fun e w' => e = .returned (.bool (isOneB L)) ∧ Below w.heap.size w w' := by
 have hln : L.length = m := by have := hq.len; rw [flat_length] at this; omega
 cases L with
 | nil =>
  obtain rfl : m = 0 := by simpa using hln.symm
  clear hq hs hl
  go_enter Tryz.func104, Tryz.ntmps104
  go_wp2
  go_ret
  exact ⟨rfl, Below.refl _ _⟩
 | cons c l =>
  have hm0 : 0 < m := by rw [← hln]; simp
  obtain ⟨b2, o2, rfl, hbl, x, hx, q0, q1, q2⟩ := hq.three hm0
  simp only [List.getElem?_cons_zero, Option.some.injEq] at hx
  subst hx
  simp only [Nat.zero_mul, Nat.add_zero] at q0 q1 q2
  obtain ⟨hr0, hr1⟩ := hl c (List.mem_cons_self ..)
  have Q := Lib.hid hq
  have S := Lib.hid hs
  have LN := Lib.hid hln
  have hmb : ((m : Int) == 0) = false := by simp; omega
  obtain ⟨r, wd, a⟩ := c
  simp only at q0 q1 q2 hr0 hr1
  have OF : ∀ w', Below w.heap.size w w' → Calls Tryz.prog 113 #[.int .i32 r, .int .i64 a] w' fun e w'' => OfPost (ofL r a) w' e w'' := fun w' hb => cellOf_walk r a hr0 hr1 w' (S.out.below hb S.out.size)
  have EW : ∀ (w' : World) (A3 : Option Addr) (c3 : Nat) {base : Nat}, Below w.heap.size w w' → HasC w' base (.slice A3 (ofL r a).length c3) (ofL r a) → Calls Tryz.prog 94 #[.slice (some ⟨b2, o2, none⟩) m c2, .slice A3 (ofL r a).length c3] w' fun e w'' => e = .returned (.bool (eqL ((r, wd, a) :: l) (ofL r a))) ∧ Below w'.heap.size w' w'' := fun w' A3 c3 base hb h3 =>
   slicesEq_walk _ _ _ _ _ _ _ _ w' hm (by unfold ofL; split <;> (try split) <;> (try split) <;> simp) ((Q.out.below hb).up hb.size) (HasC.sq h3)
  have CR : ∀ w', Below w.heap.size w w' → w'.cell? ⟨b2, o2, none⟩ = some (.int .i32 r) := fun w' hb => (hb.cell (p := ⟨b2, o2, none⟩) hbl).trans q0
  have CX : ∀ w', Below w.heap.size w w' → w'.cell? ⟨b2, o2 + 2, none⟩ = some (.int .i64 a) := fun w' hb => (hb.cell (p := ⟨b2, o2 + 2, none⟩) hbl).trans q2
  have hnil : (l = []) ↔ m = 1 := by
   rw [← hln]
   simp
  clear hq hs hl hln
  by_cases h1 : m = 1
  ·have hl0 : l = [] := hnil.2 h1
   subst h1
   have PW := Lib.hid (isPad_walk r wd a w)
   go_enter Tryz.func104, Tryz.ntmps104
   go_wp2_with fail
   refine PW.out.mono ?_
   rintro e w2 ⟨rfl, b2'⟩
   have B2 := Lib.hid b2'
   clear b2' PW q0 q1 q2
   cases hp : isB 0 r wd a with
   | true =>
    have RES := Lib.hid (show true = isOneB ((r, wd, a) :: l) by unfold isOneB; simp [hl0, hp])
    go_wp2_with fail
    refine Ord.start (S := fun w' => Below w2.heap.size w2 w') (n := 15) (by kernel_rfl) (by kernel_rfl) (Below.refl w2.heap.size w2).drew ?_
    apply one_yes (b2 := b2) (o2 := o2) (m := 1) (c2 := c2)
    case R => exact ⟨by kernel_rfl, by kernel_rfl⟩
    case hQ => exact fun _ _ _ _ _ h => h
    case F => exact ⟨rfl, rfl, rfl, rfl⟩
    case hS => exact (Below.refl w2.heap.size w2).drew
    intro a2 w9 hS9 F9 f2
    have DN := Lib.hid (show Below w.heap.size w w9 from B2.out.trans (hS9.mono B2.out.size))
    refine one_frame F9.size F9.defers F9.s0 f2 F9.s3 ?_
    intros
    try dsimp only
    clear OF EW CR CX F9 f2
    go_wp2
    go_ret
    exact ⟨ret_bool RES.out, DN.out⟩
   | false =>
    have RES := Lib.hid (show eqL ((r, wd, a) :: l) (ofL r a) = isOneB ((r, wd, a) :: l) by unfold isOneB; simp [hp])
    go_wp2_with fail
    refine Ord.start (S := fun w' => Below w2.heap.size w2 w') (n := 15) (by kernel_rfl) (by kernel_rfl) (Below.refl w2.heap.size w2).drew ?_
    apply one_no (b2 := b2) (o2 := o2) (m := 1) (c2 := c2) (r := r) (x := a) (q := eqL ((r, wd, a) :: l) (ofL r a)) (Lo := ofL r a)
    case R => exact ⟨by kernel_rfl, by kernel_rfl⟩
    case hQ => exact fun _ _ _ _ _ h => h
    case hm0 => exact hm0
    case cr => exact fun w' hb => CR w' (B2.out.trans (hb.mono B2.out.size))
    case cx => exact fun w' hb => CX w' (B2.out.trans (hb.mono B2.out.size))
    case OF => exact fun w' hb => OF w' (B2.out.trans (hb.mono B2.out.size))
    case EW => exact fun w' A3 c3 _ hb h3 => EW w' A3 c3 (B2.out.trans (hb.mono B2.out.size)) h3
    case F => exact ⟨rfl, rfl, rfl, rfl⟩
    case hS => exact (Below.refl w2.heap.size w2).drew
    intro a2 w9 hS9 F9 f2
    have DN := Lib.hid (show Below w.heap.size w w9 from B2.out.trans (hS9.mono B2.out.size))
    refine one_frame F9.size F9.defers F9.s0 f2 F9.s3 ?_
    intros
    try dsimp only
    clear OF EW CR CX F9 f2
    go_wp2
    go_ret
    exact ⟨ret_bool RES.out, DN.out⟩
  ·have hl0 : ¬ l = [] := fun e => h1 (hnil.1 e)
   have hm1 : ((m : Int) == 1) = false := by simp; omega
   go_enter Tryz.func104, Tryz.ntmps104
   have RES := Lib.hid (show eqL ((r, wd, a) :: l) (ofL r a) = isOneB ((r, wd, a) :: l) by unfold isOneB; simp [hl0])
   clear q0 q1 q2
   go_wp2_with fail
   refine Ord.start (S := fun w' => Below w.heap.size w w') (n := 15) (by kernel_rfl) (by kernel_rfl) (Below.refl w.heap.size w).drew ?_
   apply one_no (b2 := b2) (o2 := o2) (m := m) (c2 := c2) (r := r) (x := a) (q := eqL ((r, wd, a) :: l) (ofL r a)) (Lo := ofL r a)
   case R => exact ⟨by kernel_rfl, by kernel_rfl⟩
   case hQ => exact fun _ _ _ _ _ h => h
   case hm0 => exact hm0
   case cr => exact fun w' hb => CR w' (hb)
   case cx => exact fun w' hb => CX w' (hb)
   case OF => exact fun w' hb => OF w' (hb)
   case EW => exact fun w' A3 c3 _ hb h3 => EW w' A3 c3 (hb) h3
   case F => exact ⟨rfl, rfl, rfl, rfl⟩
   case hS => exact (Below.refl w.heap.size w).drew
   intro a2 w9 hS9 F9 f2
   have DN := Lib.hid (show Below w.heap.size w w9 from hS9)
   refine one_frame F9.size F9.defers F9.s0 f2 F9.s3 ?_
   intros
   try dsimp only
   clear OF EW CR CX F9 f2
   go_wp2
   go_ret
   exact ⟨ret_bool RES.out, DN.out⟩
end Rw
namespace Rw
abbrev U10RepR (k : Nat) := Ord.upto k 10
def repL : List Ord.Line := [
 (some 38, .move (.tmp 8), none, []),
 (some 39, .move (.tmp 7), none, []),
 (some 40, .move (.tmp 8), none, []),
 (some 41, .slice 51 (.tmp 39) (some (.tmp 40)) none none, none, [1, 2]),
 (some 42, .move (.tmp 7), none, []),
 (some 43, .move (.tmp 8), none, []),
 (some 44, .slice 51 (.tmp 42) none (some (.tmp 43)) none, none, [4, 5]),
 (some 45, .call { callee := .builtin .copy, args := #[.tmp 41, .tmp 44], argTypes := #[51, 51] }, none, [3, 6]),
 (some 46, .binOp .add 3 (.tmp 38) (.tmp 45) 3, none, [0, 7]),
 (some 8, .assign (.tmp 46), none, [8, 7, 0, 1, 2, 3, 4, 5, 6, 7, 8])]
structure RepFr (g cnt : Nat) (p0 p1 p2 p3 p4 p5 p6 p9 p10 p11 p12 p13 p14 p15 p16 p17 p18 p19 p20 p21 p22 p23 p24 p25 p26 p27 p28 p29 p30 p31 p32 p33 p47 : Value) (a : Act) : Prop where
 size : a.tmps.size = 48
 defers : a.defers = []
 s0 : Chain.At a 0 (p0)
 s1 : Chain.At a 1 (p1)
 s2 : Chain.At a 2 (p2)
 s3 : Chain.At a 3 (p3)
 s4 : Chain.At a 4 (p4)
 s5 : Chain.At a 5 (p5)
 s6 : Chain.At a 6 (p6)
 s9 : Chain.At a 9 (p9)
 s10 : Chain.At a 10 (p10)
 s11 : Chain.At a 11 (p11)
 s12 : Chain.At a 12 (p12)
 s13 : Chain.At a 13 (p13)
 s14 : Chain.At a 14 (p14)
 s15 : Chain.At a 15 (p15)
 s16 : Chain.At a 16 (p16)
 s17 : Chain.At a 17 (p17)
 s18 : Chain.At a 18 (p18)
 s19 : Chain.At a 19 (p19)
 s20 : Chain.At a 20 (p20)
 s21 : Chain.At a 21 (p21)
 s22 : Chain.At a 22 (p22)
 s23 : Chain.At a 23 (p23)
 s24 : Chain.At a 24 (p24)
 s25 : Chain.At a 25 (p25)
 s26 : Chain.At a 26 (p26)
 s27 : Chain.At a 27 (p27)
 s28 : Chain.At a 28 (p28)
 s29 : Chain.At a 29 (p29)
 s30 : Chain.At a 30 (p30)
 s31 : Chain.At a 31 (p31)
 s32 : Chain.At a 32 (p32)
 s33 : Chain.At a 33 (p33)
 s47 : Chain.At a 47 (p47)
 s7 : Chain.At a 7 (.slice (some ⟨g, 0, none⟩) cnt cnt)
theorem RepFr.next {g cnt : Nat} {p0 p1 p2 p3 p4 p5 p6 p9 p10 p11 p12 p13 p14 p15 p16 p17 p18 p19 p20 p21 p22 p23 p24 p25 p26 p27 p28 p29 p30 p31 p32 p33 p47 : Value} {a a' : Act} {d : Nat} {v : Value} (F : RepFr g cnt p0 p1 p2 p3 p4 p5 p6 p9 p10 p11 p12 p13 p14 p15 p16 p17 p18 p19 p20 p21 p22 p23 p24 p25 p26 p27 p28 p29 p30 p31 p32 p33 p47 a) (nx : Chain.Next a a' d v) (h : d ≠ 0 ∧ d ≠ 1 ∧ d ≠ 2 ∧ d ≠ 3 ∧ d ≠ 4 ∧ d ≠ 5 ∧ d ≠ 6 ∧ d ≠ 9 ∧ d ≠ 10 ∧ d ≠ 11 ∧ d ≠ 12 ∧ d ≠ 13 ∧ d ≠ 14 ∧ d ≠ 15 ∧ d ≠ 16 ∧ d ≠ 17 ∧ d ≠ 18 ∧ d ≠ 19 ∧ d ≠ 20 ∧ d ≠ 21 ∧ d ≠ 22 ∧ d ≠ 23 ∧ d ≠ 24 ∧ d ≠ 25 ∧ d ≠ 26 ∧ d ≠ 27 ∧ d ≠ 28 ∧ d ≠ 29 ∧ d ≠ 30 ∧ d ≠ 31 ∧ d ≠ 32 ∧ d ≠ 33 ∧ d ≠ 47 ∧ d ≠ 7 := by decide) : RepFr g cnt p0 p1 p2 p3 p4 p5 p6 p9 p10 p11 p12 p13 p14 p15 p16 p17 p18 p19 p20 p21 p22 p23 p24 p25 p26 p27 p28 p29 p30 p31 p32 p33 p47 a' := ⟨nx.size.trans F.size, nx.defers.trans F.defers, nx.k F.s0 (by omega), nx.k F.s1 (by omega), nx.k F.s2 (by omega), nx.k F.s3 (by omega), nx.k F.s4 (by omega), nx.k F.s5 (by omega), nx.k F.s6 (by omega), nx.k F.s9 (by omega), nx.k F.s10 (by omega), nx.k F.s11 (by omega), nx.k F.s12 (by omega), nx.k F.s13 (by omega), nx.k F.s14 (by omega), nx.k F.s15 (by omega), nx.k F.s16 (by omega), nx.k F.s17 (by omega), nx.k F.s18 (by omega), nx.k F.s19 (by omega), nx.k F.s20 (by omega), nx.k F.s21 (by omega), nx.k F.s22 (by omega), nx.k F.s23 (by omega), nx.k F.s24 (by omega), nx.k F.s25 (by omega), nx.k F.s26 (by omega), nx.k F.s27 (by omega), nx.k F.s28 (by omega), nx.k F.s29 (by omega), nx.k F.s30 (by omega), nx.k F.s31 (by omega), nx.k F.s32 (by omega), nx.k F.s33 (by omega), nx.k F.s47 (by omega), nx.k F.s7 (by omega)⟩
theorem RepFr.lt {g cnt : Nat} {p0 p1 p2 p3 p4 p5 p6 p9 p10 p11 p12 p13 p14 p15 p16 p17 p18 p19 p20 p21 p22 p23 p24 p25 p26 p27 p28 p29 p30 p31 p32 p33 p47 : Value} {a : Act} {d : Nat} (F : RepFr g cnt p0 p1 p2 p3 p4 p5 p6 p9 p10 p11 p12 p13 p14 p15 p16 p17 p18 p19 p20 p21 p22 p23 p24 p25 p26 p27 p28 p29 p30 p31 p32 p33 p47 a) (h : d < 48 := by decide) : d < a.tmps.size := by rw [F.size]; exact h
theorem rep_round {ops : Array Oper} {Q : Exit → Act → World → Prop} (R : Ord.Reg ops repL) (hQ : Ord.HQ Q) {w1 w9 : World} {g cnt n d : Nat} {p0 p1 p2 p3 p4 p5 p6 p9 p10 p11 p12 p13 p14 p15 p16 p17 p18 p19 p20 p21 p22 p23 p24 p25 p26 p27 p28 p29 p30 p31 p32 p33 p47 : Value}
  (hni : (n : Int) ≤ (cnt : Int)) (hn0 : (0 : Int) ≤ (n : Int)) (hnl : n < cnt) (hsub : cnt - n ≠ 0) (hcn : cnt ≠ 0) (hsum : IntKind.i64.wrap ((n : Int) + (d : Int)) = (n : Int) + (d : Int))
  (CP : ∀ ty, (Builtin.copy_ #[51, 51] ty #[.slice (some ⟨g, n * 3, none⟩) (cnt - n) (cnt - n), .slice (some ⟨g, 0, none⟩) n cnt]).run Tryz.prog w1 = .ok (.int .i64 (d : Int)) w9)
  (a : Act) (F : RepFr g cnt p0 p1 p2 p3 p4 p5 p6 p9 p10 p11 p12 p13 p14 p15 p16 p17 p18 p19 p20 p21 p22 p23 p24 p25 p26 p27 p28 p29 p30 p31 p32 p33 p47 a) (f8 : Chain.At a 8 (.int .i64 (n : Int))) (h : ∀ a, RepFr g cnt p0 p1 p2 p3 p4 p5 p6 p9 p10 p11 p12 p13 p14 p15 p16 p17 p18 p19 p20 p21 p22 p23 p24 p25 p26 p27 p28 p29 p30 p31 p32 p33 p47 a → Chain.At a 8 (.int .i64 ((n + d : Nat) : Int)) → Q .normal a w9) :
  wpAnyH Tryz.prog .any ops Q (fun w' => w' = w1 ∨ w' = w9) 10 (List.replicate 10 false).toArray a w1 := by
 have hS : w1 = w1 ∨ w1 = w9 := .inl rfl
 refine Ord.tj R 0 (.int .i64 (n : Int)) (U10RepR 1) rfl hQ trivial hS (fun w _ hS => Chain.ev_move f8.ev) F.lt fun a0 N => ?_
 replace F := F.next N
 replace f8 := N.k f8
 have f38 := N.got
 clear N a
 refine Ord.tk R 1 (.slice (some ⟨g, 0, none⟩) cnt cnt) rfl hQ hS (fun w _ hS => Chain.ev_move F.s7.ev) F.lt fun a1 N => ?_
 replace F := F.next N
 replace f8 := N.k f8
 replace f38 := N.k f38
 have f39 := N.got
 clear N a0
 refine Ord.tk R 2 (.int .i64 (n : Int)) rfl hQ hS (fun w _ hS => Chain.ev_move f8.ev) F.lt fun a2 N => ?_
 replace F := F.next N
 replace f8 := N.k f8
 replace f38 := N.k f38
 replace f39 := N.k f39
 have f40 := N.got
 clear N a1
 refine Ord.tk R 3 (.slice (some ⟨g, n * 3, none⟩) (cnt - n) (cnt - n)) rfl hQ hS (fun w _ hS => by have e39 := f39.u; have e40 := f40.u; have q0 := hni; have q1 := hn0; have q2 := hnl; have q3 := hsub; clear F; go_simp; omega) F.lt fun a3 N => ?_
 replace F := F.next N
 replace f8 := N.k f8
 replace f38 := N.k f38
 clear f39
 clear f40
 have f41 := N.got
 clear N a2
 refine Ord.tk R 4 (.slice (some ⟨g, 0, none⟩) cnt cnt) rfl hQ hS (fun w _ hS => Chain.ev_move F.s7.ev) F.lt fun a4 N => ?_
 replace F := F.next N
 replace f8 := N.k f8
 replace f38 := N.k f38
 replace f41 := N.k f41
 have f42 := N.got
 clear N a3
 refine Ord.tk R 5 (.int .i64 (n : Int)) rfl hQ hS (fun w _ hS => Chain.ev_move f8.ev) F.lt fun a5 N => ?_
 replace F := F.next N
 replace f8 := N.k f8
 replace f38 := N.k f38
 replace f41 := N.k f41
 replace f42 := N.k f42
 have f43 := N.got
 clear N a4
 refine Ord.tk R 6 (.slice (some ⟨g, 0, none⟩) n cnt) rfl hQ hS (fun w _ hS => by have e42 := f42.u; have e43 := f43.u; have q0 := hni; have q1 := hn0; have q2 := hnl; have q3 := hcn; clear F; go_simp) F.lt fun a6 N => ?_
 replace F := F.next N
 replace f8 := N.k f8
 replace f38 := N.k f38
 replace f41 := N.k f41
 clear f42
 clear f43
 have f44 := N.got
 clear N a5
 refine Ord.value R (k := 7) (v := .int .i64 (d : Int)) (w1 := w9) (bs' := U10RepR 8) rfl (by kernel_rfl) trivial (show w9 = w1 ∨ w9 = w9 from .inr rfl) (fun _ => by have e41 := f41.u; have e44 := f44.u; have q0 := CP; clear F; go_simp) F.lt fun a7 N => ?_
 replace hS := (show w9 = w1 ∨ w9 = w9 from .inr rfl)
 replace F := F.next N
 replace f8 := N.k f8
 replace f38 := N.k f38
 clear f41
 clear f44
 have f45 := N.got
 clear N a6
 refine Ord.tk R 8 (.int .i64 ((n + d : Nat) : Int)) rfl hQ hS (fun w _ hS => by have e38 := f38.u; have e45 := f45.u; have q0 := hsum; clear F; go_simp) F.lt fun a8 N => ?_
 replace F := F.next N
 replace f8 := N.k f8
 clear f38
 clear f45
 have f46 := N.got
 clear N a7
 refine Ord.tk R 9 (.int .i64 ((n + d : Nat) : Int)) rfl hQ hS (fun w _ hS => Chain.ev_assign f46.ev) F.lt fun a9 N => ?_
 replace F := F.next N
 clear f8
 clear f46
 have f8 := N.got
 clear N a8
 exact Ord.finish R (by kernel_rfl) (h _ F f8)
theorem rep_frame {a : Act} {w : World} {K : Act → World → Prop} {v0 v1 v2 v3 v4 v5 v6 v7 v8 v9 v10 v11 v12 v13 v14 v15 v16 v17 v18 v19 v20 v21 v22 v23 v24 v25 v26 v27 v28 v29 v30 v31 v32 v33 v47 : Value} (hz : a.tmps.size = 48) (hd : a.defers = []) (f0 : Chain.At a 0 v0) (f1 : Chain.At a 1 v1) (f2 : Chain.At a 2 v2) (f3 : Chain.At a 3 v3) (f4 : Chain.At a 4 v4) (f5 : Chain.At a 5 v5) (f6 : Chain.At a 6 v6) (f7 : Chain.At a 7 v7) (f8 : Chain.At a 8 v8) (f9 : Chain.At a 9 v9) (f10 : Chain.At a 10 v10) (f11 : Chain.At a 11 v11) (f12 : Chain.At a 12 v12) (f13 : Chain.At a 13 v13) (f14 : Chain.At a 14 v14) (f15 : Chain.At a 15 v15) (f16 : Chain.At a 16 v16) (f17 : Chain.At a 17 v17) (f18 : Chain.At a 18 v18) (f19 : Chain.At a 19 v19) (f20 : Chain.At a 20 v20) (f21 : Chain.At a 21 v21) (f22 : Chain.At a 22 v22) (f23 : Chain.At a 23 v23) (f24 : Chain.At a 24 v24) (f25 : Chain.At a 25 v25) (f26 : Chain.At a 26 v26) (f27 : Chain.At a 27 v27) (f28 : Chain.At a 28 v28) (f29 : Chain.At a 29 v29) (f30 : Chain.At a 30 v30) (f31 : Chain.At a 31 v31) (f32 : Chain.At a 32 v32) (f33 : Chain.At a 33 v33) (f47 : Chain.At a 47 v47)
  (h : ∀ u34 u35 u36 u37 u38 u39 u40 u41 u42 u43 u44 u45 u46 : Value, K ⟨#[v0, v1, v2, v3, v4, v5, v6, v7, v8, v9, v10, v11, v12, v13, v14, v15, v16, v17, v18, v19, v20, v21, v22, v23, v24, v25, v26, v27, v28, v29, v30, v31, v32, v33, u34, u35, u36, u37, u38, u39, u40, u41, u42, u43, u44, u45, u46, v47], []⟩ w) : K a w := by
 have e := Ord.frame_gets hz hd
 simp only [Ord.gets, Nat.reduceAdd] at e
 rw [Ord.at_get f0, Ord.at_get f1, Ord.at_get f2, Ord.at_get f3, Ord.at_get f4, Ord.at_get f5, Ord.at_get f6, Ord.at_get f7, Ord.at_get f8, Ord.at_get f9, Ord.at_get f10, Ord.at_get f11, Ord.at_get f12, Ord.at_get f13, Ord.at_get f14, Ord.at_get f15, Ord.at_get f16, Ord.at_get f17, Ord.at_get f18, Ord.at_get f19, Ord.at_get f20, Ord.at_get f21, Ord.at_get f22, Ord.at_get f23, Ord.at_get f24, Ord.at_get f25, Ord.at_get f26, Ord.at_get f27, Ord.at_get f28, Ord.at_get f29, Ord.at_get f30, Ord.at_get f31, Ord.at_get f32, Ord.at_get f33, Ord.at_get f47] at e
 rw [e]
 exact h _ _ _ _ _ _ _ _ _ _ _ _ _
end Rw
namespace Rw
def noughts (n : Nat) : List Cel := List.replicate n (0, 0, 0)
theorem made_list (n : Nat) : (List.range (n * 3)).map (fun i => (#[Value.int .i32 0, .int .i64 0, .int .i64 0] : Array Value)[i % 3]!) = flat (noughts n) := by
 induction n with
 | zero => rfl
 | succ n ih =>
  have e : noughts (n + 1) = noughts n ++ [(0, 0, 0)] := by unfold noughts; rw [List.replicate_succ']
  have h0 : n * 3 % 3 = 0 := by omega
  have h1 : (n * 3 + 1) % 3 = 1 := by omega
  have h2 : (n * 3 + 1 + 1) % 3 = 2 := by omega
  rw [show (n + 1) * 3 = n * 3 + 1 + 1 + 1 by omega, List.range_succ, List.range_succ, List.range_succ, List.map_append, List.map_append, List.map_append, ih, e, flat_append]
  simp only [List.map_cons, List.map_nil, h0, h1, h2, List.append_assoc]
  rfl
theorem made_noughts (n : Nat) : madeCells #[.int .i32 0, .int .i64 0, .int .i64 0] (n * 3) = (flat (noughts n) ++ []).toArray := by
 rw [List.append_nil, ← made_list]
 apply Array.ext'
 simp [madeCells]
theorem noughts_length (n : Nat) : (noughts n).length = n := List.length_replicate
theorem filled_length {n cnt : Nat} (h : n ≤ cnt) : (blanksL n ++ noughts (cnt - n)).length = cnt := by rw [List.length_append, blanksL_length, noughts_length]; omega
theorem blanks_append (n d : Nat) : blanksL n ++ blanksL d = blanksL (n + d) := List.replicate_append_replicate
theorem fill_more {n d cnt : Nat} (h : n + d ≤ cnt) : putO (blanksL n ++ noughts (cnt - n)) n (blanksL d) = blanksL (n + d) ++ noughts (cnt - (n + d)) := by
 unfold putO
 have h1 : (blanksL n ++ noughts (cnt - n)).take n = blanksL n := by
  have := List.take_left (l₁ := blanksL n) (l₂ := noughts (cnt - n))
  rwa [blanksL_length] at this
 have h2 : (blanksL n ++ noughts (cnt - n)).drop (n + d) = noughts (cnt - (n + d)) := by
  rw [List.drop_append, blanksL_length, List.drop_of_length_le (by rw [blanksL_length]; omega), List.nil_append]
  unfold noughts
  rw [List.drop_replicate]
  congr 1
  omega
 rw [h1, blanksL_length, h2, blanks_append]
abbrev Filled (w : World) (g n cnt : Nat) : Prop := RowIn' w g (blanksL n ++ noughts (cnt - n)) []
theorem repeat_walk (b0 cnt : Nat) (w : World) (hc : cnt ≤ 1000000) (h0 : w.heap[b0]? = some (.cells #[.int .i32 32, .int .i64 1, .int .i64 0] 62 (0, 0))) :
  Calls Tryz.prog 150 #[.slice (some ⟨b0, 0, none⟩) 1 1, .int .i64 (cnt : Int)] w fun e w' => ∃ g, e = .returned (.slice (some ⟨g, 0, none⟩) cnt cnt) ∧ w.heap.size ≤ g ∧ RowIn' w' g (blanksL cnt) [] ∧ Below w.heap.size w w' := by
 obtain ⟨i0, hi0, hz0, hz1, hz2⟩ := info_parts infoCell
 have hc0 : (0 : Int) ≤ (cnt : Int) := by omega
 have MW := Lib.hid (Tryz.bits_Mul 1 cnt (by omega) (by omega) w)
 have e1 : 1 * cnt / 18446744073709551616 = 0 := by omega
 have e2 : 1 * cnt % 18446744073709551616 = cnt := by omega
 rw [e1, e2] at MW
 have H0 := Lib.hid h0
 have hw2 : IntKind.i64.wrap (cnt : Int) = (cnt : Int) := IntWalk.i64_in _ (by omega)
 clear h0 e1 e2
 go_enter Tryz.func150, Tryz.ntmps150
 go_wp2_with fail
 refine MW.out.mono ?_
 rintro e w2 ⟨rfl, hw⟩
 subst hw
 have hc63 : ¬ ((9223372036854775807 : Int) < (cnt : Int)) := by omega
 have MK := run_make w2 51 62 i0 (.agg #[.int .i32 0, .int .i64 0, .int .i64 0]) Tryz.underlying51 hi0 hz0 .i64 .i64 (cnt : Int) (cnt : Int) hc0 (Int.le_refl _) (by rw [hz2]; omega) (by omega)
 rw [hz1, Int.toNat_natCast] at MK
 have b3 := (Below.refl w2.heap.size w2).alloc (Nat.le_refl _) (.cells (madeCells (Value.agg #[.int .i32 0, .int .i64 0, .int .i64 0]).cells (cnt * 3)) 62)
 have R3 := Lib.hid (show RowIn' (w2.alloc (.cells (madeCells (Value.agg #[.int .i32 0, .int .i64 0, .int .i64 0]).cells (cnt * 3)) 62)) w2.heap.size (noughts cnt) [] from ⟨by rw [← made_noughts]; exact heap_alloc_new w2 _⟩)
 have S3 := Lib.hid (show (w2.alloc (.cells (madeCells (Value.agg #[.int .i32 0, .int .i64 0, .int .i64 0]).cells (cnt * 3)) 62)).heap[b0]? = some (.cells #[.int .i32 32, .int .i64 1, .int .i64 0] 62 (0, 0)) from (b3.block b0 (Array.getElem?_eq_some_iff.1 H0.out).1).trans H0.out)
 have B3 := Lib.hid b3
 obtain ⟨w3, hw3⟩ : ∃ w3, w2.alloc (.cells (madeCells (Value.agg #[.int .i32 0, .int .i64 0, .int .i64 0]).cells (cnt * 3)) 62) = w3 := ⟨_, rfl⟩
 rw [hw3] at MK B3 R3 S3
 obtain ⟨g, hg⟩ : ∃ g, w2.heap.size = g := ⟨_, rfl⟩
 have HG := Lib.hid hg
 rw [hg] at MK R3
 clear b3 hw3 MW hg
 obtain ⟨n1, hn1⟩ : ∃ n1, Nat.min 1 cnt = n1 := ⟨_, rfl⟩
 have hn1c : n1 ≤ cnt ∧ n1 ≤ 1 ∧ (0 < cnt → 0 < n1) := by
  have : Nat.min 1 cnt = min 1 cnt := rfl
  omega
 obtain ⟨hn1a, hn1b, hn1d⟩ := hn1c
 have CP := run_copy_three (P := Tryz.prog) w3 51 51 3 62 i0 g 0 cnt cnt ⟨b0, 0, none⟩ 1 1 _ 62 (flat (blanksL n1)) Tryz.underlying51 hi0 hz1 R3.out.heap (by rw [flat_length, blanksL_length, hn1]) (fun j u hu => by
  have hj := (List.getElem?_eq_some_iff.1 hu).1
  rw [flat_length, blanksL_length] at hj
  obtain rfl : n1 = 1 := by omega
  rw [add_at', cell_of_row _ b0 _ _ _ (0, 0) S3.out, Nat.zero_add]
  simpa [blanksL, flat] using hu) (by have h1 := flat_length (noughts cnt); have h2 := flat_length (blanksL n1); rw [noughts_length] at h1; rw [blanksL_length] at h2; simp; omega) (flat_one _)
 have R4 := Lib.hid (R3.out.copied (k := 0) (L := blanksL n1) (by rw [noughts_length, blanksL_length]; omega))
 obtain ⟨w4, hw4⟩ : ∃ w4, w3.setRow g ((flat (noughts cnt) ++ []).toArray.toList.take (0 * 3) ++ flat (blanksL n1) ++ (flat (noughts cnt) ++ []).toArray.toList.drop (0 * 3 + (flat (blanksL n1)).length)).toArray = w4 := ⟨_, rfl⟩
 have B4 := Lib.hid (show Below w2.heap.size w2 w4 by rw [← hw4]; exact B3.out.trans ((Turned.ofOnly (onlyRow g _ _)).toBelow B3.out.size (fun k hk e => by have := HG.out; omega)))
 rw [hw4] at R4
 rw [hn1, show (0 : Nat) = 0 * 3 by omega, hw4] at CP
 have F4 := Lib.hid (show Filled w4 g n1 cnt by
  have h := R4.out
  have e := fill_more (n := 0) (d := n1) (cnt := cnt) (by omega)
  rw [show blanksL 0 ++ noughts (cnt - 0) = noughts cnt from rfl, Nat.zero_add] at e
  rw [e] at h
  exact h)
 clear hw4 R3 R4 S3 B3
 go_wp2_with fail
 go_loopw [8] (fun v8 wr => ∃ n : Nat, v8 = .int .i64 n ∧ n ≤ cnt ∧ (0 < cnt → 0 < n) ∧ Hid (Filled wr g n cnt) ∧ Hid (Below w2.heap.size w2 wr)) (fun v8 _ => cnt - (intOf v8).toNat)
 case atStart => exact ⟨n1, rfl, hn1a, hn1d, F4, B4⟩
 case round =>
  obtain ⟨n, rfl, hn, hnp, FN, BN⟩ := hrel
  by_cases hlt : n < cnt
  ·have hnp := hnp (by omega)
   obtain ⟨d, hd⟩ : ∃ d, Nat.min n (cnt - n) = d := ⟨_, rfl⟩
   have hd' : d ≤ n ∧ n + d ≤ cnt ∧ 0 < d := by
    have : Nat.min n (cnt - n) = min n (cnt - n) := rfl
    omega
   obtain ⟨hd1, hd2, hd3⟩ := hd'
   have hni : (n : Int) < (cnt : Int) := by omega
   go_wp2_with fail
   have RD := Lib.hid (show RowIn' wr.drew g (blanksL n ++ noughts (cnt - n)) [] from ⟨FN.out.heap⟩)
   have fl := flat_length (blanksL n ++ noughts (cnt - n))
   rw [filled_length hn] at fl
   have fb := flat_length (blanksL d)
   rw [blanksL_length] at fb
   have CQ := fun ty => run_copy_three (P := Tryz.prog) wr.drew 51 51 ty 62 i0 g (n * 3) (cnt - n) (cnt - n) ⟨g, 0, none⟩ n cnt _ 62 (flat (blanksL d)) Tryz.underlying51 hi0 hz1 RD.out.heap (by rw [fb, hd]) (fun j u hu => by
    have hj := (List.getElem?_eq_some_iff.1 hu).1
    rw [add_at', cell_of_row _ g _ _ _ (0, 0) RD.out.heap, Nat.zero_add]
    have hfn := flat_length (blanksL n)
    rw [blanksL_length] at hfn
    rw [List.append_nil, List.getElem?_toArray, flat_append, List.getElem?_append_left (by omega)]
    have e : blanksL n = blanksL d ++ blanksL (n - d) := by rw [blanks_append]; congr 1; omega
    rw [e, flat_append, List.getElem?_append_left hj]
    exact hu) (by simp only [List.append_nil, List.size_toArray]; omega) (flat_one _)
   have R9 := Lib.hid (RD.out.copied (k := n) (L := blanksL d) (by rw [filled_length hn, blanksL_length]; exact hd2))
   obtain ⟨w9, hw9⟩ : ∃ w9, wr.drew.setRow g ((flat (blanksL n ++ noughts (cnt - n)) ++ []).toArray.toList.take (n * 3) ++ flat (blanksL d) ++ (flat (blanksL n ++ noughts (cnt - n)) ++ []).toArray.toList.drop (n * 3 + (flat (blanksL d)).length)).toArray = w9 := ⟨_, rfl⟩
   have B9 := Lib.hid (show Below w2.heap.size w2 w9 by rw [← hw9]; exact BN.out.drew.trans ((Turned.ofOnly (onlyRow g _ _)).toBelow BN.out.drew.size (fun k hk e => by have := HG.out; omega)))
   rw [hw9, fill_more hd2] at R9
   rw [hw9, hd] at CQ
   have hsum : IntKind.i64.wrap ((n : Int) + (d : Int)) = (n : Int) + (d : Int) := IntWalk.i64_in _ (by omega)
   refine Ord.start (S := fun w' => w' = wr.drew ∨ w' = w9) (n := 10) (by kernel_rfl) (by kernel_rfl) (.inl rfl) ?_
   apply rep_round (w1 := wr.drew) (w9 := w9) (g := g) (cnt := cnt) (n := n) (d := d) (p0 := .slice (some ⟨b0, 0, none⟩) 1 1) (p1 := .int .i64 (cnt : Int)) (p2 := undef) (p3 := undef) (p4 := .slice none 0 0) (p5 := .int .u64 0) (p6 := .int .u64 (cnt : Int)) (p9 := .int .i64 (cnt : Int)) (p10 := .bool (decide ((cnt : Int) < 0))) (p11 := undef) (p12 := .tuple #[.int .u64 0, .int .u64 (cnt : Int)]) (p13 := .slice (some ⟨b0, 0, none⟩) 1 1) (p14 := .int .i64 1) (p15 := .int .u64 1) (p16 := .int .i64 (cnt : Int)) (p17 := .int .u64 (cnt : Int)) (p18 := .tuple #[.int .u64 0, .int .u64 (cnt : Int)]) (p19 := .int .u64 0) (p20 := .int .u64 (cnt : Int)) (p21 := .int .u64 0) (p22 := .bool false) (p23 := .bool false) (p24 := .int .u64 (cnt : Int)) (p25 := .bool (decide ((9223372036854775807 : Int) < (cnt : Int)))) (p26 := .bool (decide ((9223372036854775807 : Int) < (cnt : Int)))) (p27 := undef) (p28 := .int .u64 (cnt : Int)) (p29 := .int .i64 (cnt : Int)) (p30 := .slice (some ⟨g, 0, none⟩) cnt cnt) (p31 := .slice (some ⟨g, 0, none⟩) cnt cnt) (p32 := .slice (some ⟨b0, 0, none⟩) 1 1) (p33 := .int .i64 (n1 : Int)) (p47 := undef)
   case R => exact ⟨by kernel_rfl, by kernel_rfl⟩
   case hQ => exact fun _ _ _ _ _ h => h
   case hni => omega
   case hn0 => omega
   case hnl => exact hlt
   case hsub => omega
   case hcn => omega
   case hsum => exact hsum
   case CP => exact CQ
   case F => exact ⟨rfl, rfl, rfl, rfl, rfl, rfl, rfl, rfl, rfl, rfl, rfl, rfl, rfl, rfl, rfl, rfl, rfl, rfl, rfl, rfl, rfl, rfl, rfl, rfl, rfl, rfl, rfl, rfl, rfl, rfl, rfl, rfl, rfl, rfl, rfl, rfl⟩
   case f8 => rfl
   intro a2 F2 f8
   refine rep_frame F2.size F2.defers F2.s0 F2.s1 F2.s2 F2.s3 F2.s4 F2.s5 F2.s6 F2.s7 f8 F2.s9 F2.s10 F2.s11 F2.s12 F2.s13 F2.s14 F2.s15 F2.s16 F2.s17 F2.s18 F2.s19 F2.s20 F2.s21 F2.s22 F2.s23 F2.s24 F2.s25 F2.s26 F2.s27 F2.s28 F2.s29 F2.s30 F2.s31 F2.s32 F2.s33 F2.s47 ?_
   intros
   clear F2 f8 CQ
   try dsimp only
   go_wp2
   go_roundw
   case rel => exact ⟨n + d, by first | rfl | (congr 1; done) | (congr 1; omega), hd2, fun _ => by omega, R9, B9⟩
   case measure => first | (simp [intOf]; done) | (simp [intOf]; omega)
  ·obtain rfl : n = cnt := by omega
   have DN := Lib.hid (show RowIn' wr g (blanksL n) [] by
    have h := FN.out
    unfold Filled at h
    rw [Nat.sub_self] at h
    simpa [noughts] using h)
   go_wp2
   go_ret
   exact ⟨g, rfl, Nat.le_of_eq HG.out, DN.out, BN.out⟩
theorem blanks_walk (cnt : Nat) (w : World) (hc : cnt ≤ 1000000) :
  Calls Tryz.prog 101 #[.int .i64 (cnt : Int)] w fun e w' => ∃ g, e = .returned (.slice (some ⟨g, 0, none⟩) cnt cnt) ∧ w.heap.size ≤ g ∧ RowIn' w' g (blanksL cnt) [] ∧ Below w.heap.size w w' := by
 have BW := Lib.hid (blank_walk w)
 go_enter Tryz.func101, Tryz.ntmps101
 go_wp2_with fail
 refine BW.out.mono ?_
 rintro e w2 ⟨rfl, b2⟩
 have B2 := Lib.hid b2
 have b3 := (Below.refl w2.heap.size w2).alloc (Nat.le_refl _) (.cells #[.int .i32 32, .int .i64 1, .int .i64 0] 62)
 have RW := Lib.hid (repeat_walk w2.heap.size cnt (w2.alloc (.cells #[.int .i32 32, .int .i64 1, .int .i64 0] 62)) hc (heap_alloc_new w2 _))
 have B3 := Lib.hid b3
 clear b2 b3 BW
 go_wp2_with fail
 refine RW.out.mono ?_
 rintro e w4 ⟨g, rfl, hg, r4, b4⟩
 have B34 := B3.out.trans (b4.mono B3.out.size)
 have DN := Lib.hid (And.intro (show w.heap.size ≤ g from Nat.le_trans B2.out.size (Nat.le_trans B3.out.size hg)) (And.intro r4 (B2.out.trans (B34.mono B2.out.size))))
 clear hg r4 b4 RW B34
 go_wp2
 go_ret
 exact ⟨g, rfl, DN.out⟩
end Rw
namespace Rw
theorem rowIn_of {w : World} {base n c : Nat} {A : Option Addr} {l : List Cel} (h : HasC w base (.slice A n c) l) (hn : 0 < n) : ∃ g tail, A = some ⟨g, 0, none⟩ ∧ base ≤ g ∧ n ≤ c ∧ RowIn' w g l tail ∧ ∀ (W : World) (l' : List Cel), l'.length = n → RowIn' W g l' tail → HasC W base (.slice (some ⟨g, 0, none⟩) n c) l' := by
 have hl : l.length = n := by
  obtain ⟨A', c', e, _⟩ := HasC.shape h
  injection e with _ e _
  exact e.symm
 unfold HasC at h
 rcases h.2 with ⟨e, h0⟩ | ⟨g, cap, cur, e, e2, e3, e4, e5, e6, e7⟩
 ·omega
 ·injection e with ea eb ec
  subst ea ec
  rw [hl] at e4 e7
  have hcur : cur = (flat l ++ cur.toList.drop (n * 3)).toArray := by
   apply Array.ext'
   rw [← e7]
   simp
  refine ⟨g, cur.toList.drop (n * 3), rfl, e2, e4, ⟨by rw [← hcur]; exact e3⟩, fun W l' hl' hR => ?_⟩
  unfold HasC
  have hfl := flat_length l'
  have hsz : cur.toList.length = c * 3 := by rw [Array.length_toList]; exact e6
  refine ⟨flat_length l', .inr ⟨g, c, _, by rw [hl'], e2, hR.heap, by omega, e5, ?_, ?_⟩⟩
  ·simp only [List.size_toArray, List.length_append, List.length_drop]
   omega
  ·show (flat l' ++ cur.toList.drop (n * 3)).take (l'.length * 3) = flat l'
   rw [← hfl, List.take_left]
def setOk (l : List Cel) (col : Int) (L : List Cel) : Bool := mayL l && isOneB L && decide (0 ≤ col) && decide (col ≤ (l.length : Int) - (L.length : Int))
def setRes (l : List Cel) (col : Int) (L : List Cel) : List Cel := if setOk l col L then ovL l col.toNat L else l
def SetPost (ok : Bool) (wrap : Bool) (l : List Cel) (w : World) (e : Ending) (w' : World) : Prop := ∃ A n c, e = .returned (.tuple #[.agg #[.slice A n c, .bool wrap], .bool ok]) ∧ HasC w' w.heap.size (.slice A n c) l ∧ Below w.heap.size w w'
theorem rowSet_walk (A : Option Addr) (n c : Nat) (wrap : Bool) (l : List Cel) (col : Int) (A2 : Option Addr) (m c2 : Nat) (L : List Cel) (w : World) (hs : Spans w) (hl : ∀ c ∈ l, -2147483648 ≤ c.1 ∧ c.1 ≤ 2147483647) (hL : ∀ c ∈ L, -2147483648 ≤ c.1 ∧ c.1 ≤ 2147483647) (hq : Sq w w.heap.size 3 n A (flat l)) (hn : n ≤ 1000000) (hm : m ≤ 1000000) (hq2 : Sq w w.heap.size 3 m A2 (flat L)) :
  Calls Tryz.prog 47 #[rowV A n c wrap, .int .i64 col, .slice A2 m c2] w fun e w' => SetPost (setOk l col L) wrap (setRes l col L) w e w' := by
 have hln : l.length = n := by have := hq.len; rw [flat_length] at this; omega
 have hLm : L.length = m := by have := hq2.len; rw [flat_length] at this; omega
 have Q := Lib.hid hq
 have Q2 := Lib.hid hq2
 have S := Lib.hid hs
 have HL := Lib.hid hl
 have HL2 := Lib.hid hL
 have LN := Lib.hid hln
 have LM := Lib.hid hLm
 clear hq hq2 hs hl hL hln hLm
 go_enter Tryz.func47, Tryz.ntmps47
 go_wp2_with fail
 have ba := ((Below.refl w.heap.size w).alloc (Nat.le_refl _) (.cells #[.slice A n c, .bool wrap] 58)).alloc (by simp) (.cells #[.slice none 0 0, .bool false] 58)
 have r0 : RowAt ((w.alloc (.cells #[.slice A n c, .bool wrap] 58)).alloc (.cells #[.slice none 0 0, .bool false] 58)) w.heap.size (.slice A n c) wrap := (Below.heap_alloc _ _ _ (by simp)).trans (heap_alloc_new w _)
 have z0 : RowAt ((w.alloc (.cells #[.slice A n c, .bool wrap] 58)).alloc (.cells #[.slice none 0 0, .bool false] 58)) (w.heap.size + 1) (.slice none 0 0) false := by
  have h := heap_alloc_new (w.alloc (.cells #[.slice A n c, .bool wrap] 58)) (.cells #[.slice none 0 0, .bool false] 58)
  rw [World.size_alloc] at h
  exact h
 have sa : ((w.alloc (.cells #[.slice A n c, .bool wrap] 58)).alloc (.cells #[.slice none 0 0, .bool false] 58)).heap.size = w.heap.size + 2 := by simp
 generalize (w.alloc (.cells #[.slice A n c, .bool wrap] 58)).alloc (.cells #[.slice none 0 0, .bool false] 58) = wa at ba r0 z0 sa ⊢
 obtain ⟨g0, hg0⟩ : ∃ g0, w.heap.size = g0 := ⟨_, rfl⟩
 obtain ⟨g1, hg1⟩ : ∃ g1, g0 + 1 = g1 := ⟨_, rfl⟩
 rw [hg0, hg1] at z0
 rw [hg0] at r0 sa
 have HGW := Lib.hid (show w.heap.size + 2 = wa.heap.size by omega)
 have HG1 := Lib.hid (show w.heap.size ≤ g1 by omega)
 rw [hg0, hg1]
 refine (copied_walk A n c wrap l wa ((Q.out.below ba).up ba.size) hn).mono ?_
 rintro e w3 ⟨v3, rfl, hv3, b3⟩
 obtain ⟨A3, c3, rfl, hc3⟩ := HasC.shape hv3
 rw [LN.out] at hv3 hc3 ⊢
 have bw3 := ba.trans (b3.mono ba.size)
 have b4 := (Below.refl w3.heap.size w3).alloc (Nat.le_refl _) (.cells #[.slice A3 n c3, .bool wrap] 58)
 obtain ⟨g8, hg8⟩ : ∃ g8, w3.heap.size = g8 := ⟨_, rfl⟩
 have R8 := Lib.hid (show RowAt (w3.alloc (.cells #[.slice A3 n c3, .bool wrap] 58)) g8 (.slice A3 n c3) wrap by rw [← hg8]; exact heap_alloc_new w3 _)
 have r03 : RowAt w3 g0 (.slice A n c) wrap := (b3.block g0 r0.lt).trans r0
 have z03 : RowAt w3 g1 (.slice none 0 0) false := (b3.block g1 z0.lt).trans z0
 have R0 := Lib.hid (show RowAt (w3.alloc (.cells #[.slice A3 n c3, .bool wrap] 58)) g0 (.slice A n c) wrap from (b4.block g0 r03.lt).trans r03)
 have Z0 := Lib.hid (show RowAt (w3.alloc (.cells #[.slice A3 n c3, .bool wrap] 58)) g1 (.slice none 0 0) false from (b4.block g1 z03.lt).trans z03)
 have HV := Lib.hid (HasC.keep (w' := w3.alloc (.cells #[.slice A3 n c3, .bool wrap] 58)) hv3 (fun j e => b4.block j (HasC.lt hv3 j e).2))
 have B4 := Lib.hid (bw3.trans (b4.mono bw3.size))
 have hne8 : g8 ≠ g1 := by have := z03.lt; omega
 have NG1 := Lib.hid (show ∀ j, (Value.slice A3 n c3).ownBlock = some j → j ≠ g1 from fun j e e2 => by have := (HasC.lt hv3 j e).1; omega)
 have NG8 := Lib.hid (show ∀ j, (Value.slice A3 n c3).ownBlock = some j → j ≠ g8 from fun j e e2 => by have := (HasC.lt hv3 j e).2; omega)
 have NB := Lib.hid (show ∀ j, (Value.slice A3 n c3).ownBlock = some j → w.heap.size ≤ j from fun j e => by have := (HasC.lt hv3 j e).1; omega)
 have y0 : w3.cell? ⟨g0, 0, none⟩ = some (.slice A n c) := r03.get 0
 have y1 : w3.cell? ⟨g0, 1, none⟩ = some (.bool wrap) := r03.get 1
 have hl0 := r03.lt
 have HG8 := Lib.hid hg8
 clear ba r0 z0 sa b3 hv3 bw3 b4 r03 z03 hg0 hg1 hg8
 go_wp2_with fail
 rw [HG8.out]
 clear y0 y1 hl0
 generalize w3.alloc (.cells #[.slice A3 n c3, .bool wrap] 58) = w4 at R8 R0 Z0 HV B4 ⊢
 refine (packMay_walk A n c wrap l w4 (S.out.below B4.out S.out.size) HL.out ((Q.out.below B4.out).up B4.out.size) hn).mono ?_
 rintro e w5 ⟨rfl, b5⟩
 have R8x := Lib.hid (show RowAt w5 g8 (.slice A3 n c3) wrap from (b5.block g8 R8.out.lt).trans R8.out)
 have R0x := Lib.hid (show RowAt w5 g0 (.slice A n c) wrap from (b5.block g0 R0.out.lt).trans R0.out)
 have Z0x := Lib.hid (show RowAt w5 g1 (.slice none 0 0) false from (b5.block g1 Z0.out.lt).trans Z0.out)
 have HVx := Lib.hid (HasC.keep (w' := w5) HV.out (fun j e => b5.block j (HasC.lt HV.out j e).2))
 have Bx := Lib.hid (B4.out.trans (b5.mono B4.out.size))
 clear b5 R8 R0 Z0 HV B4
 have DNF := Lib.hid (fun (hok : setOk l col L = false) (W : World) (hv : HasC W wa.heap.size (.slice A3 n c3) l) (hb : Below w.heap.size w W) => (show SetPost (setOk l col L) wrap (setRes l col L) w (.returned (.tuple #[.agg #[.slice A3 n c3, .bool wrap], .bool false])) W by
  rw [hok, show setRes l col L = l by unfold setRes; rw [hok, if_neg (by decide)]]
  exact ⟨A3, n, c3, rfl, HasC.mono hv (by have := HGW.out; omega), hb⟩))
 obtain ⟨mb, hmb⟩ : ∃ mb, mayL l = mb := ⟨_, rfl⟩
 have MB := Lib.hid hmb
 rw [hmb]
 clear hmb
 cases mb with
 | false =>
  have DN := Lib.hid (DNF.out (by unfold setOk; rw [MB.out]; rfl))
  clear DNF
  have k80 : w5.cell? ⟨g8, 0, none⟩ = some (.slice A3 n c3) := R8x.out.get 0
  have k81 : w5.cell? ⟨g8, 1, none⟩ = some (.bool wrap) := R8x.out.get 1
  have z0 : w5.cell? ⟨g1, 0, none⟩ = some (.slice none 0 0) := Z0x.out.get 0
  have z1 : w5.cell? ⟨g1, 1, none⟩ = some (.bool false) := Z0x.out.get 1
  have zf0 := Z0x.out.free 0
  have zf1 := Z0x.out.free 1
  have RF := Lib.hid (RowAt.put2 Z0x.out (.slice A3 n c3) wrap)
  have OF := (OnlyRow.cell g1 0 w5 (.slice A3 n c3)).trans (OnlyRow.cell g1 1 _ (.bool wrap))
  have HF := Lib.hid (HasC.keep HVx.out (fun j e => OF.block j (NG1.out j e)))
  have BF := Lib.hid (Bx.out.trans ((Turned.ofOnly OF).toBelow Bx.out.size (fun k hk e => by have := HG1.out; omega)))
  clear OF
  go_wp2
  generalize (w5.setCell ⟨g1, 0, none⟩ (.slice A3 n c3)).setCell ⟨g1, 1, none⟩ (.bool wrap) = wz at RF HF BF ⊢
  have e0 : wz.cell? ⟨g1, 0, none⟩ = some (.slice A3 n c3) := RF.out.get 0
  have e1 : wz.cell? ⟨g1, 1, none⟩ = some (.bool wrap) := RF.out.get 1
  exact bodyPost_ret (v := .tuple #[.agg #[.slice A3 n c3, .bool wrap], .bool false]) (by simp [results, Tryz.results47, go_sem, e0, e1]) rfl (DN.out wz HF.out BF.out)
 | true =>
  go_wp2_with fail
  refine (isOne_walk A2 m c2 L w5 (S.out.below Bx.out S.out.size) HL2.out hm ((Q2.out.below Bx.out).up Bx.out.size)).mono ?_
  rintro e w6 ⟨rfl, b6⟩
  have R8y := Lib.hid (show RowAt w6 g8 (.slice A3 n c3) wrap from (b6.block g8 R8x.out.lt).trans R8x.out)
  have R0y := Lib.hid (show RowAt w6 g0 (.slice A n c) wrap from (b6.block g0 R0x.out.lt).trans R0x.out)
  have Z0y := Lib.hid (show RowAt w6 g1 (.slice none 0 0) false from (b6.block g1 Z0x.out.lt).trans Z0x.out)
  have HVy := Lib.hid (HasC.keep (w' := w6) HVx.out (fun j e => b6.block j (HasC.lt HVx.out j e).2))
  have By := Lib.hid (Bx.out.trans (b6.mono Bx.out.size))
  clear b6 R8x R0x Z0x HVx Bx
  obtain ⟨ob, hob⟩ : ∃ ob, isOneB L = ob := ⟨_, rfl⟩
  have OB := Lib.hid hob
  rw [hob]
  clear hob
  cases ob with
  | false =>
   have DN := Lib.hid (DNF.out (by unfold setOk; rw [MB.out, OB.out]; rfl))
   clear DNF
   have k80 : w6.cell? ⟨g8, 0, none⟩ = some (.slice A3 n c3) := R8y.out.get 0
   have k81 : w6.cell? ⟨g8, 1, none⟩ = some (.bool wrap) := R8y.out.get 1
   have z0 : w6.cell? ⟨g1, 0, none⟩ = some (.slice none 0 0) := Z0y.out.get 0
   have z1 : w6.cell? ⟨g1, 1, none⟩ = some (.bool false) := Z0y.out.get 1
   have zf0 := Z0y.out.free 0
   have zf1 := Z0y.out.free 1
   have RF := Lib.hid (RowAt.put2 Z0y.out (.slice A3 n c3) wrap)
   have OF := (OnlyRow.cell g1 0 w6 (.slice A3 n c3)).trans (OnlyRow.cell g1 1 _ (.bool wrap))
   have HF := Lib.hid (HasC.keep HVy.out (fun j e => OF.block j (NG1.out j e)))
   have BF := Lib.hid (By.out.trans ((Turned.ofOnly OF).toBelow By.out.size (fun k hk e => by have := HG1.out; omega)))
   clear OF
   go_wp2
   generalize (w6.setCell ⟨g1, 0, none⟩ (.slice A3 n c3)).setCell ⟨g1, 1, none⟩ (.bool wrap) = wz at RF HF BF ⊢
   have e0 : wz.cell? ⟨g1, 0, none⟩ = some (.slice A3 n c3) := RF.out.get 0
   have e1 : wz.cell? ⟨g1, 1, none⟩ = some (.bool wrap) := RF.out.get 1
   exact bodyPost_ret (v := .tuple #[.agg #[.slice A3 n c3, .bool wrap], .bool false]) (by simp [results, Tryz.results47, go_sem, e0, e1]) rfl (DN.out wz HF.out BF.out)
  | true =>
   by_cases hc0 : col < 0
   ·have DN := Lib.hid (DNF.out (by unfold setOk; rw [decide_eq_false (show ¬ 0 ≤ col by omega)]; simp))
    clear DNF
    have k80 : w6.cell? ⟨g8, 0, none⟩ = some (.slice A3 n c3) := R8y.out.get 0
    have k81 : w6.cell? ⟨g8, 1, none⟩ = some (.bool wrap) := R8y.out.get 1
    have z0 : w6.cell? ⟨g1, 0, none⟩ = some (.slice none 0 0) := Z0y.out.get 0
    have z1 : w6.cell? ⟨g1, 1, none⟩ = some (.bool false) := Z0y.out.get 1
    have zf0 := Z0y.out.free 0
    have zf1 := Z0y.out.free 1
    have RF := Lib.hid (RowAt.put2 Z0y.out (.slice A3 n c3) wrap)
    have OF := (OnlyRow.cell g1 0 w6 (.slice A3 n c3)).trans (OnlyRow.cell g1 1 _ (.bool wrap))
    have HF := Lib.hid (HasC.keep HVy.out (fun j e => OF.block j (NG1.out j e)))
    have BF := Lib.hid (By.out.trans ((Turned.ofOnly OF).toBelow By.out.size (fun k hk e => by have := HG1.out; omega)))
    clear OF
    go_wp2
    generalize (w6.setCell ⟨g1, 0, none⟩ (.slice A3 n c3)).setCell ⟨g1, 1, none⟩ (.bool wrap) = wz at RF HF BF ⊢
    have e0 : wz.cell? ⟨g1, 0, none⟩ = some (.slice A3 n c3) := RF.out.get 0
    have e1 : wz.cell? ⟨g1, 1, none⟩ = some (.bool wrap) := RF.out.get 1
    exact bodyPost_ret (v := .tuple #[.agg #[.slice A3 n c3, .bool wrap], .bool false]) (by simp [results, Tryz.results47, go_sem, e0, e1]) rfl (DN.out wz HF.out BF.out)
   ·have hcd : decide (col < 0) = false := by simp; omega
    have hsub : IntKind.i64.wrap ((n : Int) - (m : Int)) = (n : Int) - (m : Int) := IntWalk.i64_in _ (by omega)
    have y0 : w6.cell? ⟨g0, 0, none⟩ = some (.slice A n c) := R0y.out.get 0
    by_cases hcn : (n : Int) - (m : Int) < col
    ·have DN := Lib.hid (DNF.out (by unfold setOk; rw [LN.out, LM.out, decide_eq_false (show ¬ col ≤ (n : Int) - (m : Int) by omega)]; simp))
     clear DNF
     have k80 : w6.cell? ⟨g8, 0, none⟩ = some (.slice A3 n c3) := R8y.out.get 0
     have k81 : w6.cell? ⟨g8, 1, none⟩ = some (.bool wrap) := R8y.out.get 1
     have z0 : w6.cell? ⟨g1, 0, none⟩ = some (.slice none 0 0) := Z0y.out.get 0
     have z1 : w6.cell? ⟨g1, 1, none⟩ = some (.bool false) := Z0y.out.get 1
     have zf0 := Z0y.out.free 0
     have zf1 := Z0y.out.free 1
     have RF := Lib.hid (RowAt.put2 Z0y.out (.slice A3 n c3) wrap)
     have OF := (OnlyRow.cell g1 0 w6 (.slice A3 n c3)).trans (OnlyRow.cell g1 1 _ (.bool wrap))
     have HF := Lib.hid (HasC.keep HVy.out (fun j e => OF.block j (NG1.out j e)))
     have BF := Lib.hid (By.out.trans ((Turned.ofOnly OF).toBelow By.out.size (fun k hk e => by have := HG1.out; omega)))
     clear OF
     go_wp2
     generalize (w6.setCell ⟨g1, 0, none⟩ (.slice A3 n c3)).setCell ⟨g1, 1, none⟩ (.bool wrap) = wz at RF HF BF ⊢
     have e0 : wz.cell? ⟨g1, 0, none⟩ = some (.slice A3 n c3) := RF.out.get 0
     have e1 : wz.cell? ⟨g1, 1, none⟩ = some (.bool wrap) := RF.out.get 1
     exact bodyPost_ret (v := .tuple #[.agg #[.slice A3 n c3, .bool wrap], .bool false]) (by simp [results, Tryz.results47, go_sem, e0, e1]) rfl (DN.out wz HF.out BF.out)
    ·obtain ⟨k, rfl⟩ := Int.eq_ofNat_of_zero_le (show 0 ≤ col by omega)
     have hL0 : 0 < m := by
      rcases Nat.eq_zero_or_pos m with h0 | h0
      ·have e : L = [] := List.eq_nil_of_length_eq_zero (by rw [LM.out]; exact h0)
       have := OB.out
       rw [e] at this
       cases this
      ·exact h0
     have hkm : k + m ≤ n := by omega
     have hok : setOk l (k : Int) L = true := by
      unfold setOk
      rw [MB.out, OB.out, LN.out, LM.out, decide_eq_true (show (0 : Int) ≤ (k : Int) by omega), decide_eq_true (show (k : Int) ≤ (n : Int) - (m : Int) by omega)]
      rfl
     have DNT := Lib.hid (fun (W : World) (hv : HasC W wa.heap.size (.slice A3 n c3) (ovL l k L)) (hb : Below w.heap.size w W) => (show SetPost (setOk l (k : Int) L) wrap (setRes l (k : Int) L) w (.returned (.tuple #[.agg #[.slice A3 n c3, .bool wrap], .bool true])) W by
      have e : setRes l (k : Int) L = ovL l k L := by unfold setRes; rw [hok, if_pos rfl]; rfl
      rw [e, hok]
      exact ⟨A3, n, c3, rfl, HasC.mono hv (by have := HGW.out; omega), hb⟩))
     obtain ⟨gg, tail, rfl, hgb, hnc, RI, CV⟩ := rowIn_of HVy.out (by omega)
     have G := ((mayL_iff l).1 MB.out).2
     obtain ⟨b2, o2, rfl, hb2, hcl⟩ := Q2.out.spot hL0
     have hgw := NB.out gg rfl
     have hg8 := NG8.out gg rfl
     have hgg1 := NG1.out gg rfl
     have OW := Lib.hid (overwrite_walk gg n c3 k b2 o2 m c2 l L tail w6 RI LN.out hnc hn G LM.out hL0 hkm (fun W' ht j u hu => by
      rw [add_at']
      have hlt6 : b2 < w6.heap.size := Nat.lt_of_lt_of_le hb2 By.out.size
      have e1 : W'.cell? ⟨b2, o2 + j, none⟩ = w6.cell? ⟨b2, o2 + j, none⟩ := World.cell?_of_block (ht.block b2 hlt6 (by omega))
      rw [e1, By.out.cell (p := ⟨b2, o2 + j, none⟩) hb2]
      exact hcl j u hu))
     have CV' := Lib.hid CV
     have k80 : w6.cell? ⟨g8, 0, none⟩ = some (.slice (some ⟨gg, 0, none⟩) n c3) := R8y.out.get 0
     clear DNF RI CV hcl HVy
     go_wp2_with fail
     refine OW.out.mono ?_
     rintro e w7 ⟨⟨_, rfl⟩, RI7, T7⟩
     have R8z := Lib.hid (show RowAt w7 g8 (.slice (some ⟨gg, 0, none⟩) n c3) wrap from (T7.block g8 R8y.out.lt (by omega)).trans R8y.out)
     have Z0z := Lib.hid (show RowAt w7 g1 (.slice none 0 0) false from (T7.block g1 Z0y.out.lt (by omega)).trans Z0y.out)
     have HVz := Lib.hid (CV'.out w7 _ (by rw [ovL_length]; exact LN.out) RI7)
     have Bz := Lib.hid (By.out.trans (T7.toBelow By.out.size (fun k hk e => by omega)))
     clear RI7 T7 OW R8y R0y Z0y By y0 k80
     have k80 : w7.cell? ⟨g8, 0, none⟩ = some (.slice (some ⟨gg, 0, none⟩) n c3) := R8z.out.get 0
     have k81 : w7.cell? ⟨g8, 1, none⟩ = some (.bool wrap) := R8z.out.get 1
     have z0 : w7.cell? ⟨g1, 0, none⟩ = some (.slice none 0 0) := Z0z.out.get 0
     have z1 : w7.cell? ⟨g1, 1, none⟩ = some (.bool false) := Z0z.out.get 1
     have zf0 := Z0z.out.free 0
     have zf1 := Z0z.out.free 1
     have RF := Lib.hid (RowAt.put2 Z0z.out (.slice (some ⟨gg, 0, none⟩) n c3) wrap)
     have OF := (OnlyRow.cell g1 0 w7 (.slice (some ⟨gg, 0, none⟩) n c3)).trans (OnlyRow.cell g1 1 _ (.bool wrap))
     have HF := Lib.hid (HasC.keep HVz.out (fun j e => OF.block j (NG1.out j e)))
     have BF := Lib.hid (Bz.out.trans ((Turned.ofOnly OF).toBelow Bz.out.size (fun k hk e => by have := HG1.out; omega)))
     clear OF
     go_wp2
     generalize (w7.setCell ⟨g1, 0, none⟩ (.slice (some ⟨gg, 0, none⟩) n c3)).setCell ⟨g1, 1, none⟩ (.bool wrap) = wz at RF HF BF ⊢
     have e0 : wz.cell? ⟨g1, 0, none⟩ = some (.slice (some ⟨gg, 0, none⟩) n c3) := RF.out.get 0
     have e1 : wz.cell? ⟨g1, 1, none⟩ = some (.bool wrap) := RF.out.get 1
     exact bodyPost_ret (v := .tuple #[.agg #[.slice (some ⟨gg, 0, none⟩) n c3, .bool wrap], .bool true]) (by simp [results, Tryz.results47, go_sem, e0, e1]) rfl (DNT.out wz HF.out BF.out)
end Rw
