/-
  The reference's Line: may these cells be a line? A range over a function that writes memory of its own between what it tells: as in Over, where what abides is said of a relation Rl. (Over any program.) A region that draws its order, inside a round of a range over a function: what only reads, and calls that may make memory, gone through once in every world of a class. (Over any program.) The reference's way to a row's cells in which a sign stands. The reference's Of: of each row the number of its line, and how many of its line's cells stand ahead of it.
-/
import Derived.Test.YtjhmndmnhkbigaaGreatDoorQWLine1
import Derived.Test.YtjhmndmnhkbigaaGreatDoorQWRefRow0
import Derived.Test.YtjhmndmnhkbigaaGreatDoorQWRefRow1
import Derived.Test.YtjhmndmnhkbigaaGreatDoorQWLine0
import Derived.Test.YtjhmndmnhkbigaaGreatDoorQWBase2
import Derived.Test.YtjhmndmnhkbigaaGreatDoorQWBase1
namespace Go.Proofs.YtjhmndmnhkbigaaGreatDoor
open Go.ChangeShapes Go.WideShapes Go.ChangeAt Go.RowKit
namespace Ln
open Rw
theorem okC_ref (r m a : Int) : okC (r, m, a) = (mayB (r, m, a) && !(m == 0) && !(r == 0 && m == 1 && a == 0)) := by
 cases hb : mayB (r, m, a) with
 | false => unfold okC; simp [hb]
 | true =>
  have h3 : m = 0 ∨ m = 1 ∨ m = 2 := by
   have hw := wof_range r
   unfold mayB at hb
   simp only [Bool.and_eq_true, Bool.or_eq_true, decide_eq_true_eq, beq_iff_eq, Prod.mk.injEq] at hb
   omega
  unfold okC hasB isB
  simp only [hb, Bool.and_true, Bool.true_and]
  rcases h3 with rfl | rfl | rfl <;> simp
theorem lineB_step {l : List Cel} {k : Nat} {r m a : Int} (h : l[k]? = some (r, m, a)) : lineB (l.drop k) = (mayB (r, m, a) && !(m == 0) && !(r == 0 && m == 1 && a == 0) && lineB (l.drop (k + 1))) := by
 rw [drop_get h, ← okC_ref]
 rfl
set_option maxRecDepth 100000 in
set_option maxHeartbeats 6400000 in
theorem refLine_walk (A : Option Addr) (n c : Nat) (l : List Cel) (w : World) (hl : ∀ c ∈ l, -2147483648 ≤ c.1 ∧ c.1 ≤ 2147483647) (hq : Sq w w.heap.size 3 n A (flat l)) (hn : n ≤ 1000000) :
  Calls Tryz.prog 26 #[.slice A n c] w fun e w' => e = .returned (.bool (lineB l)) ∧ Below w.heap.size w w' := by
 have hln : l.length = n := by have := hq.len; rw [flat_length] at this; omega
 have LN := Lib.hid hln
 have Q := Lib.hid hq
 have HL := Lib.hid hl
 have B1 := Lib.hid (Below.refl w.heap.size w)
 clear hln hq hl
 go_enter Tryz.func26, Tryz.ntmps26
 go_wp2_with fail
 go_loopw [3] (fun i wr => ∃ k : Nat, i = .int .i64 k ∧ k ≤ n ∧ Below w.heap.size w wr ∧ Hid (lineB (l.drop k) = lineB l)) (fun i _ => n - (intOf i).toNat)
 case atStart => exact ⟨0, rfl, Nat.zero_le _, B1.out, Lib.hid rfl⟩
 case round =>
  obtain ⟨k, rfl, hk, hb, RG⟩ := hrel
  have HB := Lib.hid hb
  have hsz := hb.size
  by_cases hlt : k < n
  ·obtain ⟨b, off, rfl, hbb, ⟨r, m, a⟩, hcc, q0, q1, q2⟩ := (Q.out.below hb).three hlt
   have hx := HL.out _ (List.mem_of_getElem? hcc)
   have ST := Lib.hid (lineB_step hcc)
   obtain ⟨C, hC⟩ : ∃ C, mayB (r, m, a) = C := ⟨_, rfl⟩
   obtain ⟨D, hD⟩ : ∃ D, (r == 0 && m == 1 && a == 0) = D := ⟨_, rfl⟩
   have MC := Lib.hid (fun w => refCell_walk r m a hx.1 hx.2 w)
   have NE := fun w => Rw.eql_cell r m a 0 1 0 w
   rw [hC] at MC ST
   rw [hD] at NE ST
   obtain ⟨I, hI, F, h0, hB, hN⟩ := Cls.below wr
   have H0 := Lib.hid h0
   have HBn := Lib.hid (fun n => HB.out.trans ((hB n).mono hsz))
   have HN := Lib.hid hN
   have RD := Lib.hid (show ∀ j c, l[j]? = some c → ∀ n, (F n).cell? ⟨b, off + j * 3, none⟩ = some (.int .i32 c.1) ∧ (F n).cell? ⟨b, off + j * 3 + 1, none⟩ = some (.int .i64 c.2.1) ∧ (F n).cell? ⟨b, off + j * 3 + 2, none⟩ = some (.int .i64 c.2.2) from fun j c hj n => (Q.out.below (HBn.out n)).cells hj)
   have c0 := fun n => (RD.out k _ hcc n).1
   have c1 := fun n => (RD.out k _ hcc n).2.1
   have c2 := fun n => (RD.out k _ hcc n).2.2
   dsimp only at c0 c1 c2
   have MCN := Lib.hid (show ∀ n, Calls Tryz.prog 54 #[cellV r m a] (F n) fun e w' => e = .returned (.bool C) ∧ ∃ m, w' = F m from fun n => (MC.out (F n)).mono fun e w' ⟨he, hb⟩ => ⟨he, HN.out n w' hb⟩)
   have PDN := Lib.hid (show ∀ n, Calls Tryz.prog 29 #[] (F n) fun e w' => e = .returned (cellV 0 1 0) ∧ ∃ m, w' = F m from fun n => (refPad_walk (F n)).mono fun e w' ⟨he, hb⟩ => ⟨he, HN.out n w' hb⟩)
   have hk0 : (0 : Int) ≤ (k : Int) := by omega
   have hkn : (k : Int) < (n : Int) := by omega
   clear hb hcc hC hD hbb hx q0 q1 q2 h0 hB hN MC
   go_wp2_with fail
   cases C
   ·refine Cls.region F H0.out (by kernel_rfl) (by kernel_rfl) ?_
    repeat (go_big_quiet_step ((first | (go_at_call 29; exact PDN.out _) | (go_at_call 54; exact MCN.out _))))
    refine wpQuiet_nil ?_
    intro _ hw'
    obtain ⟨nq, hw''⟩ := hw'
    subst hw''
    have BB := Lib.hid (HBn.out nq)
    have RF := Lib.hid (show lineB l = false by rw [← RG.out, ST.out]; simp)
    go_wp2
    go_ret
    exact ⟨ret_bool RF.out.symm, BB.out⟩
   ·cases h0 : (m == 0)
    ·cases D
     ·refine Cls.region F H0.out (by kernel_rfl) (by kernel_rfl) ?_
      repeat (go_big_quiet_step ((first | (go_at_call 29; exact PDN.out _) | (go_at_call 54; exact MCN.out _))))
      refine wpQuiet_nil ?_
      intro _ hw'
      obtain ⟨nq, hw''⟩ := hw'
      subst hw''
      have BB := Lib.hid (HBn.out nq)
      have RN := Lib.hid (show lineB (l.drop (k + 1)) = lineB l by rw [← RG.out, ST.out]; simp [h0])
      go_wp2
      go_roundw
      case rel => exact ⟨k + 1, by first | go_num | (congr 1; omega), by omega, BB.out, RN⟩
      case measure => first | (simp [intOf]; done) | (simp [intOf]; omega)
     ·refine Cls.region F H0.out (by kernel_rfl) (by kernel_rfl) ?_
      repeat (go_big_quiet_step ((first | (go_at_call 29; exact PDN.out _) | (go_at_call 54; exact MCN.out _))))
      refine wpQuiet_nil ?_
      intro _ hw'
      obtain ⟨nq, hw''⟩ := hw'
      subst hw''
      have BB := Lib.hid (HBn.out nq)
      have RF := Lib.hid (show lineB l = false by rw [← RG.out, ST.out]; simp)
      go_wp2
      go_ret
      exact ⟨ret_bool RF.out.symm, BB.out⟩
    ·refine Cls.region F H0.out (by kernel_rfl) (by kernel_rfl) ?_
     repeat (go_big_quiet_step ((first | (go_at_call 29; exact PDN.out _) | (go_at_call 54; exact MCN.out _))))
     refine wpQuiet_nil ?_
     intro _ hw'
     obtain ⟨nq, hw''⟩ := hw'
     subst hw''
     have BB := Lib.hid (HBn.out nq)
     have RF := Lib.hid (show lineB l = false by rw [← RG.out, ST.out, h0]; simp)
     go_wp2
     go_ret
     exact ⟨ret_bool RF.out.symm, BB.out⟩
  ·have hk' : k = n := by omega
   have E : l.drop k = [] := List.drop_eq_nil_of_le (by have := LN.out; omega)
   have RT := Lib.hid (show lineB l = true by rw [← RG.out, E]; rfl)
   clear hb E hk'
   go_wp2
   go_ret
   exact ⟨ret_bool RT.out.symm, HB.out⟩
end Ln
end Go.Proofs.YtjhmndmnhkbigaaGreatDoor
namespace Go.Proofs.YtjhmndmnhkbigaaGreatDoor
open Go.RowKit
section
variable {P : Program}
def TellsR (Rl : World → World → Prop) (P : Program) (g : Nat) (lb : Array Value) (N : Nat) (Fit : Nat → Array Value → World → Prop) (Kp : World → World → Prop) (w : World) : Prop :=
 ∀ (l : Nat) (J Jx : Nat → World → Prop) (W : World), Laid w W → (∀ k A B, J k A → Rl A B → J k B) → (∀ k A B, Jx k A → Rl A B → Jx k B) →
  (∀ k x W1, k < N → J k W1 → Fit k x W1 → YieldAt Fence.wide 1 P l x W1 fun e W' => (e = .returned (.bool true) ∧ J (k + 1) W' ∧ Kp W1 W') ∨ (e = .returned (.bool false) ∧ Jx (k + 1) W')) →
  J 0 W → CallsIn Fence.wide 2 P g (#[.func (.yield l) #[] #[]] ++ lb) W fun e W' => (∃ v, e = .returned v) ∧ (J N W' ∨ ∃ k, k < N ∧ Jx (k + 1) W')
def GrowsR (Rl : World → World → Prop) (p : World → Prop) : Prop := ∀ A B, p A → Rl A B → p B
theorem wp_overR {Rl : World → World → Prop} (hRl : ∀ A B, Laid A B → Rl A B) (hRk : ∀ (A B : World) (j : Nat) (o : Obj), Rl A B → A.heap[j]? = some o → o.isCells = false → B.heap[j]? = some o) {g : Operand} {ps : Array Tmp} {assign body : Code} {Q : Exit → Act → World → Prop} {a : Act} {w : World} {gf : Nat} {lb : Array Value} {N : Nat} {Fit : Nat → Array Value → World → Prop} {Kp : World → World → Prop}
  (hg : a.eval g = .func (.func gf) #[] lb) (eg : ∀ args w, (callFunc gf args).run P w = .ok (.enter gf args) w) (hT : TellsR Rl P gf lb N Fit Kp w)
  (hKt : ∀ {A B C : World}, Kp A B → Kp B C → Kp A C) (hKa : ∀ A B : World, w.heap.size ≤ A.heap.size → Laid A B → Kp A B) (hKb : ∀ (W : World) (l : Nat) (o o' : Obj), w.heap.size ≤ l → W.heap[l]? = some o → o.isCells = false → Kp W (W.putObj l o'))
  (hps : ∀ k x W, Fit k x W → x.size = ps.size) (I : Nat → World → Prop) (Ix : Code → Nat → World → Prop)
  (hI : ∀ k, GrowsR Rl (I k)) (hI' : ∀ k, Stays w.heap.size (I k)) (hIx : ∀ c k, GrowsR Rl (Ix c k)) (hIx' : ∀ c k, Stays w.heap.size (Ix c k)) (h0 : I 0 w)
  (hround : ∀ (l k : Nat) (x : Array Value) (W : World), k < N → w.heap.size ≤ l → (∃ o : Obj, W.heap[l]? = some o ∧ o.isCells = false) → I k W → Fit k x W →
   assign.wpIn (Fence.wide.inRound l) 1 P (Exit.then (fun a₁ W₁ => Laid W W₁ ∧ ∀ o : Obj, body.wpIn (Fence.wide.inRound l) 1 P (overPost w.heap.size Kp I Ix (k + 1) (W₁.putObj l o)) a₁ (W₁.putObj l o)) (fun _ _ _ => False))
    {tmps := (ps.zip x).foldl (fun t (p, v) => t.setIfInBounds p v) a.tmps, defers := [] } W)
  (hdone : ∀ (D : Nat) (W : World), w.heap.size ≤ D → I N W → W.heap[D]? = some (.deferred (some [])) → Q .normal { a with defers := { target := .collected D, args := #[] } :: a.defers } W)
  (hstop : ∀ (D k : Nat) (c : Code) (W : World), w.heap.size ≤ D → k < N → Ix c (k + 1) W → W.heap[D]? = some (.deferred (some [])) → c.wp P Q { a with defers := { target := .collected D, args := #[] } :: a.defers } W) :
  (Code.rangeFunc g ps assign body).wp P Q a w := by
 refine (wpIn_wide (n := 3)).1 (wpIn_rangeFunc fun fn hfn => ?_)
 obtain ⟨S, hS⟩ : ∃ S, w.heap.size = S := ⟨_, rfl⟩
 obtain ⟨rc, hrc⟩ : ∃ rc : LoopState → Option Code → Loop, rc = fun st pe => { state := st, pending := pe, fn, tmps := a.tmps, params := ps, assign, body, defers := w.heap.size } := ⟨_, rfl⟩
 have hwith : ∀ (st st' : LoopState) (pe pe' : Option Code), ({ rc st pe with state := st', pending := pe' } : Loop) = rc st' pe' := fun _ _ _ _ => by rw [hrc]
 have hbegin : ({ rc .ready none with state := .busy } : Loop) = rc .busy none := by rw [hrc]
 have hstate : ∀ st pe, (rc st pe).state = st ∧ (rc st pe).pending = pe := fun _ _ => by rw [hrc]; exact ⟨rfl, rfl⟩
 have hend : ∀ st pe, ({ rc st pe with state := .exhausted } : Loop) = rc .exhausted pe := fun _ _ => by rw [hrc]
 let At (st : LoopState) (pe : Option Code) (W : World) : Prop := W.heap[S + 1]? = some (.loop (rc st pe)) ∧ W.heap[S]? = some (.deferred (some []))
 have hAtG : ∀ {st pe A B}, At st pe A → Rl A B → At st pe B := fun h hb => ⟨hRk _ _ _ _ hb h.1 rfl, hRk _ _ _ _ hb h.2 rfl⟩
 have hPut : ∀ {st pe W} (st' : LoopState) (pe' : Option Code), At st pe W → At st' pe' (W.putObj (S + 1) (.loop (rc st' pe'))) := fun st' pe' h =>
  ⟨World.putObj_heap_same (Array.getElem?_eq_some_iff.1 h.1).1, (World.putObj_heap_other (by omega)).trans h.2⟩
 have hAtK : ∀ {st pe A B}, At st pe A → KeepsFrom S A B → At st pe B := fun h hk => ⟨hk.same _ _ (by omega) h.1 rfl, hk.same _ _ (Nat.le_refl _) h.2 rfl⟩
 obtain ⟨W1, hW1⟩ : ∃ W1, (w.alloc (.deferred (some []))).alloc (.loop (rc .ready none)) = W1 := ⟨_, rfl⟩
 have hL : Laid w W1 := by rw [← hW1]; exact ((Below.refl _ w).alloc (Nat.le_refl _) _).alloc (by simp) _
 have h1 : At .ready none W1 := by
  constructor
  ·rw [← hW1, ← hS]
   have := World.alloc_heap_new (w.alloc (.deferred (some []))) (.loop (rc .ready none))
   rwa [World.size_alloc] at this
  ·rw [← hW1, ← hS]
   exact (Below.heap_alloc _ _ _ (by simp)).trans (World.alloc_heap_new w _)
 refine ⟨w.heap.size + 1, [{ target := .collected w.heap.size, args := #[] }], W1, { target := .fn (.func gf) lb, args := #[.func (.yield (w.heap.size + 1)) #[] #[]] }, W1, gf, #[.func (.yield (w.heap.size + 1)) #[] #[]] ++ lb, W1,
  by rw [← hW1, hrc]; exact run_enterLoop_outer _ _ _ _ _, by simp only [resolve, hg]; simp [go_sem], fun f' hf' => trivial, by simp [invoke, go_sem, eg], (fun _ => by decide), ?_⟩
 rw [hS] at hKa hKb hI' hIx' hround hdone hstop ⊢
 have big : ∀ {st pe W}, At st pe W → S ≤ W.heap.size := fun h => by have := (Array.getElem?_eq_some_iff.1 h.2).1; omega
 refine (hT (S + 1) (fun k W => I k W ∧ At .ready none W) (fun k W => ∃ c, Ix c k W ∧ At .done (some c) W) W1 hL
  (fun k A B h hb => ⟨hI k A B h.1 hb, hAtG h.2 hb⟩) (fun k A B h hb => by obtain ⟨c, h1, h2⟩ := h; exact ⟨c, hIx c k A B h1 hb, hAtG h2 hb⟩) ?_ ⟨hI 0 _ _ h0 (hRl _ _ hL), h1⟩).mono ?_
 ·rintro k x W hk ⟨hi, hat⟩ hf
  have hy := run_yield (P := P) (args := x) hat.1 (by rw [hrc]; exact hps k x W hf)
  rw [hrc] at hy
  refine ⟨fn, _, assign, body, hy, roundIn_of_wpIn hfn (wpIn_mono (hround _ k x W hk (by omega) ⟨_, hat.1, rfl⟩ hi hf) ?_)⟩
  rintro e a₁ W2 hp
  cases e with
  | normal => ?_
  | ret => exact hp.elim
  | exit id => exact hp.elim
  | goto t => exact hp.elim
  | panic _ => exact hp.elim
  | outgrown => exact hp.elim
  obtain ⟨hL2, hbody⟩ := hp
  have hat2 := hAtG hat (hRl _ _ hL2)
  refine ⟨_, run_beginRound hat2.1 (hstate _ _).1, ?_⟩
  rw [hbegin]
  have hat3 : At .busy none (W2.putObj (S + 1) (.loop (rc .busy none))) := hPut .busy none hat2
  have hK3 : Kp W (W2.putObj (S + 1) (.loop (rc .busy none))) := hKt (hKa _ _ (big hat) hL2) (hKb _ _ _ _ (by omega) hat2.1 rfl)
  refine wpIn_mono (hbody (.loop (rc .busy none))) ?_
  have fin : ∀ (jump : Option Code) (W3 : World), KeepsFrom S (W2.putObj (S + 1) (.loop (rc .busy none))) W3 →
    At .busy none W3 ∧ (Instr.endRound (S + 1) jump).run P W3 = .ok (.bool jump.isNone) (W3.putObj (S + 1) (.loop (rc (if jump.isNone then .ready else .done) jump))) := fun jump W3 hk3 => by
   have h3 := hAtK hat3 hk3
   have := run_endRound (P := P) jump h3.1
   rw [hwith] at this
   exact ⟨h3, this⟩
  rintro e a3 W3 hp
  cases e with
  | normal =>
   obtain ⟨hk3, hkp, hi3⟩ := hp
   obtain ⟨h3, hr⟩ := fin none W3 hk3
   exact ⟨_, _, hr, .inl ⟨rfl, ⟨hI' _ _ _ _ _ (by omega) h3.1 rfl hi3, hPut .ready none h3⟩, hKt (hKt hK3 hkp) (hKb _ _ _ _ (by omega) h3.1 rfl)⟩⟩
  | ret =>
   obtain ⟨hk3, hi3⟩ := hp
   obtain ⟨h3, hr⟩ := fin (some .ret) W3 hk3
   exact ⟨_, _, hr, .inr ⟨rfl, .ret, hIx' _ _ _ _ _ _ (by omega) h3.1 rfl hi3, hPut .done _ h3⟩⟩
  | exit id =>
   obtain ⟨hk3, hi3⟩ := hp
   obtain ⟨h3, hr⟩ := fin (some (.exit id)) W3 hk3
   exact ⟨_, _, hr, .inr ⟨rfl, .exit id, hIx' _ _ _ _ _ _ (by omega) h3.1 rfl hi3, hPut .done _ h3⟩⟩
  | goto t =>
   obtain ⟨hk3, hi3⟩ := hp
   obtain ⟨h3, hr⟩ := fin (some (.goto t)) W3 hk3
   exact ⟨_, _, hr, .inr ⟨rfl, .goto t, hIx' _ _ _ _ _ _ (by omega) h3.1 rfl hi3, hPut .done _ h3⟩⟩
  | panic _ => exact hp.elim
  | outgrown => exact hp.elim
 ·have leave : ∀ {st pe W2}, At st pe W2 → st ≠ .busy → (Instr.endLoop (S + 1)).run P W2 = .ok pe (W2.putObj (S + 1) (.loop (rc .exhausted pe))) ∧ (W2.putObj (S + 1) (.loop (rc .exhausted pe))).heap[S]? = some (.deferred (some [])) := fun {st pe W2} h hb => by
   have := run_endLoop (P := P) h.1 (by rw [(hstate _ _).1]; exact hb)
   rw [hend, (hstate _ _).2] at this
   exact ⟨this, (World.putObj_heap_other (by omega)).trans h.2⟩
  rintro e W2 ⟨⟨v, rfl⟩, ⟨hi, hat⟩ | ⟨k, hk, c, hi, hat⟩⟩
  ·obtain ⟨hr, hd⟩ := leave hat (by simp)
   exact ⟨none, _, hr, hdone S _ (Nat.le_refl _) (hI' _ _ _ _ _ (by omega) hat.1 rfl hi) hd⟩
  ·obtain ⟨hr, hd⟩ := leave hat (by simp)
   exact ⟨some c, _, hr, wpIn_wide.2 (hstop S k c _ (Nat.le_refl _) hk (hIx' _ _ _ _ _ _ (by omega) hat.1 rfl hi) hd)⟩
end
end Go.Proofs.YtjhmndmnhkbigaaGreatDoor
namespace Go.Proofs.YtjhmndmnhkbigaaGreatDoor
open Go.ChangeShapes Go.WideShapes Go.ChangeAt Go.RowKit
namespace Cls
theorem class_in {P : Program} {id l k : Nat} {Q : Exit → Act → World → Prop} {a : Act} {w : World} {L : List Oper} {C : World → Prop} (h0 : C w.drew) (hm : P.follows .mixedOrders = true) (hp : L.all Ord.notDefer = true) (hB : Region.lexB .any L.toArray = true)
  (h : wpQuiet P L.toArray C (fun a' => ∀ w', C w' → Q .normal a' w') L a) : (Code.region id L.toArray true).wpIn (Fence.wide.inRound l) k P Q a w := by
 simp only [Region.lexB, Bool.and_eq_true] at hB
 refine wpIn_region_any hm ?_
 have hq := wpAnyQ_lex (P := P) (C := C) (md := .any) hB.1 L 0 (Array.replicate L.toArray.size false) a (by simp) (by simpa using hB.2) h
 have := Ord.any_in (l := l) (k := k) (ops := L.toArray) (R := fun a' w' => Q .normal a' w') (fun o ho => List.all_eq_true.1 hp o (by simpa using ho)) (fun _ _ h => h) L.toArray.size (Array.replicate L.toArray.size false) a w.drew
  (wpAny_of_quiet (Q := fun a' => ∀ w', C w' → Q .normal a' w') (fun _ w' hw' h => ⟨rfl, h w' hw'⟩) _ _ _ _ h0 (by simpa using hq))
 simpa using this
theorem drew_in {P : Program} {id ll k : Nat} {Q : Exit → Act → World → Prop} {a : Act} {w : World} {l : List Oper} (hm : P.follows .mixedOrders = true) (hp : l.all Ord.notDefer = true) (hB : Region.lexB .any l.toArray = true)
  (h : wpQuiet P l.toArray (fun w' => ∃ n, w' = w.drewN n) (fun a' => ∀ w', (∃ n, w' = w.drewN n) → Q .normal a' w') l a) : (Code.region id l.toArray true).wpIn (Fence.wide.inRound ll) k P Q a w := class_in (C := fun w' => ∃ n, w' = w.drewN n) ⟨1, rfl⟩ hm hp hB h
end Cls
end Go.Proofs.YtjhmndmnhkbigaaGreatDoor
namespace Go.Proofs.YtjhmndmnhkbigaaGreatDoor
open Go.ChangeShapes Go.WideShapes Go.ChangeAt Go.RowKit
namespace Ln
open Rw
theorem mayGo_cell : ∀ {l : List Cel} {p : Cel}, mayGo p l = true → ∀ c ∈ l, mayB c = true
 | [], _, _, c, h => by cases h
 | x :: l, p, hm, c, h => by
  have e : mayGo p (x :: l) = (mayB x && ((p.2.1 == 2) == (x.2.1 == 0)) && (!(x.2.1 == 0) || x.2.2 == p.2.2) && mayGo x l) := rfl
  rw [e] at hm
  simp only [Bool.and_eq_true] at hm
  rcases List.mem_cons.1 h with rfl | h
  ·exact hm.1.1.1
  ·exact mayGo_cell hm.2 c h
theorem mayL_cell {l : List Cel} (hm : mayL l = true) : ∀ c ∈ l, mayB c = true := by
 unfold mayL at hm
 simp only [Bool.and_eq_true] at hm
 exact mayGo_cell hm.2
theorem mayB_wide {r m a : Int} (h : mayB (r, m, a) = true) : m = 0 ∨ m = 1 ∨ m = 2 := by
 have hw := wof_range r
 unfold mayB at h
 simp only [Bool.and_eq_true, Bool.or_eq_true, decide_eq_true_eq, beq_iff_eq, Prod.mk.injEq] at h
 omega
end Ln
end Go.Proofs.YtjhmndmnhkbigaaGreatDoor
namespace Go.Proofs.YtjhmndmnhkbigaaGreatDoor
open Go.ChangeShapes Go.WideShapes Go.ChangeAt Go.RowKit
namespace Ln
open Rw
theorem sq_single (w : World) (e : TypeId) (x : Value) : Sq (w.alloc (.cells #[x] e)) (w.heap.size + 1) 1 1 (some ⟨w.heap.size, 0, none⟩) [x] :=
 ⟨rfl, fun _ => ⟨w.heap.size, 0, rfl, Nat.lt_succ_self _, fun j u hu => by
  have h := cell_single w e x j u hu
  rw [add_at] at h
  exact h⟩⟩
end Ln
end Go.Proofs.YtjhmndmnhkbigaaGreatDoor
