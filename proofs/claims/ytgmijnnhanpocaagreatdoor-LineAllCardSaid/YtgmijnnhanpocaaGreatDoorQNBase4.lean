/-
  The reference's Line: may these cells be a line? A range over a function that writes memory of its own between what it tells: as in Over, where what abides is said of a relation Rl. (Over any program.) A region that draws its order, inside a round of a range over a function: what only reads, and calls that may make memory, gone through once in every world of a class. (Over any program.) The reference's way to a row's cells in which a sign stands. The reference's Of: of each row the number of its line, and how many of its line's cells stand ahead of it.
-/
import Derived.Test.YtgmijnnhanpocaaGreatDoorQNLine2
import Derived.Test.YtgmijnnhanpocaaGreatDoorQNRefRow1
import Derived.Test.YtgmijnnhanpocaaGreatDoorQNLine0
import Derived.Test.YtgmijnnhanpocaaGreatDoorQNBase3
import Derived.Test.YtgmijnnhanpocaaGreatDoorQNLine1
import Derived.Test.YtgmijnnhanpocaaGreatDoorQNBase2
namespace Go.Proofs.YtgmijnnhanpocaaGreatDoor
open Go.ChangeShapes Go.WideShapes Go.ChangeAt Go.RowKit
namespace Ln
open Rw
theorem okC_ref (r m a : Int) : okC (r, m, a) = (mayB (r, m, a) && !(m == 0) && !(r == 0 && m == 1 && a == 0)) := by
 cases hb : mayB (r, m, a) with
 | false => unfold okC; simp [hb]
 | true =>
  have h3 : m = 0 ∨ m = 1 ∨ m = 2 := by
   have hw := wof_range r
   unfold mayB at hb
   simp only [Bool.and_eq_true, Bool.or_eq_true, decide_eq_true_eq, beq_iff_eq, Prod.mk.injEq] at hb
   omega
  unfold okC hasB isB
  simp only [hb, Bool.and_true, Bool.true_and]
  rcases h3 with rfl | rfl | rfl <;> simp
theorem lineB_step {l : List Cel} {k : Nat} {r m a : Int} (h : l[k]? = some (r, m, a)) : lineB (l.drop k) = (mayB (r, m, a) && !(m == 0) && !(r == 0 && m == 1 && a == 0) && lineB (l.drop (k + 1))) := by
 rw [drop_get h, ← okC_ref]
 rfl
set_option maxRecDepth 100000 in
set_option maxHeartbeats 6400000 in
theorem refLine_walk (A : Option Addr) (n c : Nat) (l : List Cel) (w : World) (hl : ∀ c ∈ l, -2147483648 ≤ c.1 ∧ c.1 ≤ 2147483647) (hq : Sq w w.heap.size 3 n A (flat l)) (hn : n ≤ 1000000) :
  Calls Tryz.prog 36 #[.slice A n c] w fun e w' => e = .returned (.bool (lineB l)) ∧ Below w.heap.size w w' := by
 have hln : l.length = n := by have := hq.len; rw [flat_length] at this; omega
 have LN := Lib.hid hln
 have Q := Lib.hid hq
 have HL := Lib.hid hl
 have B1 := Lib.hid (Below.refl w.heap.size w)
 clear hln hq hl
 go_enter Tryz.func36, Tryz.ntmps36
 go_wp2_with fail
 go_loopw [3] (fun i wr => ∃ k : Nat, i = .int .i64 k ∧ k ≤ n ∧ Below w.heap.size w wr ∧ Hid (lineB (l.drop k) = lineB l)) (fun i _ => n - (intOf i).toNat)
 case atStart => exact ⟨0, rfl, Nat.zero_le _, B1.out, Lib.hid rfl⟩
 case round =>
  obtain ⟨k, rfl, hk, hb, RG⟩ := hrel
  have HB := Lib.hid hb
  have hsz := hb.size
  by_cases hlt : k < n
  ·obtain ⟨b, off, rfl, hbb, ⟨r, m, a⟩, hcc, q0, q1, q2⟩ := (Q.out.below hb).three hlt
   have hx := HL.out _ (List.mem_of_getElem? hcc)
   have ST := Lib.hid (lineB_step hcc)
   obtain ⟨C, hC⟩ : ∃ C, mayB (r, m, a) = C := ⟨_, rfl⟩
   obtain ⟨D, hD⟩ : ∃ D, (r == 0 && m == 1 && a == 0) = D := ⟨_, rfl⟩
   have MC := Lib.hid (fun w => refCell_walk r m a hx.1 hx.2 w)
   have NE := fun w => Rw.eql_cell r m a 0 1 0 w
   rw [hC] at MC ST
   rw [hD] at NE ST
   obtain ⟨I, hI, F, h0, hB, hN⟩ := Cls.below wr
   have H0 := Lib.hid h0
   have HBn := Lib.hid (fun n => HB.out.trans ((hB n).mono hsz))
   have HN := Lib.hid hN
   have RD := Lib.hid (show ∀ j c, l[j]? = some c → ∀ n, (F n).cell? ⟨b, off + j * 3, none⟩ = some (.int .i32 c.1) ∧ (F n).cell? ⟨b, off + j * 3 + 1, none⟩ = some (.int .i64 c.2.1) ∧ (F n).cell? ⟨b, off + j * 3 + 2, none⟩ = some (.int .i64 c.2.2) from fun j c hj n => (Q.out.below (HBn.out n)).cells hj)
   have c0 := fun n => (RD.out k _ hcc n).1
   have c1 := fun n => (RD.out k _ hcc n).2.1
   have c2 := fun n => (RD.out k _ hcc n).2.2
   dsimp only at c0 c1 c2
   have MCN := Lib.hid (show ∀ n, Calls Tryz.prog 51 #[cellV r m a] (F n) fun e w' => e = .returned (.bool C) ∧ ∃ m, w' = F m from fun n => (MC.out (F n)).mono fun e w' ⟨he, hb⟩ => ⟨he, HN.out n w' hb⟩)
   have PDN := Lib.hid (show ∀ n, Calls Tryz.prog 33 #[] (F n) fun e w' => e = .returned (cellV 0 1 0) ∧ ∃ m, w' = F m from fun n => (refPad_walk (F n)).mono fun e w' ⟨he, hb⟩ => ⟨he, HN.out n w' hb⟩)
   have hk0 : (0 : Int) ≤ (k : Int) := by omega
   have hkn : (k : Int) < (n : Int) := by omega
   clear hb hcc hC hD hbb hx q0 q1 q2 h0 hB hN MC
   go_wp2_with fail
   cases C
   ·refine Cls.region F H0.out (by kernel_rfl) (by kernel_rfl) ?_
    repeat (go_big_quiet_step ((first | (go_at_call 33; exact PDN.out _) | (go_at_call 51; exact MCN.out _))))
    refine wpQuiet_nil ?_
    intro _ hw'
    obtain ⟨nq, hw''⟩ := hw'
    subst hw''
    have BB := Lib.hid (HBn.out nq)
    have RF := Lib.hid (show lineB l = false by rw [← RG.out, ST.out]; simp)
    go_wp2
    go_ret
    exact ⟨ret_bool RF.out.symm, BB.out⟩
   ·cases h0 : (m == 0)
    ·cases D
     ·refine Cls.region F H0.out (by kernel_rfl) (by kernel_rfl) ?_
      repeat (go_big_quiet_step ((first | (go_at_call 33; exact PDN.out _) | (go_at_call 51; exact MCN.out _))))
      refine wpQuiet_nil ?_
      intro _ hw'
      obtain ⟨nq, hw''⟩ := hw'
      subst hw''
      have BB := Lib.hid (HBn.out nq)
      have RN := Lib.hid (show lineB (l.drop (k + 1)) = lineB l by rw [← RG.out, ST.out]; simp [h0])
      go_wp2
      go_roundw
      case rel => exact ⟨k + 1, by first | go_num | (congr 1; omega), by omega, BB.out, RN⟩
      case measure => first | (simp [intOf]; done) | (simp [intOf]; omega)
     ·refine Cls.region F H0.out (by kernel_rfl) (by kernel_rfl) ?_
      repeat (go_big_quiet_step ((first | (go_at_call 33; exact PDN.out _) | (go_at_call 51; exact MCN.out _))))
      refine wpQuiet_nil ?_
      intro _ hw'
      obtain ⟨nq, hw''⟩ := hw'
      subst hw''
      have BB := Lib.hid (HBn.out nq)
      have RF := Lib.hid (show lineB l = false by rw [← RG.out, ST.out]; simp)
      go_wp2
      go_ret
      exact ⟨ret_bool RF.out.symm, BB.out⟩
    ·refine Cls.region F H0.out (by kernel_rfl) (by kernel_rfl) ?_
     repeat (go_big_quiet_step ((first | (go_at_call 33; exact PDN.out _) | (go_at_call 51; exact MCN.out _))))
     refine wpQuiet_nil ?_
     intro _ hw'
     obtain ⟨nq, hw''⟩ := hw'
     subst hw''
     have BB := Lib.hid (HBn.out nq)
     have RF := Lib.hid (show lineB l = false by rw [← RG.out, ST.out, h0]; simp)
     go_wp2
     go_ret
     exact ⟨ret_bool RF.out.symm, BB.out⟩
  ·have hk' : k = n := by omega
   have E : l.drop k = [] := List.drop_eq_nil_of_le (by have := LN.out; omega)
   have RT := Lib.hid (show lineB l = true by rw [← RG.out, E]; rfl)
   clear hb E hk'
   go_wp2
   go_ret
   exact ⟨ret_bool RT.out.symm, HB.out⟩
end Ln
end Go.Proofs.YtgmijnnhanpocaaGreatDoor
namespace Go.Proofs.YtgmijnnhanpocaaGreatDoor
open Go.RowKit
section
variable {P : Program}
def TellsR (Rl : World → World → Prop) (P : Program) (g : Nat) (lb : Array Value) (N : Nat) (Fit : Nat → Array Value → World → Prop) (Kp : World → World → Prop) (w : World) : Prop :=
 ∀ (l : Nat) (J Jx : Nat → World → Prop) (W : World), Laid w W → (∀ k A B, J k A → Rl A B → J k B) → (∀ k A B, Jx k A → Rl A B → Jx k B) →
  (∀ k x W1, k < N → J k W1 → Fit k x W1 → YieldAt Fence.wide 1 P l x W1 fun e W' => (e = .returned (.bool true) ∧ J (k + 1) W' ∧ Kp W1 W') ∨ (e = .returned (.bool false) ∧ Jx (k + 1) W')) →
  J 0 W → CallsIn Fence.wide 2 P g (#[.func (.yield l) #[] #[]] ++ lb) W fun e W' => (∃ v, e = .returned v) ∧ (J N W' ∨ ∃ k, k < N ∧ Jx (k + 1) W')
def GrowsR (Rl : World → World → Prop) (p : World → Prop) : Prop := ∀ A B, p A → Rl A B → p B
theorem wp_overR {Rl : World → World → Prop} (hRl : ∀ A B, Laid A B → Rl A B) (hRk : ∀ (A B : World) (j : Nat) (o : Obj), Rl A B → A.heap[j]? = some o → o.isCells = false → B.heap[j]? = some o) {g : Operand} {ps : Array Tmp} {assign body : Code} {Q : Exit → Act → World → Prop} {a : Act} {w : World} {gf : Nat} {lb : Array Value} {N : Nat} {Fit : Nat → Array Value → World → Prop} {Kp : World → World → Prop}
  (hg : a.eval g = .func (.func gf) #[] lb) (eg : ∀ args w, (callFunc gf args).run P w = .ok (.enter gf args) w) (hT : TellsR Rl P gf lb N Fit Kp w)
  (hKt : ∀ {A B C : World}, Kp A B → Kp B C → Kp A C) (hKa : ∀ A B : World, w.heap.size ≤ A.heap.size → Laid A B → Kp A B) (hKb : ∀ (W : World) (l : Nat) (o o' : Obj), w.heap.size ≤ l → W.heap[l]? = some o → o.isCells = false → Kp W (W.putObj l o'))
  (hps : ∀ k x W, Fit k x W → x.size = ps.size) (I : Nat → World → Prop) (Ix : Code → Nat → World → Prop)
  (hI : ∀ k, GrowsR Rl (I k)) (hI' : ∀ k, Stays w.heap.size (I k)) (hIx : ∀ c k, GrowsR Rl (Ix c k)) (hIx' : ∀ c k, Stays w.heap.size (Ix c k)) (h0 : I 0 w)
  (hround : ∀ (l k : Nat) (x : Array Value) (W : World), k < N → w.heap.size ≤ l → (∃ o : Obj, W.heap[l]? = some o ∧ o.isCells = false) → I k W → Fit k x W →
   assign.wpIn (Fence.wide.inRound l) 1 P (Exit.then (fun a₁ W₁ => Laid W W₁ ∧ ∀ o : Obj, body.wpIn (Fence.wide.inRound l) 1 P (overPost w.heap.size Kp I Ix (k + 1) (W₁.putObj l o)) a₁ (W₁.putObj l o)) (fun _ _ _ => False))
    {tmps := (ps.zip x).foldl (fun t (p, v) => t.setIfInBounds p v) a.tmps, defers := [] } W)
  (hdone : ∀ (D : Nat) (W : World), w.heap.size ≤ D → I N W → W.heap[D]? = some (.deferred (some [])) → Q .normal { a with defers := { target := .collected D, args := #[] } :: a.defers } W)
  (hstop : ∀ (D k : Nat) (c : Code) (W : World), w.heap.size ≤ D → k < N → Ix c (k + 1) W → W.heap[D]? = some (.deferred (some [])) → c.wp P Q { a with defers := { target := .collected D, args := #[] } :: a.defers } W) :
  (Code.rangeFunc g ps assign body).wp P Q a w := by
 refine (wpIn_wide (n := 3)).1 (wpIn_rangeFunc fun fn hfn => ?_)
 obtain ⟨S, hS⟩ : ∃ S, w.heap.size = S := ⟨_, rfl⟩
 obtain ⟨rc, hrc⟩ : ∃ rc : LoopState → Option Code → Loop, rc = fun st pe => { state := st, pending := pe, fn, tmps := a.tmps, params := ps, assign, body, defers := w.heap.size } := ⟨_, rfl⟩
 have hwith : ∀ (st st' : LoopState) (pe pe' : Option Code), ({ rc st pe with state := st', pending := pe' } : Loop) = rc st' pe' := fun _ _ _ _ => by rw [hrc]
 have hbegin : ({ rc .ready none with state := .busy } : Loop) = rc .busy none := by rw [hrc]
 have hstate : ∀ st pe, (rc st pe).state = st ∧ (rc st pe).pending = pe := fun _ _ => by rw [hrc]; exact ⟨rfl, rfl⟩
 have hend : ∀ st pe, ({ rc st pe with state := .exhausted } : Loop) = rc .exhausted pe := fun _ _ => by rw [hrc]
 let At (st : LoopState) (pe : Option Code) (W : World) : Prop := W.heap[S + 1]? = some (.loop (rc st pe)) ∧ W.heap[S]? = some (.deferred (some []))
 have hAtG : ∀ {st pe A B}, At st pe A → Rl A B → At st pe B := fun h hb => ⟨hRk _ _ _ _ hb h.1 rfl, hRk _ _ _ _ hb h.2 rfl⟩
 have hPut : ∀ {st pe W} (st' : LoopState) (pe' : Option Code), At st pe W → At st' pe' (W.putObj (S + 1) (.loop (rc st' pe'))) := fun st' pe' h =>
  ⟨World.putObj_heap_same (Array.getElem?_eq_some_iff.1 h.1).1, (World.putObj_heap_other (by omega)).trans h.2⟩
 have hAtK : ∀ {st pe A B}, At st pe A → KeepsFrom S A B → At st pe B := fun h hk => ⟨hk.same _ _ (by omega) h.1 rfl, hk.same _ _ (Nat.le_refl _) h.2 rfl⟩
 obtain ⟨W1, hW1⟩ : ∃ W1, (w.alloc (.deferred (some []))).alloc (.loop (rc .ready none)) = W1 := ⟨_, rfl⟩
 have hL : Laid w W1 := by rw [← hW1]; exact ((Below.refl _ w).alloc (Nat.le_refl _) _).alloc (by simp) _
 have h1 : At .ready none W1 := by
  constructor
  ·rw [← hW1, ← hS]
   have := World.alloc_heap_new (w.alloc (.deferred (some []))) (.loop (rc .ready none))
   rwa [World.size_alloc] at this
  ·rw [← hW1, ← hS]
   exact (Below.heap_alloc _ _ _ (by simp)).trans (World.alloc_heap_new w _)
 refine ⟨w.heap.size + 1, [{ target := .collected w.heap.size, args := #[] }], W1, { target := .fn (.func gf) lb, args := #[.func (.yield (w.heap.size + 1)) #[] #[]] }, W1, gf, #[.func (.yield (w.heap.size + 1)) #[] #[]] ++ lb, W1,
  by rw [← hW1, hrc]; exact run_enterLoop_outer _ _ _ _ _, by simp only [resolve, hg]; simp [go_sem], fun f' hf' => trivial, by simp [invoke, go_sem, eg], (fun _ => by decide), ?_⟩
 rw [hS] at hKa hKb hI' hIx' hround hdone hstop ⊢
 have big : ∀ {st pe W}, At st pe W → S ≤ W.heap.size := fun h => by have := (Array.getElem?_eq_some_iff.1 h.2).1; omega
 refine (hT (S + 1) (fun k W => I k W ∧ At .ready none W) (fun k W => ∃ c, Ix c k W ∧ At .done (some c) W) W1 hL
  (fun k A B h hb => ⟨hI k A B h.1 hb, hAtG h.2 hb⟩) (fun k A B h hb => by obtain ⟨c, h1, h2⟩ := h; exact ⟨c, hIx c k A B h1 hb, hAtG h2 hb⟩) ?_ ⟨hI 0 _ _ h0 (hRl _ _ hL), h1⟩).mono ?_
 ·rintro k x W hk ⟨hi, hat⟩ hf
  have hy := run_yield (P := P) (args := x) hat.1 (by rw [hrc]; exact hps k x W hf)
  rw [hrc] at hy
  refine ⟨fn, _, assign, body, hy, roundIn_of_wpIn hfn (wpIn_mono (hround _ k x W hk (by omega) ⟨_, hat.1, rfl⟩ hi hf) ?_)⟩
  rintro e a₁ W2 hp
  cases e with
  | normal => ?_
  | ret => exact hp.elim
  | exit id => exact hp.elim
  | goto t => exact hp.elim
  | panic _ => exact hp.elim
  | outgrown => exact hp.elim
  obtain ⟨hL2, hbody⟩ := hp
  have hat2 := hAtG hat (hRl _ _ hL2)
  refine ⟨_, run_beginRound hat2.1 (hstate _ _).1, ?_⟩
  rw [hbegin]
  have hat3 : At .busy none (W2.putObj (S + 1) (.loop (rc .busy none))) := hPut .busy none hat2
  have hK3 : Kp W (W2.putObj (S + 1) (.loop (rc .busy none))) := hKt (hKa _ _ (big hat) hL2) (hKb _ _ _ _ (by omega) hat2.1 rfl)
  refine wpIn_mono (hbody (.loop (rc .busy none))) ?_
  have fin : ∀ (jump : Option Code) (W3 : World), KeepsFrom S (W2.putObj (S + 1) (.loop (rc .busy none))) W3 →
    At .busy none W3 ∧ (Instr.endRound (S + 1) jump).run P W3 = .ok (.bool jump.isNone) (W3.putObj (S + 1) (.loop (rc (if jump.isNone then .ready else .done) jump))) := fun jump W3 hk3 => by
   have h3 := hAtK hat3 hk3
   have := run_endRound (P := P) jump h3.1
   rw [hwith] at this
   exact ⟨h3, this⟩
  rintro e a3 W3 hp
  cases e with
  | normal =>
   obtain ⟨hk3, hkp, hi3⟩ := hp
   obtain ⟨h3, hr⟩ := fin none W3 hk3
   exact ⟨_, _, hr, .inl ⟨rfl, ⟨hI' _ _ _ _ _ (by omega) h3.1 rfl hi3, hPut .ready none h3⟩, hKt (hKt hK3 hkp) (hKb _ _ _ _ (by omega) h3.1 rfl)⟩⟩
  | ret =>
   obtain ⟨hk3, hi3⟩ := hp
   obtain ⟨h3, hr⟩ := fin (some .ret) W3 hk3
   exact ⟨_, _, hr, .inr ⟨rfl, .ret, hIx' _ _ _ _ _ _ (by omega) h3.1 rfl hi3, hPut .done _ h3⟩⟩
  | exit id =>
   obtain ⟨hk3, hi3⟩ := hp
   obtain ⟨h3, hr⟩ := fin (some (.exit id)) W3 hk3
   exact ⟨_, _, hr, .inr ⟨rfl, .exit id, hIx' _ _ _ _ _ _ (by omega) h3.1 rfl hi3, hPut .done _ h3⟩⟩
  | goto t =>
   obtain ⟨hk3, hi3⟩ := hp
   obtain ⟨h3, hr⟩ := fin (some (.goto t)) W3 hk3
   exact ⟨_, _, hr, .inr ⟨rfl, .goto t, hIx' _ _ _ _ _ _ (by omega) h3.1 rfl hi3, hPut .done _ h3⟩⟩
  | panic _ => exact hp.elim
  | outgrown => exact hp.elim
 ·have leave : ∀ {st pe W2}, At st pe W2 → st ≠ .busy → (Instr.endLoop (S + 1)).run P W2 = .ok pe (W2.putObj (S + 1) (.loop (rc .exhausted pe))) ∧ (W2.putObj (S + 1) (.loop (rc .exhausted pe))).heap[S]? = some (.deferred (some [])) := fun {st pe W2} h hb => by
   have := run_endLoop (P := P) h.1 (by rw [(hstate _ _).1]; exact hb)
   rw [hend, (hstate _ _).2] at this
   exact ⟨this, (World.putObj_heap_other (by omega)).trans h.2⟩
  rintro e W2 ⟨⟨v, rfl⟩, ⟨hi, hat⟩ | ⟨k, hk, c, hi, hat⟩⟩
  ·obtain ⟨hr, hd⟩ := leave hat (by simp)
   exact ⟨none, _, hr, hdone S _ (Nat.le_refl _) (hI' _ _ _ _ _ (by omega) hat.1 rfl hi) hd⟩
  ·obtain ⟨hr, hd⟩ := leave hat (by simp)
   exact ⟨some c, _, hr, wpIn_wide.2 (hstop S k c _ (Nat.le_refl _) hk (hIx' _ _ _ _ _ _ (by omega) hat.1 rfl hi) hd)⟩
end
end Go.Proofs.YtgmijnnhanpocaaGreatDoor
namespace Go.Proofs.YtgmijnnhanpocaaGreatDoor
open Go.ChangeShapes Go.WideShapes Go.ChangeAt Go.RowKit
namespace Cls
theorem class_in {P : Program} {id l k : Nat} {Q : Exit → Act → World → Prop} {a : Act} {w : World} {L : List Oper} {C : World → Prop} (h0 : C w.drew) (hm : P.follows .mixedOrders = true) (hp : L.all Ord.notDefer = true) (hB : Region.lexB .any L.toArray = true)
  (h : wpQuiet P L.toArray C (fun a' => ∀ w', C w' → Q .normal a' w') L a) : (Code.region id L.toArray true).wpIn (Fence.wide.inRound l) k P Q a w := by
 simp only [Region.lexB, Bool.and_eq_true] at hB
 refine wpIn_region_any hm ?_
 have hq := wpAnyQ_lex (P := P) (C := C) (md := .any) hB.1 L 0 (Array.replicate L.toArray.size false) a (by simp) (by simpa using hB.2) h
 have := Ord.any_in (l := l) (k := k) (ops := L.toArray) (R := fun a' w' => Q .normal a' w') (fun o ho => List.all_eq_true.1 hp o (by simpa using ho)) (fun _ _ h => h) L.toArray.size (Array.replicate L.toArray.size false) a w.drew
  (wpAny_of_quiet (Q := fun a' => ∀ w', C w' → Q .normal a' w') (fun _ w' hw' h => ⟨rfl, h w' hw'⟩) _ _ _ _ h0 (by simpa using hq))
 simpa using this
theorem drew_in {P : Program} {id ll k : Nat} {Q : Exit → Act → World → Prop} {a : Act} {w : World} {l : List Oper} (hm : P.follows .mixedOrders = true) (hp : l.all Ord.notDefer = true) (hB : Region.lexB .any l.toArray = true)
  (h : wpQuiet P l.toArray (fun w' => ∃ n, w' = w.drewN n) (fun a' => ∀ w', (∃ n, w' = w.drewN n) → Q .normal a' w') l a) : (Code.region id l.toArray true).wpIn (Fence.wide.inRound ll) k P Q a w := class_in (C := fun w' => ∃ n, w' = w.drewN n) ⟨1, rfl⟩ hm hp hB h
end Cls
end Go.Proofs.YtgmijnnhanpocaaGreatDoor
namespace Go.Proofs.YtgmijnnhanpocaaGreatDoor
open Go.ChangeShapes Go.WideShapes Go.ChangeAt Go.RowKit
namespace Ln
open Rw
theorem neq_pad (r m a : Int) (w : World) : (binOp .neq 50 (cellV r m a) (cellV 0 1 0)).run Tryz.prog w = .ok (.bool (!(r == 0 && m == 1 && a == 0))) w := by
 have hw := w
 cases h1 : (r == 0) <;> cases h2 : (m == 1) <;> cases h3 : (a == 0) <;> go_simp
theorem mayGo_cell : ∀ {l : List Cel} {p : Cel}, mayGo p l = true → ∀ c ∈ l, mayB c = true
 | [], _, _, c, h => by cases h
 | x :: l, p, hm, c, h => by
  have e : mayGo p (x :: l) = (mayB x && ((p.2.1 == 2) == (x.2.1 == 0)) && (!(x.2.1 == 0) || x.2.2 == p.2.2) && mayGo x l) := rfl
  rw [e] at hm
  simp only [Bool.and_eq_true] at hm
  rcases List.mem_cons.1 h with rfl | h
  ·exact hm.1.1.1
  ·exact mayGo_cell hm.2 c h
theorem mayL_cell {l : List Cel} (hm : mayL l = true) : ∀ c ∈ l, mayB c = true := by
 unfold mayL at hm
 simp only [Bool.and_eq_true] at hm
 exact mayGo_cell hm.2
theorem mayB_wide {r m a : Int} (h : mayB (r, m, a) = true) : m = 0 ∨ m = 1 ∨ m = 2 := by
 have hw := wof_range r
 unfold mayB at h
 simp only [Bool.and_eq_true, Bool.or_eq_true, decide_eq_true_eq, beq_iff_eq, Prod.mk.injEq] at h
 omega
theorem filter_next {l : List Cel} {k : Nat} {c : Cel} (h : l[k]? = some c) : (l.take (k + 1)).filter signC = (l.take k).filter signC ++ if signC c then [c] else [] := by
 rw [take_one h, List.filter_append]
 cases hc : signC c <;> simp [hc]
set_option maxRecDepth 100000 in
set_option maxHeartbeats 6400000 in
theorem refSigns_walk (A : Option Addr) (n c : Nat) (wrap : Bool) (l : List Cel) (w : World) (hl : ∀ c ∈ l, -2147483648 ≤ c.1 ∧ c.1 ≤ 2147483647) (hq : Sq w w.heap.size 3 n A (flat l)) (hn : n ≤ 9223372036854775807) :
  Calls Tryz.prog 41 #[rowV A n c wrap] w fun e w' => ∃ v, e = .returned v ∧ HasC w' w.heap.size v (cellsR (wrap, l)) ∧ Below w.heap.size w w' := by
 obtain ⟨i0, hi0, hz0, hz1, hz2⟩ := info_parts infoCell
 have hln : l.length = n := by have := hq.len; rw [flat_length] at this; omega
 obtain ⟨g0, hg0⟩ : ∃ g0, w.heap.size = g0 := ⟨_, rfl⟩
 obtain ⟨w1, hw1⟩ : ∃ w1, w.alloc (.cells #[.slice A n c, .bool wrap] 48) = w1 := ⟨_, rfl⟩
 have b1 : Below w.heap.size w w1 := by rw [← hw1]; exact (Below.refl _ _).alloc (Nat.le_refl _) _
 have x1 : w1.heap[g0]? = some (.cells #[.slice A n c, .bool wrap] 48 (0, 0)) := by rw [← hw1, ← hg0]; exact heap_alloc_new w _
 have Q := Lib.hid ((hq.below b1).up b1.size)
 have HL := Lib.hid hl
 have RR := Lib.hid (fun (W : World) (hb : Below w1.heap.size w1 W) => refRow_any A n c wrap l W hl ((Q.out.below hb).up hb.size) (by omega))
 obtain ⟨M, hM⟩ : ∃ M, mayL l = M := ⟨_, rfl⟩
 have HM := Lib.hid hM
 rw [hM] at RR
 have LN := Lib.hid hln
 have HG := Lib.hid hg0
 have B1 := Lib.hid b1
 have X1 := Lib.hid x1
 have HW := Lib.hid hw1
 have I0 := Lib.hid (Below.refl w1.heap.size w1)
 have RF := Lib.hid (show M = false → cellsR (wrap, l) = [] from fun h => by unfold cellsR; rw [show mayL (wrap, l).2 = M from hM, h]; rfl)
 have RT := Lib.hid (show M = true → cellsR (wrap, l) = l.filter signC from fun h => by unfold cellsR; rw [show mayL (wrap, l).2 = M from hM, h]; rfl)
 have c0 : w1.cell? ⟨g0, 0, none⟩ = some (.slice A n c) := cell_of_row _ _ 0 _ _ (0, 0) x1
 have c1 : w1.cell? ⟨g0, 1, none⟩ = some (.bool wrap) := cell_of_row _ _ 1 _ _ (0, 0) x1
 clear hq hl b1 x1 hM hln hw1
 go_enter Tryz.func41, Tryz.ntmps41
 go_upto_region 1 with fail
 rw [HW.out]
 clear hg0
 go_wp2_with fail
 go_loopw [3, 4] (fun v i wr => ∃ (k p d : Nat) (A1 : Option Addr) (ys : List Cel), v = .slice A1 p d ∧ i = .int .i64 (k : Int) ∧ k ≤ n ∧ p ≤ k ∧ Hid (Below w1.heap.size w1 wr) ∧ Hid (HasC wr w1.heap.size (.slice A1 p d) ys ∧ ys.length = p ∧ ys = (l.take k).filter signC) ∧ Hid (M = false → k = 0)) (fun _ i _ => n - (intOf i).toNat)
 case atStart => exact ⟨0, 0, 0, none, [], rfl, rfl, Nat.zero_le _, Nat.le_refl _, I0, Lib.hid ⟨World.ownsRow_nil _ _ _ _, rfl, rfl⟩, Lib.hid fun _ => rfl⟩
 case round =>
  obtain ⟨k, p, d, A1, ys, rfl, rfl, hk, hpk, I, O, Z⟩ := hrel
  clear I0
  have x2 := (I.out.block g0 (Array.getElem?_eq_some_iff.1 X1.out).1).trans X1.out
  have d0 : wr.cell? ⟨g0, 0, none⟩ = some (.slice A n c) := cell_of_row _ _ 0 _ _ (0, 0) x2
  have d1 : wr.cell? ⟨g0, 1, none⟩ = some (.bool wrap) := cell_of_row _ _ 1 _ _ (0, 0) x2
  clear x2 c0 c1
  by_cases hlt : k < n
  ·obtain ⟨b, off, rfl, hbb, ⟨r, m, a⟩, hcc, q0, q1, q2⟩ := (Q.out.below I.out).three hlt
   have hki : (k : Int) < (n : Int) := by omega
   have HCC := Lib.hid hcc
   have HBB := Lib.hid hbb
   clear hcc hbb
   go_wp2_with fail
   refine (RR.out _ I.out).mono ?_
   rintro e w2 ⟨rfl, b2⟩
   have I2 := Lib.hid (I.out.trans (b2.mono I.out.size))
   have O2 := Lib.hid (show HasC w2 w1.heap.size (.slice A1 p d) ys from own_laid O.out.1 b2)
   have x3 := (I2.out.block g0 (Array.getElem?_eq_some_iff.1 X1.out).1).trans X1.out
   have e0 : w2.cell? ⟨g0, 0, none⟩ = some (.slice (some ⟨b, off, none⟩) n c) := cell_of_row _ _ 0 _ _ (0, 0) x3
   have e1 : w2.cell? ⟨g0, 1, none⟩ = some (.bool wrap) := cell_of_row _ _ 1 _ _ (0, 0) x3
   obtain ⟨s0, s1, s2⟩ := (Q.out.below I2.out).cells HCC.out
   dsimp only at s0 s1 s2
   clear x3 d0 d1 q0 q1 q2 b2
   cases M with
   | false =>
    have h0 := Z.out rfl
    subst h0
    obtain rfl : p = 0 := by omega
    have OF := Lib.hid (show HasC w2 w1.heap.size (.slice A1 0 d) (cellsR (wrap, l)) from by
     have h := O2.out
     rw [show ys = [] from List.length_eq_zero_iff.1 O.out.2.1] at h
     rw [RF.out rfl]
     exact h)
    go_wp2
    go_ret
    exact ⟨_, rfl, own_down OF.out B1.out.size, B1.out.trans (I2.out.mono B1.out.size)⟩
   | true =>
    have hmay := mayL_cell HM.out _ (List.mem_of_getElem? HCC.out)
    have hm3 := mayB_wide hmay
    have hn300 : n ≤ 300 := by
     have h := HM.out
     unfold mayL at h
     simp only [Bool.and_eq_true, decide_eq_true_eq] at h
     have := LN.out
     omega
    have FN := Lib.hid (filter_next HCC.out)
    obtain ⟨w3, hw3⟩ : ∃ w3, w2.alloc (.cells #[.int .i32 r, .int .i64 m, .int .i64 a] 50) = w3 := ⟨_, rfl⟩
    have HW3 := Lib.hid hw3
    have b3 : Laid w2 w3 := by rw [← hw3]; exact (Below.refl _ _).alloc (Nat.le_refl _) _
    have x4 : w3.heap[w2.heap.size]? = some (.cells #[.int .i32 r, .int .i64 m, .int .i64 a] 50 (0, 0)) := by rw [← hw3]; exact heap_alloc_new w2 _
    have z3 : w3.heap.size = w2.heap.size + 1 := by rw [← hw3]; simp
    have I3 := Lib.hid (I2.out.trans (b3.mono I2.out.size))
    have O3 := Lib.hid (show HasC w3 w1.heap.size (.slice A1 p d) ys from own_laid O2.out b3)
    obtain ⟨gc, hgc⟩ : ∃ gc, w2.heap.size = gc := ⟨_, rfl⟩
    rw [hgc] at x4
    have X4 := Lib.hid x4
    have HGC := Lib.hid hgc
    clear hw3 hmay b3 x4 z3
    go_upto_region 6 with fail
    rw [HW3.out]
    clear hgc e0 e1 s0 s1 s2
    obtain ⟨D, hD⟩ : ∃ D, (r == 0 && m == 1 && a == 0) = D := ⟨_, rfl⟩
    have NE := fun w => neq_pad r m a w
    rw [hD] at NE
    obtain ⟨J, hJ, F, h0, hB, hN'⟩ := Cls.below w3
    have H0 := Lib.hid h0
    have HBn := Lib.hid hB
    have PDN := Lib.hid (show ∀ n, Calls Tryz.prog 33 #[] (F n) fun e w' => e = .returned (cellV 0 1 0) ∧ ∃ m, w' = F m from fun n => (refPad_walk (F n)).mono fun e w' ⟨he, hb⟩ => ⟨he, hN' n w' hb⟩)
    have XF := Lib.hid (show ∀ n, (F n).heap[gc]? = some (.cells #[.int .i32 r, .int .i64 m, .int .i64 a] 50 (0, 0)) from fun n => ((hB n).block gc (Array.getElem?_eq_some_iff.1 X4.out).1).trans X4.out)
    have k0 : ∀ n, (F n).cell? ⟨gc, 0, none⟩ = some (.int .i32 r) := fun n => cell_of_row _ _ 0 _ _ (0, 0) (XF.out n)
    have k1 : ∀ n, (F n).cell? ⟨gc, 1, none⟩ = some (.int .i64 m) := fun n => cell_of_row _ _ 1 _ _ (0, 0) (XF.out n)
    have k2 : ∀ n, (F n).cell? ⟨gc, 2, none⟩ = some (.int .i64 a) := fun n => cell_of_row _ _ 2 _ _ (0, 0) (XF.out n)
    have hkb : k < 1000000 := by omega
    have hinc : IntKind.i64.wrap ((k : Int) + 1) = (k : Int) + 1 := IntWalk.i64_in _ (by omega)
    have HD := Lib.hid hD
    clear h0 hB hN' hD
    by_cases hm0 : m = 0
    ·have hgt : ¬ (0 : Int) < m := by omega
     have hgd : decide ((0 : Int) < m) = false := by simp [hgt]
     have NS := Lib.hid (show (l.take (k + 1)).filter signC = (l.take k).filter signC from by
      rw [FN.out, show signC (r, m, a) = false by subst hm0; simp [signC]]
      simp)
     clear hm3
     refine Cls.region F H0.out (by kernel_rfl) (by kernel_rfl) ?_
     repeat (go_big_quiet_step ((go_at_call 33; exact PDN.out _)))
     refine wpQuiet_nil ?_
     intro _ hw'
     obtain ⟨nq, hw''⟩ := hw'
     subst hw''
     have IQ := Lib.hid (I3.out.trans ((HBn.out nq).mono I3.out.size))
     have OQ := Lib.hid (show HasC (F nq) w1.heap.size (.slice A1 p d) ys from own_laid O3.out (HBn.out nq))
     clear k0 k1 k2 NE hm0
     go_wp2
     go_roundw
     case rel => exact ⟨k + 1, p, d, A1, ys, by trivial, by go_num, by omega, by omega, IQ, Lib.hid ⟨OQ.out, O.out.2.1, O.out.2.2.trans NS.out.symm⟩, Lib.hid (fun h => by cases h)⟩
     case measure => simp [intOf]; omega
    ·have hgt : (0 : Int) < m := by omega
     have hgd : decide ((0 : Int) < m) = true := by simp [hgt]
     have hmz : (m == 0) = false := by simp [hm0]
     cases D with
     | true =>
      have NS := Lib.hid (show (l.take (k + 1)).filter signC = (l.take k).filter signC from by
       rw [FN.out, show signC (r, m, a) = false by unfold signC padC isB; simp only; rw [HD.out]; simp]
       simp)
      clear hm3
      refine Cls.region F H0.out (by kernel_rfl) (by kernel_rfl) ?_
      repeat (go_big_quiet_step ((go_at_call 33; exact PDN.out _)))
      refine wpQuiet_nil ?_
      intro _ hw'
      obtain ⟨nq, hw''⟩ := hw'
      subst hw''
      have IQ := Lib.hid (I3.out.trans ((HBn.out nq).mono I3.out.size))
      have OQ := Lib.hid (show HasC (F nq) w1.heap.size (.slice A1 p d) ys from own_laid O3.out (HBn.out nq))
      clear k0 k1 k2 NE hm0
      go_wp2
      go_roundw
      case rel => exact ⟨k + 1, p, d, A1, ys, by trivial, by go_num, by omega, by omega, IQ, Lib.hid ⟨OQ.out, O.out.2.1, O.out.2.2.trans NS.out.symm⟩, Lib.hid (fun h => by cases h)⟩
      case measure => simp [intOf]; omega
     | false =>
      have NS := Lib.hid (show (l.take (k + 1)).filter signC = (l.take k).filter signC ++ [(r, m, a)] from by
       rw [FN.out, show signC (r, m, a) = true by unfold signC padC isB; simp only; rw [HD.out, hmz]; rfl]
       simp)
      clear hm3
      refine Cls.region F H0.out (by kernel_rfl) (by kernel_rfl) ?_
      repeat (go_big_quiet_step ((go_at_call 33; exact PDN.out _)))
      refine wpQuiet_nil ?_
      intro _ hw'
      obtain ⟨nq, hw''⟩ := hw'
      subst hw''
      have IQ := Lib.hid (I3.out.trans ((HBn.out nq).mono I3.out.size))
      have OQ := Lib.hid (show (F nq).ownsRow w1.heap.size 50 3 (.slice A1 p d) p (flat ys) from by
       have h : (F nq).ownsRow w1.heap.size 50 3 (.slice A1 p d) ys.length (flat ys) := own_laid O3.out (HBn.out nq)
       rwa [O.out.2.1] at h)
      have j0 := k0 nq
      have j1 := k1 nq
      have j2 := k2 nq
      have hBz : w1.heap.size ≤ ((F nq).alloc (.cells #[.int .i32 r, .int .i64 m, .int .i64 a] 50)).heap.size := by
       have := IQ.out.size
       have := B1.out.size
       simp
       omega
      have HBZ := Lib.hid hBz
      have F1 := Lib.hid (show p + 1 ≤ maxLen ∧ (p + 1) * 24 ≤ 140737488355328 from by unfold maxLen; omega)
      clear k0 k1 k2 NE hm0 hBz
      go_wp2_with (at_builtin; refine wpList_append_own _ rfl _ _ 46 rfl w1.heap.size 50 i0 (.agg #[.int .i32 0, .int .i64 0, .int .i64 0]) 3 24 Tryz.underlying46 hi0 hz0 hz1 hz2 rfl (by decide) _ _ _ rfl (OQ.out.alloc _) ⟨(F nq).heap.size, 0, none⟩ 1 1 [.int .i32 r, .int .i64 m, .int .i64 a] rfl rfl (cell_three _ _ _ _ _) (by simp [Value.oneCell']) F1.out.1 F1.out.2 HBZ.out ?_; intro v4 w4 ho4 hg4 _; (obtain ⟨A4, d4, rfl, _⟩ := own_cap ho4); (have O4 := Lib.hid ho4); (have G4 := Lib.hid hg4); clear ho4 hg4)
      go_roundw
      case rel =>
       have ba : Laid (F nq) ((F nq).alloc (.cells #[.int .i32 r, .int .i64 m, .int .i64 a] 50)) := (Below.refl _ _).alloc (Nat.le_refl _) _
       refine ⟨k + 1, p + 1, d4, A4, ys ++ [(r, m, a)], by trivial, by go_num, by omega, by omega, Lib.hid ?_, Lib.hid ⟨?_, by rw [List.length_append, O.out.2.1]; rfl, by rw [NS.out, O.out.2.2]⟩, Lib.hid (fun h => by cases h)⟩
       ·exact (IQ.out.trans (ba.mono IQ.out.size)).grown G4.out HBZ.out (fun j e => (OQ.out.lt j e).1)
       ·show World.ownsRow _ _ _ _ _ (ys ++ [(r, m, a)]).length (flat (ys ++ [(r, m, a)]))
        rw [List.length_append, O.out.2.1, flat_append]
        exact O4.out
      case measure => simp [intOf]; omega
  ·obtain rfl : k = n := by omega
   have hnl : ¬ (k : Int) < (k : Int) := by omega
   have YA := Lib.hid (show HasC wr w.heap.size (.slice A1 p d) (cellsR (wrap, l)) from by
    have e : cellsR (wrap, l) = ys := by
     cases hM : M with
     | false =>
      rw [RF.out hM]
      have h0 := Z.out hM
      have h1 := O.out.2.1
      exact (List.length_eq_zero_iff.1 (by omega)).symm
     | true =>
      rw [RT.out hM, O.out.2.2, List.take_of_length_le (by rw [LN.out]; exact Nat.le_refl _)]
    rw [e]
    exact own_down O.out.1 B1.out.size)
   go_wp2
   go_ret
   exact ⟨_, rfl, YA.out, B1.out.trans (I.out.mono B1.out.size)⟩
end Ln
end Go.Proofs.YtgmijnnhanpocaaGreatDoor
namespace Go.Proofs.YtgmijnnhanpocaaGreatDoor
open Go.ChangeShapes Go.WideShapes Go.ChangeAt Go.RowKit
namespace Ln
open Rw
theorem infoInt : (Tryz.prog.info? 3).map (fun i => (i.zero, i.size, i.bytes)) = some (some (.int .i64 0), 1, 8) := by kernel_rfl
def offR (l : List LR) : Nat := l.foldl (fun at' r => if goes r then at' + (cellsR r).length else 0) 0
theorem offR_snoc (l : List LR) (r : LR) : offR (l ++ [r]) = if goes r then offR l + (cellsR r).length else 0 := by unfold offR; rw [List.foldl_append]; rfl
theorem cellsR_len (r : LR) : (cellsR r).length ≤ 300 := by
 unfold cellsR
 split
 ·rename_i h
  unfold mayL at h
  simp only [Bool.and_eq_true, decide_eq_true_eq] at h
  exact Nat.le_trans (List.length_filter_le _ _) h.1
 ·exact Nat.zero_le _
theorem offR_le (l : List LR) : offR l ≤ 300 * l.length := by
 refine snoc_ind (P := fun l => offR l ≤ 300 * l.length) (Nat.zero_le _) (fun l x ih => ?_) l
 rw [offR_snoc, List.length_append, List.length_singleton]
 have := cellsR_len x
 split <;> omega
theorem ends_le (l : List LR) : ends l ≤ l.length := List.length_filter_le _ _
def linesV (L : List LR) (k : Nat) : List Value := (List.range k).map fun i => .int .i64 ((ends (L.take i) : Nat) : Int)
def offsV (L : List LR) (k : Nat) : List Value := (List.range k).map fun i => .int .i64 ((offR (L.take i) : Nat) : Int)
theorem linesV_next (L : List LR) (k : Nat) : linesV L (k + 1) = linesV L k ++ [.int .i64 ((ends (L.take k) : Nat) : Int)] := by unfold linesV; rw [List.range_succ, List.map_append]; rfl
theorem offsV_next (L : List LR) (k : Nat) : offsV L (k + 1) = offsV L k ++ [.int .i64 ((offR (L.take k) : Nat) : Int)] := by unfold offsV; rw [List.range_succ, List.map_append]; rfl
theorem linesV_get {L : List LR} {k i : Nat} (h : i < k) : (linesV L k)[i]? = some (.int .i64 ((ends (L.take i) : Nat) : Int)) := by unfold linesV; rw [List.getElem?_map, List.getElem?_range h]; rfl
theorem offsV_get {L : List LR} {k i : Nat} (h : i < k) : (offsV L k)[i]? = some (.int .i64 ((offR (L.take i) : Nat) : Int)) := by unfold offsV; rw [List.getElem?_map, List.getElem?_range h]; rfl
theorem sq_single (w : World) (e : TypeId) (x : Value) : Sq (w.alloc (.cells #[x] e)) (w.heap.size + 1) 1 1 (some ⟨w.heap.size, 0, none⟩) [x] :=
 ⟨rfl, fun _ => ⟨w.heap.size, 0, rfl, Nat.lt_succ_self _, fun j u hu => by
  have h := cell_single w e x j u hu
  rw [add_at] at h
  exact h⟩⟩
def OfPost (L : List LR) (n : Nat) (w : World) (e : Ending) (w' : World) : Prop :=
 ∃ v1 v2, e = .returned (.tuple #[v1, v2]) ∧ w'.ownsRow w.heap.size 3 1 v1 n (linesV L n) ∧ w'.ownsRow w.heap.size 3 1 v2 n (offsV L n) ∧ Below w.heap.size w w'
set_option maxRecDepth 100000 in
set_option maxHeartbeats 6400000 in
theorem refOf_walk (A : Option Addr) (n c : Nat) (rs : List RowIn) (w : World) (hr : Rws w w.heap.size A n rs) (hn : n ≤ 1000000) :
  Calls Tryz.prog 40 #[.slice A n c] w fun e w' => OfPost (rs.map lr) n w e w' := by
 obtain ⟨i0, hi0, hz0, hz1, hz2⟩ := info_parts infoInt
 have R := Lib.hid hr
 have I0 := Lib.hid (Below.refl w.heap.size w)
 obtain ⟨L, hL⟩ : ∃ L, rs.map lr = L := ⟨_, rfl⟩
 have HL := Lib.hid hL
 rw [hL]
 clear hr hL
 go_enter Tryz.func40, Tryz.ntmps40
 go_wp2_with fail
 go_loopw [4, 5, 6, 7, 8] (fun v1 v2 nn at' i wr => ∃ (k d1 d2 E O : Nat) (A1 A2 : Option Addr), v1 = .slice A1 k d1 ∧ v2 = .slice A2 k d2 ∧ nn = .int .i64 (E : Int) ∧ at' = .int .i64 (O : Int) ∧ i = .int .i64 (k : Int) ∧ k ≤ n ∧ Hid (E = ends (L.take k) ∧ O = offR (L.take k)) ∧ Hid (Below w.heap.size w wr) ∧ Hid (wr.ownsRow w.heap.size 3 1 (.slice A1 k d1) k (linesV L k) ∧ wr.ownsRow w.heap.size 3 1 (.slice A2 k d2) k (offsV L k) ∧ ∀ j, (Value.slice A1 k d1).ownBlock = some j → (Value.slice A2 k d2).ownBlock ≠ some j)) (fun _ _ _ _ i _ => n - (intOf i).toNat)
 case atStart => exact ⟨0, 0, 0, 0, 0, none, none, rfl, rfl, rfl, rfl, rfl, Nat.zero_le _, Lib.hid ⟨rfl, rfl⟩, I0, Lib.hid ⟨World.ownsRow_nil _ _ _ _, World.ownsRow_nil _ _ _ _, fun j e => by cases e⟩⟩
 case round =>
  obtain ⟨k, d1, d2, E, O, A1, A2, rfl, rfl, rfl, rfl, rfl, hk, EO, I, OW⟩ := hrel
  clear I0
  by_cases hlt : k < n
  ·obtain ⟨r, hr⟩ : ∃ r, rs[k]? = some r := ⟨_, List.getElem?_eq_getElem (by rw [R.out.len]; exact hlt)⟩
   have RO := Lib.hid (R.out.each r (List.mem_of_getElem? hr))
   obtain ⟨b, off, rfl, hb, q0, q1⟩ := rows_at R.out.sq hr hlt
   have hLk : L[k]? = some (lr r) := by rw [← HL.out, List.getElem?_map, hr]; rfl
   have NE := Lib.hid (show ends (L.take (k + 1)) = E + if goes (lr r) then 0 else 1 from by rw [take_one hLk, ends_snoc, EO.out.1])
   have NO := Lib.hid (show offR (L.take (k + 1)) = if goes (lr r) then O + (cellsR (lr r)).length else 0 from by rw [take_one hLk, offR_snoc, EO.out.2])
   have CB := Lib.hid (show ∀ W, Below w.heap.size w W → W.cell? ⟨b, off + k * 2, none⟩ = some (.slice r.A r.n r.c) ∧ W.cell? ⟨b, off + k * 2 + 1, none⟩ = some (.bool r.wrap) from fun W hW => ⟨(hW.cell (p := ⟨b, off + k * 2, none⟩) hb).trans q0, (hW.cell (p := ⟨b, off + k * 2 + 1, none⟩) hb).trans q1⟩)
   have hki : (k : Int) < (n : Int) := by omega
   have hE : E ≤ k := by have h := ends_le (L.take k); have := EO.out.1; rw [List.length_take] at h; omega
   have hO : O ≤ 300 * k := by have h := offR_le (L.take k); have := EO.out.2; rw [List.length_take] at h; omega
   have hF : k + 1 ≤ maxLen ∧ (k + 1) * 8 ≤ 140737488355328 := by unfold maxLen; omega
   have F1 := Lib.hid hF
   have BZ := Lib.hid I.out.size
   obtain ⟨sL, hsL⟩ : ∃ sL, (cellsR (lr r)).length = sL := ⟨_, rfl⟩
   have hs300 : sL ≤ 300 := by rw [← hsL]; exact cellsR_len _
   have SL := Lib.hid hsL
   clear hr q0 q1 hLk hsL hF
   go_upto_region 7 with (first
    | (at_builtin; refine wpl_app rfl _ _ 43 rfl w.heap.size 3 i0 (.int .i64 0) 1 8 Tryz.underlying43 hi0 hz0 hz1 hz2 rfl (by decide) (.slice A1 k d1) k (linesV L k) rfl (OW.out.1.alloc _) (some ⟨wr.heap.size, 0, none⟩) 1 1 [.int .i64 (E : Int)] rfl (wr.heap.size + 1) (sq_single _ _ _) (by simp [Value.oneCell']) F1.out.1 F1.out.2 (by have := BZ.out; simp; omega) ?_; intro v4 w4 ho4 hg4 hb4; (obtain ⟨A4, d4, rfl, _⟩ := own_cap ho4); (have O4 := Lib.hid ho4); (have G4 := Lib.hid hg4); (have B4 := Lib.hid hb4); (have P4 := Lib.hid (own_keep (OW.out.2.1.alloc (.cells #[.int .i64 (E : Int)] 3)) (fun j hj => hg4.block j (by have := (OW.out.2.1.lt j hj).2; simp; omega) (fun e => OW.out.2.2 j e.symm hj)))); (have Z4 := Lib.hid (show w.heap.size ≤ w4.heap.size from Nat.le_trans (by have := BZ.out; simp; omega) hg4.size)); clear ho4 hg4 hb4)
    | (at_builtin; refine wpl_app rfl _ _ 43 rfl w.heap.size 3 i0 (.int .i64 0) 1 8 Tryz.underlying43 hi0 hz0 hz1 hz2 rfl (by decide) (.slice A2 k d2) k (offsV L k) rfl (P4.out.alloc _) (some ⟨w4.heap.size, 0, none⟩) 1 1 [.int .i64 (O : Int)] rfl (w4.heap.size + 1) (sq_single _ _ _) (by simp [Value.oneCell']) F1.out.1 F1.out.2 (by have := Z4.out; simp; omega) ?_; intro v5 w5 ho5 hg5 hb5; (obtain ⟨A5, d5, rfl, _⟩ := own_cap ho5); (have O5 := Lib.hid ho5); (have G5 := Lib.hid hg5); (have B5 := Lib.hid hb5); clear ho5 hg5 hb5))
   have L4 : Laid w4 (w4.alloc (.cells #[.int .i64 (O : Int)] 3)) := (Below.refl _ _).alloc (Nat.le_refl _) _
   have b4 : Below w.heap.size w w4 := (I.out.alloc I.out.size _).grown G4.out (by have := BZ.out; simp; omega) (fun j e => (OW.out.1.lt j e).1)
   have I5 := Lib.hid (show Below w.heap.size w w5 from (b4.alloc b4.size _).grown G5.out (by have := Z4.out; simp; omega) (fun j e => (P4.out.lt j e).1))
   have X5 := Lib.hid (show w5.ownsRow w.heap.size 3 1 (.slice A4 (k + 1) d4) (k + 1) (linesV L (k + 1)) ∧ w5.ownsRow w.heap.size 3 1 (.slice A5 (k + 1) d5) (k + 1) (offsV L (k + 1)) ∧ ∀ j, (Value.slice A4 (k + 1) d4).ownBlock = some j → (Value.slice A5 (k + 1) d5).ownBlock ≠ some j from by
    rw [linesV_next, offsV_next, ← EO.out.1, ← EO.out.2]
    have apart4 : ∀ j, (Value.slice A4 (k + 1) d4).ownBlock = some j → (Value.slice A2 k d2).ownBlock ≠ some j := fun j hj e => by
     rcases B4.out with h | h
     ·exact OW.out.2.2 j (h.symm.trans hj) e
     ·rw [h] at hj
      injection hj with hj
      have := (OW.out.2.1.lt j e).2
      simp at hj
      omega
    refine ⟨own_keep (O4.out.alloc _) (fun j hj => G5.out.block j (by have := (O4.out.lt j hj).2; simp; omega) (fun e => apart4 j hj e.symm)), O5.out, fun j hj e => ?_⟩
    rcases B5.out with h | h
    ·exact apart4 j hj (h.symm.trans e)
    ·rw [h] at e
     injection e with e
     have := (O4.out.lt j hj).2
     simp at e
     omega)
   obtain ⟨q0, q1⟩ := CB.out w5 I5.out
   clear L4 b4 O4 O5 G4 G5 B4 B5 P4 Z4 OW
   have SW := Lib.hid (refSigns_walk r.A r.n r.c r.wrap r.l w5 RO.out.signs ((RO.out.sq.below I5.out).up I5.out.size) (by have h1 := RO.out.le; have h2 := RO.out.cap; unfold maxLen at h2; omega))
   go_wp2_with fail
   refine SW.out.mono ?_
   rintro e w6 ⟨v6, rfl, h6, b6⟩
   obtain ⟨A6, d6, rfl, _⟩ := own_cap (show w6.ownsRow w5.heap.size 50 3 v6 (cellsR (lr r)).length (flat (cellsR (lr r))) from h6)
   have I6 := Lib.hid (I5.out.trans (b6.mono I5.out.size))
   have X6 := Lib.hid (show w6.ownsRow w.heap.size 3 1 (.slice A4 (k + 1) d4) (k + 1) (linesV L (k + 1)) ∧ w6.ownsRow w.heap.size 3 1 (.slice A5 (k + 1) d5) (k + 1) (offsV L (k + 1)) ∧ ∀ j, (Value.slice A4 (k + 1) d4).ownBlock = some j → (Value.slice A5 (k + 1) d5).ownBlock ≠ some j from ⟨own_laid X5.out.1 b6, own_laid X5.out.2.1 b6, X5.out.2.2⟩)
   obtain ⟨q0, q1⟩ := CB.out w6 I6.out
   have SL' := SL.out
   rw [SL'] at NO ⊢
   have RW := Lib.hid (refRow_any r.A r.n r.c r.wrap r.l w6 RO.out.signs ((RO.out.sq.below I6.out).up I6.out.size) (by have h1 := RO.out.le; have h2 := RO.out.cap; unfold maxLen at h2; omega))
   have GO := Lib.hid (show goes (lr r) = (r.wrap && mayL r.l) from rfl)
   obtain ⟨ma, hma⟩ : ∃ ma, mayL r.l = ma := ⟨_, rfl⟩
   rw [hma] at RW GO
   obtain ⟨rA, rn, rc, rb, rl⟩ := r
   dsimp only at q0 q1 RW GO
   clear b6 h6 SW hma SL' X5 I5
   cases rb with
   | false =>
    have N1 := Lib.hid (show E + 1 = ends (L.take (k + 1)) ∧ 0 = offR (L.take (k + 1)) from by rw [NE.out, NO.out, GO.out]; simp)
    go_wp2_with fail
    go_roundw
    case rel => exact ⟨k + 1, d4, d5, E + 1, 0, A4, A5, rfl, rfl, by go_num, rfl, by go_num, by omega, N1, I6, X6⟩
    case measure => simp [intOf]; omega
   | true =>
    go_wp2_with fail
    refine RW.out.mono ?_
    rintro e w7 ⟨rfl, b7⟩
    have I7 := Lib.hid (I6.out.trans (b7.mono I6.out.size))
    have X7 := Lib.hid (show w7.ownsRow w.heap.size 3 1 (.slice A4 (k + 1) d4) (k + 1) (linesV L (k + 1)) ∧ w7.ownsRow w.heap.size 3 1 (.slice A5 (k + 1) d5) (k + 1) (offsV L (k + 1)) ∧ ∀ j, (Value.slice A4 (k + 1) d4).ownBlock = some j → (Value.slice A5 (k + 1) d5).ownBlock ≠ some j from ⟨own_laid X6.out.1 b7, own_laid X6.out.2.1 b7, X6.out.2.2⟩)
    clear b7 RW X6 I6 q0 q1
    cases ma with
    | false =>
     have N1 := Lib.hid (show E + 1 = ends (L.take (k + 1)) ∧ 0 = offR (L.take (k + 1)) from by rw [NE.out, NO.out, GO.out]; simp)
     go_wp2_with fail
     go_roundw
     case rel => exact ⟨k + 1, d4, d5, E + 1, 0, A4, A5, rfl, rfl, by go_num, rfl, by go_num, by omega, N1, I7, X7⟩
     case measure => simp [intOf]; omega
    | true =>
     have N1 := Lib.hid (show E = ends (L.take (k + 1)) ∧ O + sL = offR (L.take (k + 1)) from by rw [NE.out, NO.out, GO.out]; simp)
     go_wp2_with fail
     go_roundw
     case rel => exact ⟨k + 1, d4, d5, E, O + sL, A4, A5, rfl, rfl, by first | rfl | trivial, by go_num, by go_num, by omega, N1, I7, X7⟩
     case measure => simp [intOf]; omega
  ·obtain rfl : k = n := by omega
   have hnl : ¬ (k : Int) < (k : Int) := by omega
   go_wp2
   exact bodyPost_ret (v := .tuple #[.slice A1 k d1, .slice A2 k d2]) (results_tmp2 (t := 2) (u := 3) rfl _ _ _) rfl ⟨_, _, rfl, OW.out.1, OW.out.2.1, I.out⟩
end Ln
end Go.Proofs.YtgmijnnhanpocaaGreatDoor
