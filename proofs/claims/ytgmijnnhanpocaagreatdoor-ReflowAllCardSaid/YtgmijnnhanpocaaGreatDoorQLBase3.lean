/-
  A range over a function that writes memory of its own between what it tells: as in Over, where what abides is said of a relation Rl. (Over any program.) A region that draws its order, gone through once, in every world of a class: what it reads stays there, and what it calls may make memory. A region that draws its order, inside a round of a range over a function: what only reads, and calls that may make memory, gone through once in every world of a class. (Over any program.) The reference's Width answers what width.Of answers, for every sign.
-/
import Derived.Test.YtgmijnnhanpocaaGreatDoorQLLine0
import Derived.Test.YtgmijnnhanpocaaGreatDoorQLBase1
import Derived.BigQuiet
import Derived.Test.YtgmijnnhanpocaaGreatDoorQLBase2
import Derived.Test.YtgmijnnhanpocaaGreatDoorQLBase0
import Derived.Outline
namespace Go.Proofs.YtgmijnnhanpocaaGreatDoor
open Go.RowKit
section
variable {P : Program}
def TellsR (Rl : World → World → Prop) (P : Program) (g : Nat) (lb : Array Value) (N : Nat) (Fit : Nat → Array Value → World → Prop) (Kp : World → World → Prop) (w : World) : Prop :=
 ∀ (l : Nat) (J Jx : Nat → World → Prop) (W : World), Laid w W → (∀ k A B, J k A → Rl A B → J k B) → (∀ k A B, Jx k A → Rl A B → Jx k B) →
  (∀ k x W1, k < N → J k W1 → Fit k x W1 → YieldAt Fence.wide 1 P l x W1 fun e W' => (e = .returned (.bool true) ∧ J (k + 1) W' ∧ Kp W1 W') ∨ (e = .returned (.bool false) ∧ Jx (k + 1) W')) →
  J 0 W → CallsIn Fence.wide 2 P g (#[.func (.yield l) #[] #[]] ++ lb) W fun e W' => (∃ v, e = .returned v) ∧ (J N W' ∨ ∃ k, k < N ∧ Jx (k + 1) W')
def GrowsR (Rl : World → World → Prop) (p : World → Prop) : Prop := ∀ A B, p A → Rl A B → p B
theorem wp_overR {Rl : World → World → Prop} (hRl : ∀ A B, Laid A B → Rl A B) (hRk : ∀ (A B : World) (j : Nat) (o : Obj), Rl A B → A.heap[j]? = some o → o.isCells = false → B.heap[j]? = some o) {g : Operand} {ps : Array Tmp} {assign body : Code} {Q : Exit → Act → World → Prop} {a : Act} {w : World} {gf : Nat} {lb : Array Value} {N : Nat} {Fit : Nat → Array Value → World → Prop} {Kp : World → World → Prop}
  (hg : a.eval g = .func (.func gf) #[] lb) (eg : ∀ args w, (callFunc gf args).run P w = .ok (.enter gf args) w) (hT : TellsR Rl P gf lb N Fit Kp w)
  (hKt : ∀ {A B C : World}, Kp A B → Kp B C → Kp A C) (hKa : ∀ A B : World, w.heap.size ≤ A.heap.size → Laid A B → Kp A B) (hKb : ∀ (W : World) (l : Nat) (o o' : Obj), w.heap.size ≤ l → W.heap[l]? = some o → o.isCells = false → Kp W (W.putObj l o'))
  (hps : ∀ k x W, Fit k x W → x.size = ps.size) (I : Nat → World → Prop) (Ix : Code → Nat → World → Prop)
  (hI : ∀ k, GrowsR Rl (I k)) (hI' : ∀ k, Stays w.heap.size (I k)) (hIx : ∀ c k, GrowsR Rl (Ix c k)) (hIx' : ∀ c k, Stays w.heap.size (Ix c k)) (h0 : I 0 w)
  (hround : ∀ (l k : Nat) (x : Array Value) (W : World), k < N → w.heap.size ≤ l → (∃ o : Obj, W.heap[l]? = some o ∧ o.isCells = false) → I k W → Fit k x W →
   assign.wpIn (Fence.wide.inRound l) 1 P (Exit.then (fun a₁ W₁ => Laid W W₁ ∧ ∀ o : Obj, body.wpIn (Fence.wide.inRound l) 1 P (overPost w.heap.size Kp I Ix (k + 1) (W₁.putObj l o)) a₁ (W₁.putObj l o)) (fun _ _ _ => False))
    {tmps := (ps.zip x).foldl (fun t (p, v) => t.setIfInBounds p v) a.tmps, defers := [] } W)
  (hdone : ∀ (D : Nat) (W : World), w.heap.size ≤ D → I N W → W.heap[D]? = some (.deferred (some [])) → Q .normal { a with defers := { target := .collected D, args := #[] } :: a.defers } W)
  (hstop : ∀ (D k : Nat) (c : Code) (W : World), w.heap.size ≤ D → k < N → Ix c (k + 1) W → W.heap[D]? = some (.deferred (some [])) → c.wp P Q { a with defers := { target := .collected D, args := #[] } :: a.defers } W) :
  (Code.rangeFunc g ps assign body).wp P Q a w := by
 refine (wpIn_wide (n := 3)).1 (wpIn_rangeFunc fun fn hfn => ?_)
 obtain ⟨S, hS⟩ : ∃ S, w.heap.size = S := ⟨_, rfl⟩
 obtain ⟨rc, hrc⟩ : ∃ rc : LoopState → Option Code → Loop, rc = fun st pe => { state := st, pending := pe, fn, tmps := a.tmps, params := ps, assign, body, defers := w.heap.size } := ⟨_, rfl⟩
 have hwith : ∀ (st st' : LoopState) (pe pe' : Option Code), ({ rc st pe with state := st', pending := pe' } : Loop) = rc st' pe' := fun _ _ _ _ => by rw [hrc]
 have hbegin : ({ rc .ready none with state := .busy } : Loop) = rc .busy none := by rw [hrc]
 have hstate : ∀ st pe, (rc st pe).state = st ∧ (rc st pe).pending = pe := fun _ _ => by rw [hrc]; exact ⟨rfl, rfl⟩
 have hend : ∀ st pe, ({ rc st pe with state := .exhausted } : Loop) = rc .exhausted pe := fun _ _ => by rw [hrc]
 let At (st : LoopState) (pe : Option Code) (W : World) : Prop := W.heap[S + 1]? = some (.loop (rc st pe)) ∧ W.heap[S]? = some (.deferred (some []))
 have hAtG : ∀ {st pe A B}, At st pe A → Rl A B → At st pe B := fun h hb => ⟨hRk _ _ _ _ hb h.1 rfl, hRk _ _ _ _ hb h.2 rfl⟩
 have hPut : ∀ {st pe W} (st' : LoopState) (pe' : Option Code), At st pe W → At st' pe' (W.putObj (S + 1) (.loop (rc st' pe'))) := fun st' pe' h =>
  ⟨World.putObj_heap_same (Array.getElem?_eq_some_iff.1 h.1).1, (World.putObj_heap_other (by omega)).trans h.2⟩
 have hAtK : ∀ {st pe A B}, At st pe A → KeepsFrom S A B → At st pe B := fun h hk => ⟨hk.same _ _ (by omega) h.1 rfl, hk.same _ _ (Nat.le_refl _) h.2 rfl⟩
 obtain ⟨W1, hW1⟩ : ∃ W1, (w.alloc (.deferred (some []))).alloc (.loop (rc .ready none)) = W1 := ⟨_, rfl⟩
 have hL : Laid w W1 := by rw [← hW1]; exact ((Below.refl _ w).alloc (Nat.le_refl _) _).alloc (by simp) _
 have h1 : At .ready none W1 := by
  constructor
  ·rw [← hW1, ← hS]
   have := World.alloc_heap_new (w.alloc (.deferred (some []))) (.loop (rc .ready none))
   rwa [World.size_alloc] at this
  ·rw [← hW1, ← hS]
   exact (Below.heap_alloc _ _ _ (by simp)).trans (World.alloc_heap_new w _)
 refine ⟨w.heap.size + 1, [{ target := .collected w.heap.size, args := #[] }], W1, { target := .fn (.func gf) lb, args := #[.func (.yield (w.heap.size + 1)) #[] #[]] }, W1, gf, #[.func (.yield (w.heap.size + 1)) #[] #[]] ++ lb, W1,
  by rw [← hW1, hrc]; exact run_enterLoop_outer _ _ _ _ _, by simp only [resolve, hg]; simp [go_sem], fun f' hf' => trivial, by simp [invoke, go_sem, eg], (fun _ => by decide), ?_⟩
 rw [hS] at hKa hKb hI' hIx' hround hdone hstop ⊢
 have big : ∀ {st pe W}, At st pe W → S ≤ W.heap.size := fun h => by have := (Array.getElem?_eq_some_iff.1 h.2).1; omega
 refine (hT (S + 1) (fun k W => I k W ∧ At .ready none W) (fun k W => ∃ c, Ix c k W ∧ At .done (some c) W) W1 hL
  (fun k A B h hb => ⟨hI k A B h.1 hb, hAtG h.2 hb⟩) (fun k A B h hb => by obtain ⟨c, h1, h2⟩ := h; exact ⟨c, hIx c k A B h1 hb, hAtG h2 hb⟩) ?_ ⟨hI 0 _ _ h0 (hRl _ _ hL), h1⟩).mono ?_
 ·rintro k x W hk ⟨hi, hat⟩ hf
  have hy := run_yield (P := P) (args := x) hat.1 (by rw [hrc]; exact hps k x W hf)
  rw [hrc] at hy
  refine ⟨fn, _, assign, body, hy, roundIn_of_wpIn hfn (wpIn_mono (hround _ k x W hk (by omega) ⟨_, hat.1, rfl⟩ hi hf) ?_)⟩
  rintro e a₁ W2 hp
  cases e with
  | normal => ?_
  | ret => exact hp.elim
  | exit id => exact hp.elim
  | goto t => exact hp.elim
  | panic _ => exact hp.elim
  | outgrown => exact hp.elim
  obtain ⟨hL2, hbody⟩ := hp
  have hat2 := hAtG hat (hRl _ _ hL2)
  refine ⟨_, run_beginRound hat2.1 (hstate _ _).1, ?_⟩
  rw [hbegin]
  have hat3 : At .busy none (W2.putObj (S + 1) (.loop (rc .busy none))) := hPut .busy none hat2
  have hK3 : Kp W (W2.putObj (S + 1) (.loop (rc .busy none))) := hKt (hKa _ _ (big hat) hL2) (hKb _ _ _ _ (by omega) hat2.1 rfl)
  refine wpIn_mono (hbody (.loop (rc .busy none))) ?_
  have fin : ∀ (jump : Option Code) (W3 : World), KeepsFrom S (W2.putObj (S + 1) (.loop (rc .busy none))) W3 →
    At .busy none W3 ∧ (Instr.endRound (S + 1) jump).run P W3 = .ok (.bool jump.isNone) (W3.putObj (S + 1) (.loop (rc (if jump.isNone then .ready else .done) jump))) := fun jump W3 hk3 => by
   have h3 := hAtK hat3 hk3
   have := run_endRound (P := P) jump h3.1
   rw [hwith] at this
   exact ⟨h3, this⟩
  rintro e a3 W3 hp
  cases e with
  | normal =>
   obtain ⟨hk3, hkp, hi3⟩ := hp
   obtain ⟨h3, hr⟩ := fin none W3 hk3
   exact ⟨_, _, hr, .inl ⟨rfl, ⟨hI' _ _ _ _ _ (by omega) h3.1 rfl hi3, hPut .ready none h3⟩, hKt (hKt hK3 hkp) (hKb _ _ _ _ (by omega) h3.1 rfl)⟩⟩
  | ret =>
   obtain ⟨hk3, hi3⟩ := hp
   obtain ⟨h3, hr⟩ := fin (some .ret) W3 hk3
   exact ⟨_, _, hr, .inr ⟨rfl, .ret, hIx' _ _ _ _ _ _ (by omega) h3.1 rfl hi3, hPut .done _ h3⟩⟩
  | exit id =>
   obtain ⟨hk3, hi3⟩ := hp
   obtain ⟨h3, hr⟩ := fin (some (.exit id)) W3 hk3
   exact ⟨_, _, hr, .inr ⟨rfl, .exit id, hIx' _ _ _ _ _ _ (by omega) h3.1 rfl hi3, hPut .done _ h3⟩⟩
  | goto t =>
   obtain ⟨hk3, hi3⟩ := hp
   obtain ⟨h3, hr⟩ := fin (some (.goto t)) W3 hk3
   exact ⟨_, _, hr, .inr ⟨rfl, .goto t, hIx' _ _ _ _ _ _ (by omega) h3.1 rfl hi3, hPut .done _ h3⟩⟩
  | panic _ => exact hp.elim
  | outgrown => exact hp.elim
 ·have leave : ∀ {st pe W2}, At st pe W2 → st ≠ .busy → (Instr.endLoop (S + 1)).run P W2 = .ok pe (W2.putObj (S + 1) (.loop (rc .exhausted pe))) ∧ (W2.putObj (S + 1) (.loop (rc .exhausted pe))).heap[S]? = some (.deferred (some [])) := fun {st pe W2} h hb => by
   have := run_endLoop (P := P) h.1 (by rw [(hstate _ _).1]; exact hb)
   rw [hend, (hstate _ _).2] at this
   exact ⟨this, (World.putObj_heap_other (by omega)).trans h.2⟩
  rintro e W2 ⟨⟨v, rfl⟩, ⟨hi, hat⟩ | ⟨k, hk, c, hi, hat⟩⟩
  ·obtain ⟨hr, hd⟩ := leave hat (by simp)
   exact ⟨none, _, hr, hdone S _ (Nat.le_refl _) (hI' _ _ _ _ _ (by omega) hat.1 rfl hi) hd⟩
  ·obtain ⟨hr, hd⟩ := leave hat (by simp)
   exact ⟨some c, _, hr, wpIn_wide.2 (hstop S k c _ (Nat.le_refl _) hk (hIx' _ _ _ _ _ _ (by omega) hat.1 rfl hi) hd)⟩
end
end Go.Proofs.YtgmijnnhanpocaaGreatDoor
namespace Go.Proofs.YtgmijnnhanpocaaGreatDoor
open Go.ChangeShapes Go.WideShapes Go.ChangeAt Go.RowKit
namespace Cls
theorem region {P : Program} {id : Nat} {Q : Exit → Act → World → Prop} {a : Act} {w : World} {l : List Oper} {I : Type} (F : I → World) (h0 : ∃ n, w.drew = F n) (hm : P.follows .mixedOrders = true) (hB : Region.lexB .any l.toArray = true)
  (h : wpQuiet P l.toArray (fun w' => ∃ n, w' = F n) (fun a' => ∀ w', (∃ n, w' = F n) → Q .normal a' w') l a) : (Code.region id l.toArray true).wp P Q a w :=
 wp_region_quiet (C := fun w' => ∃ n, w' = F n) hm hB h0 (by simpa using h)
theorem below (w : World) : ∃ (I : Type) (_ : Nonempty I) (F : I → World), (∃ n, w.drew = F n) ∧ (∀ n, Below w.heap.size w (F n)) ∧ ∀ n W, Below (F n).heap.size (F n) W → ∃ m, W = F m :=
 ⟨{ W : World // Below w.heap.size w W }, ⟨⟨w, Below.refl _ _⟩⟩, Subtype.val, ⟨⟨w.drew, (Below.refl _ _).drew⟩, rfl⟩, fun n => n.2, fun n W h => ⟨⟨W, n.2.trans (h.mono n.2.size)⟩, rfl⟩⟩
end Cls
end Go.Proofs.YtgmijnnhanpocaaGreatDoor
namespace Go.Proofs.YtgmijnnhanpocaaGreatDoor
open Go.ChangeShapes Go.WideShapes Go.ChangeAt Go.RowKit
namespace Cls
theorem class_in {P : Program} {id l k : Nat} {Q : Exit → Act → World → Prop} {a : Act} {w : World} {L : List Oper} {C : World → Prop} (h0 : C w.drew) (hm : P.follows .mixedOrders = true) (hp : L.all Ord.notDefer = true) (hB : Region.lexB .any L.toArray = true)
  (h : wpQuiet P L.toArray C (fun a' => ∀ w', C w' → Q .normal a' w') L a) : (Code.region id L.toArray true).wpIn (Fence.wide.inRound l) k P Q a w := by
 simp only [Region.lexB, Bool.and_eq_true] at hB
 refine wpIn_region_any hm ?_
 have hq := wpAnyQ_lex (P := P) (C := C) (md := .any) hB.1 L 0 (Array.replicate L.toArray.size false) a (by simp) (by simpa using hB.2) h
 have := Ord.any_in (l := l) (k := k) (ops := L.toArray) (R := fun a' w' => Q .normal a' w') (fun o ho => List.all_eq_true.1 hp o (by simpa using ho)) (fun _ _ h => h) L.toArray.size (Array.replicate L.toArray.size false) a w.drew
  (wpAny_of_quiet (Q := fun a' => ∀ w', C w' → Q .normal a' w') (fun _ w' hw' h => ⟨rfl, h w' hw'⟩) _ _ _ _ h0 (by simpa using hq))
 simpa using this
theorem drew_in {P : Program} {id ll k : Nat} {Q : Exit → Act → World → Prop} {a : Act} {w : World} {l : List Oper} (hm : P.follows .mixedOrders = true) (hp : l.all Ord.notDefer = true) (hB : Region.lexB .any l.toArray = true)
  (h : wpQuiet P l.toArray (fun w' => ∃ n, w' = w.drewN n) (fun a' => ∀ w', (∃ n, w' = w.drewN n) → Q .normal a' w') l a) : (Code.region id l.toArray true).wpIn (Fence.wide.inRound ll) k P Q a w := class_in (C := fun w' => ∃ n, w' = w.drewN n) ⟨1, rfl⟩ hm hp hB h
end Cls
end Go.Proofs.YtgmijnnhanpocaaGreatDoor
namespace Go.Proofs.YtgmijnnhanpocaaGreatDoor
open Go.ChangeShapes Go.WideShapes Go.ChangeAt Go.RowKit
def zeroRows : List (Int × Int) := [(-2147483648, 31), (127, 159), (768, 879), (8203, 8207), (65024, 65039), (1114112, 2147483647), (55296, 57343)]
def wideRows : List (Int × Int) := [(4352, 4447), (11904, 12350), (12353, 13311), (13312, 19903), (19968, 40959), (40960, 42191), (44032, 55203), (63744, 64255), (65072, 65135), (65280, 65376), (65504, 65510), (127744, 128591), (129280, 129535), (131072, 262141)]
def zLo (i : Nat) : Int := (zeroRows.getD i (0, 0)).1
def zHi (i : Nat) : Int := (zeroRows.getD i (0, 0)).2
def wLo (i : Nat) : Int := (wideRows.getD i (0, 0)).1
def wHi (i : Nat) : Int := (wideRows.getD i (0, 0)).2
def zeroCells : Array Value := #[.int .i32 (-2147483648), .int .i32 31, .int .i32 127, .int .i32 159, .int .i32 768, .int .i32 879, .int .i32 8203, .int .i32 8207, .int .i32 65024, .int .i32 65039, .int .i32 1114112, .int .i32 2147483647, .int .i32 55296, .int .i32 57343]
def wideCells : Array Value := #[.int .i32 4352, .int .i32 4447, .int .i32 11904, .int .i32 12350, .int .i32 12353, .int .i32 13311, .int .i32 13312, .int .i32 19903, .int .i32 19968, .int .i32 40959, .int .i32 40960, .int .i32 42191, .int .i32 44032, .int .i32 55203, .int .i32 63744, .int .i32 64255, .int .i32 65072, .int .i32 65135, .int .i32 65280, .int .i32 65376, .int .i32 65504, .int .i32 65510, .int .i32 127744, .int .i32 128591, .int .i32 129280, .int .i32 129535, .int .i32 131072, .int .i32 262141]
theorem wof_zero (r : Int) (i : Nat) (hi : i < 7) (h0 : zLo i ≤ r) (h1 : r ≤ zHi i) : wof r = 0 := by
 unfold wof
 match i, hi with
 | 0, _ => simp only [zLo, zHi, zeroRows, List.getD_cons_zero] at h0 h1; (repeat rw [if_neg (by omega)]); rw [if_pos (by omega)]
 | 1, _ => simp only [zLo, zHi, zeroRows, List.getD_cons_zero, List.getD_cons_succ] at h0 h1; (repeat rw [if_neg (by omega)]); rw [if_pos (by omega)]
 | 2, _ => simp only [zLo, zHi, zeroRows, List.getD_cons_zero, List.getD_cons_succ] at h0 h1; (repeat rw [if_neg (by omega)]); rw [if_pos (by omega)]
 | 3, _ => simp only [zLo, zHi, zeroRows, List.getD_cons_zero, List.getD_cons_succ] at h0 h1; (repeat rw [if_neg (by omega)]); rw [if_pos (by omega)]
 | 4, _ => simp only [zLo, zHi, zeroRows, List.getD_cons_zero, List.getD_cons_succ] at h0 h1; (repeat rw [if_neg (by omega)]); rw [if_pos (by omega)]
 | 5, _ => simp only [zLo, zHi, zeroRows, List.getD_cons_zero, List.getD_cons_succ] at h0 h1; (repeat rw [if_neg (by omega)]); rw [if_pos (by omega)]
 | 6, _ => simp only [zLo, zHi, zeroRows, List.getD_cons_zero, List.getD_cons_succ] at h0 h1; (repeat rw [if_neg (by omega)]); rw [if_pos (by omega)]
 | n + 7, h => omega
theorem wof_wide (r : Int) (i : Nat) (hi : i < 14) (h0 : wLo i ≤ r) (h1 : r ≤ wHi i) : wof r = 2 := by
 unfold wof
 match i, hi with
 | 0, _ => simp only [wLo, wHi, wideRows, List.getD_cons_zero] at h0 h1; (repeat rw [if_neg (by omega)]); rw [if_pos (by omega)]
 | 1, _ => simp only [wLo, wHi, wideRows, List.getD_cons_zero, List.getD_cons_succ] at h0 h1; (repeat rw [if_neg (by omega)]); rw [if_pos (by omega)]
 | 2, _ => simp only [wLo, wHi, wideRows, List.getD_cons_zero, List.getD_cons_succ] at h0 h1; (repeat rw [if_neg (by omega)]); rw [if_pos (by omega)]
 | 3, _ => simp only [wLo, wHi, wideRows, List.getD_cons_zero, List.getD_cons_succ] at h0 h1; (repeat rw [if_neg (by omega)]); rw [if_pos (by omega)]
 | 4, _ => simp only [wLo, wHi, wideRows, List.getD_cons_zero, List.getD_cons_succ] at h0 h1; (repeat rw [if_neg (by omega)]); rw [if_pos (by omega)]
 | 5, _ => simp only [wLo, wHi, wideRows, List.getD_cons_zero, List.getD_cons_succ] at h0 h1; (repeat rw [if_neg (by omega)]); rw [if_pos (by omega)]
 | 6, _ => simp only [wLo, wHi, wideRows, List.getD_cons_zero, List.getD_cons_succ] at h0 h1; (repeat rw [if_neg (by omega)]); rw [if_pos (by omega)]
 | 7, _ => simp only [wLo, wHi, wideRows, List.getD_cons_zero, List.getD_cons_succ] at h0 h1; (repeat rw [if_neg (by omega)]); rw [if_pos (by omega)]
 | 8, _ => simp only [wLo, wHi, wideRows, List.getD_cons_zero, List.getD_cons_succ] at h0 h1; (repeat rw [if_neg (by omega)]); rw [if_pos (by omega)]
 | 9, _ => simp only [wLo, wHi, wideRows, List.getD_cons_zero, List.getD_cons_succ] at h0 h1; (repeat rw [if_neg (by omega)]); rw [if_pos (by omega)]
 | 10, _ => simp only [wLo, wHi, wideRows, List.getD_cons_zero, List.getD_cons_succ] at h0 h1; (repeat rw [if_neg (by omega)]); rw [if_pos (by omega)]
 | 11, _ => simp only [wLo, wHi, wideRows, List.getD_cons_zero, List.getD_cons_succ] at h0 h1; (repeat rw [if_neg (by omega)]); rw [if_pos (by omega)]
 | 12, _ => simp only [wLo, wHi, wideRows, List.getD_cons_zero, List.getD_cons_succ] at h0 h1; (repeat rw [if_neg (by omega)]); rw [if_pos (by omega)]
 | 13, _ => simp only [wLo, wHi, wideRows, List.getD_cons_zero, List.getD_cons_succ] at h0 h1; (repeat rw [if_neg (by omega)]); rw [if_pos (by omega)]
 | n + 14, h => omega
theorem wof_none (r : Int) (hr0 : -2147483648 ≤ r) (hr1 : r ≤ 2147483647) (h : ∀ i, i < 7 → ¬ (zLo i ≤ r ∧ r ≤ zHi i)) (k : ∀ i, i < 14 → ¬ (wLo i ≤ r ∧ r ≤ wHi i)) : wof r = 1 := by
 have h0 := h 0 (by omega); have h1 := h 1 (by omega); have h2 := h 2 (by omega); have h3 := h 3 (by omega); have h4 := h 4 (by omega); have h5 := h 5 (by omega); have h6 := h 6 (by omega)
 have k0 := k 0 (by omega); have k1 := k 1 (by omega); have k2 := k 2 (by omega); have k3 := k 3 (by omega); have k4 := k 4 (by omega); have k5 := k 5 (by omega); have k6 := k 6 (by omega); have k7 := k 7 (by omega); have k8 := k 8 (by omega); have k9 := k 9 (by omega); have k10 := k 10 (by omega); have k11 := k 11 (by omega); have k12 := k 12 (by omega); have k13 := k 13 (by omega)
 simp only [zLo, zHi, wLo, wHi, zeroRows, wideRows, List.getD_cons_zero, List.getD_cons_succ] at h0 h1 h2 h3 h4 h5 h6 k0 k1 k2 k3 k4 k5 k6 k7 k8 k9 k10 k11 k12 k13
 unfold wof
 repeat rw [if_neg (by omega)]
theorem zero_cells (i : Nat) (hi : i < 7) : zeroCells[i * 2]? = some (.int .i32 (zLo i)) ∧ zeroCells[i * 2 + 1]? = some (.int .i32 (zHi i)) := by
 match i, hi with
 | 0, _ => exact ⟨rfl, rfl⟩
 | 1, _ => exact ⟨rfl, rfl⟩
 | 2, _ => exact ⟨rfl, rfl⟩
 | 3, _ => exact ⟨rfl, rfl⟩
 | 4, _ => exact ⟨rfl, rfl⟩
 | 5, _ => exact ⟨rfl, rfl⟩
 | 6, _ => exact ⟨rfl, rfl⟩
 | n + 7, h => omega
theorem wide_cells (i : Nat) (hi : i < 14) : wideCells[i * 2]? = some (.int .i32 (wLo i)) ∧ wideCells[i * 2 + 1]? = some (.int .i32 (wHi i)) := by
 match i, hi with
 | 0, _ => exact ⟨rfl, rfl⟩
 | 1, _ => exact ⟨rfl, rfl⟩
 | 2, _ => exact ⟨rfl, rfl⟩
 | 3, _ => exact ⟨rfl, rfl⟩
 | 4, _ => exact ⟨rfl, rfl⟩
 | 5, _ => exact ⟨rfl, rfl⟩
 | 6, _ => exact ⟨rfl, rfl⟩
 | 7, _ => exact ⟨rfl, rfl⟩
 | 8, _ => exact ⟨rfl, rfl⟩
 | 9, _ => exact ⟨rfl, rfl⟩
 | 10, _ => exact ⟨rfl, rfl⟩
 | 11, _ => exact ⟨rfl, rfl⟩
 | 12, _ => exact ⟨rfl, rfl⟩
 | 13, _ => exact ⟨rfl, rfl⟩
 | n + 14, h => omega
abbrev refWorld (w : World) : World := (w.alloc (.cells #[.int .i32 (-2147483648), .int .i32 31, .int .i32 127, .int .i32 159, .int .i32 768, .int .i32 879, .int .i32 8203, .int .i32 8207, .int .i32 65024, .int .i32 65039, .int .i32 1114112, .int .i32 2147483647, .int .i32 55296, .int .i32 57343] 143)).alloc (.cells #[.int .i32 4352, .int .i32 4447, .int .i32 11904, .int .i32 12350, .int .i32 12353, .int .i32 13311, .int .i32 13312, .int .i32 19903, .int .i32 19968, .int .i32 40959, .int .i32 40960, .int .i32 42191, .int .i32 44032, .int .i32 55203, .int .i32 63744, .int .i32 64255, .int .i32 65072, .int .i32 65135, .int .i32 65280, .int .i32 65376, .int .i32 65504, .int .i32 65510, .int .i32 127744, .int .i32 128591, .int .i32 129280, .int .i32 129535, .int .i32 131072, .int .i32 262141] 143)
theorem ref_zero (w : World) (i : Nat) (hi : i < 7) : (refWorld w).cell? ⟨w.heap.size, i * 2, none⟩ = some (.int .i32 (zLo i)) ∧ (refWorld w).cell? ⟨w.heap.size, i * 2 + 1, none⟩ = some (.int .i32 (zHi i)) := by
 have hb : (refWorld w).heap[w.heap.size]? = some (.cells zeroCells 143 (0, 0)) := by
  rw [refWorld, Below.heap_alloc _ _ _ (by simp)]; exact heap_alloc_new w _
 rw [cell_of_row _ _ _ _ _ (0, 0) hb, cell_of_row _ _ _ _ _ (0, 0) hb]
 exact zero_cells i hi
theorem ref_wide (w : World) (i : Nat) (hi : i < 14) : (refWorld w).cell? ⟨w.heap.size + 1, i * 2, none⟩ = some (.int .i32 (wLo i)) ∧ (refWorld w).cell? ⟨w.heap.size + 1, i * 2 + 1, none⟩ = some (.int .i32 (wHi i)) := by
 have hb : (refWorld w).heap[w.heap.size + 1]? = some (.cells wideCells 143 (0, 0)) := by
  have h := heap_alloc_new (w.alloc (.cells zeroCells 143)) (.cells wideCells 143)
  rw [World.size_alloc] at h
  exact h
 rw [cell_of_row _ _ _ _ _ (0, 0) hb, cell_of_row _ _ _ _ _ (0, 0) hb]
 exact wide_cells i hi
set_option maxRecDepth 100000 in
set_option maxHeartbeats 1600000 in
theorem refWidth_walk (r : Int) (hr0 : -2147483648 ≤ r) (hr1 : r ≤ 2147483647) (w : World) :
  Calls Tryz.prog 81 #[.int .i32 r] w fun e w' => e = .returned (.int .i64 (wof r)) ∧ Below w.heap.size w w' := by
 have hz := ref_zero w
 have hw := ref_wide w
 have ZH := Lib.hid hz
 have WH := Lib.hid hw
 clear hz hw
 have hbl : Below w.heap.size w (refWorld w) := ((Below.refl _ _).alloc (Nat.le_refl _) _).alloc (by simp) _
 have BL := Lib.hid hbl
 clear hbl
 go_enter Tryz.func81, Tryz.ntmps81
 go_wp2
 go_loop [5] (fun i => ∃ k : Nat, k ≤ 7 ∧ i = .int .i64 k ∧ (∀ j, j < k → ¬ (zLo j ≤ r ∧ r ≤ zHi j))) (fun i => 7 - (intOf i).toNat)
 case atStart => exact ⟨0, by omega, rfl, fun j h => by omega⟩
 case round =>
  obtain ⟨k, hk, rfl, hno⟩ := hrel
  by_cases hlt : k < 7
  ·obtain ⟨z0, z1⟩ := ZH.out k hlt
   have NO := Lib.hid hno
   have HIT := Lib.hid (wof_zero r k hlt)
   clear hno
   by_cases c1 : zLo k ≤ r
   ·by_cases c2 : r ≤ zHi k
    ·go_wp2
     go_ret
     exact ⟨ret_int (HIT.out c1 c2).symm, BL.out⟩
    ·go_wp2
     go_round
     case rel => exact ⟨k + 1, by omega, by go_num, fun j h => (Nat.lt_or_eq_of_le (Nat.le_of_lt_succ h)).elim (NO.out j) (fun e => by subst e; omega)⟩
     case measure => simp [intOf]; omega
   ·go_wp2
    go_round
    case rel => exact ⟨k + 1, by omega, by go_num, fun j h => (Nat.lt_or_eq_of_le (Nat.le_of_lt_succ h)).elim (NO.out j) (fun e => by subst e; omega)⟩
    case measure => simp [intOf]; omega
  ·obtain rfl : k = 7 := by omega
   have NO := Lib.hid hno
   clear hno
   go_wp2
   go_loop [6] (fun i => ∃ k : Nat, k ≤ 14 ∧ i = .int .i64 k ∧ (∀ j, j < k → ¬ (wLo j ≤ r ∧ r ≤ wHi j))) (fun i => 14 - (intOf i).toNat)
   case atStart => exact ⟨0, by omega, rfl, fun j h => by omega⟩
   case round =>
    obtain ⟨k, hk, rfl, hno⟩ := hrel
    by_cases hlt : k < 14
    ·obtain ⟨z0, z1⟩ := WH.out k hlt
     have NW := Lib.hid hno
     have HIT := Lib.hid (wof_wide r k hlt)
     clear hno
     by_cases c1 : wLo k ≤ r
     ·by_cases c2 : r ≤ wHi k
      ·go_wp2
       go_ret
       exact ⟨ret_int (HIT.out c1 c2).symm, BL.out⟩
      ·go_wp2
       go_round
       case rel => exact ⟨k + 1, by omega, by go_num, fun j h => (Nat.lt_or_eq_of_le (Nat.le_of_lt_succ h)).elim (NW.out j) (fun e => by subst e; omega)⟩
       case measure => simp [intOf]; omega
     ·go_wp2
      go_round
      case rel => exact ⟨k + 1, by omega, by go_num, fun j h => (Nat.lt_or_eq_of_le (Nat.le_of_lt_succ h)).elim (NW.out j) (fun e => by subst e; omega)⟩
      case measure => simp [intOf]; omega
    ·obtain rfl : k = 14 := by omega
     have M := Lib.hid (wof_none r hr0 hr1 NO.out hno)
     clear hno
     go_wp2
     go_ret
     exact ⟨ret_int M.out.symm, BL.out⟩
end Go.Proofs.YtgmijnnhanpocaaGreatDoor
