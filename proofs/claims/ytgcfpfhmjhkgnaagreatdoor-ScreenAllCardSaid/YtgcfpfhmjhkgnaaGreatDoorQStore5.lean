import Derived.RangeFuncNested
import Derived.RangeFuncLeaves
import Derived.Test.YtgcfpfhmjhkgnaaGreatDoorQStore4
import Derived.Shelf.Abstract
import Derived.Shelf.RegionOpen
import Derived.OwnWalkIn
import Derived.TacticsInMore
import Derived.LoopNIn
import Derived.LoopIn
import Derived.Test.YtgcfpfhmjhkgnaaGreatDoorQBase6
set_option maxRecDepth 100000
set_option maxHeartbeats 6400000
namespace Go.Proofs.YtgcfpfhmjhkgnaaGreatDoor
open Go.RowKit
section
variable {P : Program}
abbrev Laid (A B : World) : Prop := Below A.heap.size A B
def Tells (P : Program) (g : Nat) (lb : Array Value) (N : Nat) (Fit : Nat → Array Value → World → Prop) (Kp : World → World → Prop) (w : World) : Prop :=
 ∀ (l : Nat) (J Jx : Nat → World → Prop) (W : World), Laid w W → (∀ k A B, J k A → Laid A B → J k B) → (∀ k A B, Jx k A → Laid A B → Jx k B) →
  (∀ k x W1, k < N → J k W1 → Fit k x W1 → YieldAt Fence.wide 1 P l x W1 fun e W' => (e = .returned (.bool true) ∧ J (k + 1) W' ∧ Kp W1 W') ∨ (e = .returned (.bool false) ∧ Jx (k + 1) W')) →
  J 0 W → CallsIn Fence.wide 2 P g (#[.func (.yield l) #[] #[]] ++ lb) W fun e W' => (∃ v, e = .returned v) ∧ (J N W' ∨ ∃ k, k < N ∧ Jx (k + 1) W')
def overPost (B : Nat) (Kp : World → World → Prop) (I : Nat → World → Prop) (Ix : Code → Nat → World → Prop) (k : Nat) (W : World) : Exit → Act → World → Prop
 | .normal, _, W' => KeepsFrom B W W' ∧ Kp W W' ∧ I k W'
 | .ret, _, W' => KeepsFrom B W W' ∧ Ix .ret k W'
 | .exit id, _, W' => KeepsFrom B W W' ∧ Ix (.exit id) k W'
 | .goto t, _, W' => KeepsFrom B W W' ∧ Ix (.goto t) k W'
 | .panic _, _, _ => False
 | .outgrown, _, _ => False
def Stays (B : Nat) (p : World → Prop) : Prop := ∀ (W : World) (l : Nat) (o o' : Obj), B ≤ l → W.heap[l]? = some o → o.isCells = false → p W → p (W.putObj l o')
def Grows (p : World → Prop) : Prop := ∀ A B, p A → Laid A B → p B
theorem wp_over {g : Operand} {ps : Array Tmp} {assign body : Code} {Q : Exit → Act → World → Prop} {a : Act} {w : World} {gf : Nat} {lb : Array Value} {N : Nat} {Fit : Nat → Array Value → World → Prop} {Kp : World → World → Prop}
  (hg : a.eval g = .func (.func gf) #[] lb) (eg : ∀ args w, (callFunc gf args).run P w = .ok (.enter gf args) w) (hT : Tells P gf lb N Fit Kp w)
  (hKt : ∀ {A B C : World}, Kp A B → Kp B C → Kp A C) (hKa : ∀ A B : World, w.heap.size ≤ A.heap.size → Laid A B → Kp A B) (hKb : ∀ (W : World) (l : Nat) (o o' : Obj), w.heap.size ≤ l → W.heap[l]? = some o → o.isCells = false → Kp W (W.putObj l o'))
  (hps : ∀ k x W, Fit k x W → x.size = ps.size) (I : Nat → World → Prop) (Ix : Code → Nat → World → Prop)
  (hI : ∀ k, Grows (I k)) (hI' : ∀ k, Stays w.heap.size (I k)) (hIx : ∀ c k, Grows (Ix c k)) (hIx' : ∀ c k, Stays w.heap.size (Ix c k)) (h0 : I 0 w)
  (hround : ∀ (l k : Nat) (x : Array Value) (W : World), k < N → w.heap.size ≤ l → (∃ o : Obj, W.heap[l]? = some o ∧ o.isCells = false) → I k W → Fit k x W →
   assign.wpIn (Fence.wide.inRound l) 1 P (Exit.then (fun a₁ W₁ => Laid W W₁ ∧ ∀ o : Obj, body.wpIn (Fence.wide.inRound l) 1 P (overPost w.heap.size Kp I Ix (k + 1) (W₁.putObj l o)) a₁ (W₁.putObj l o)) (fun _ _ _ => False))
    {tmps := (ps.zip x).foldl (fun t (p, v) => t.setIfInBounds p v) a.tmps, defers := [] } W)
  (hdone : ∀ (D : Nat) (W : World), w.heap.size ≤ D → I N W → W.heap[D]? = some (.deferred (some [])) → Q .normal { a with defers := { target := .collected D, args := #[] } :: a.defers } W)
  (hstop : ∀ (D k : Nat) (c : Code) (W : World), w.heap.size ≤ D → k < N → Ix c (k + 1) W → W.heap[D]? = some (.deferred (some [])) → c.wp P Q { a with defers := { target := .collected D, args := #[] } :: a.defers } W) :
  (Code.rangeFunc g ps assign body).wp P Q a w := by
 refine (wpIn_wide (n := 3)).1 (wpIn_rangeFunc fun fn hfn => ?_)
 obtain ⟨S, hS⟩ : ∃ S, w.heap.size = S := ⟨_, rfl⟩
 obtain ⟨rc, hrc⟩ : ∃ rc : LoopState → Option Code → Loop, rc = fun st pe => { state := st, pending := pe, fn, tmps := a.tmps, params := ps, assign, body, defers := w.heap.size } := ⟨_, rfl⟩
 have hwith : ∀ (st st' : LoopState) (pe pe' : Option Code), ({ rc st pe with state := st', pending := pe' } : Loop) = rc st' pe' := fun _ _ _ _ => by rw [hrc]
 have hbegin : ({ rc .ready none with state := .busy } : Loop) = rc .busy none := by rw [hrc]
 have hstate : ∀ st pe, (rc st pe).state = st ∧ (rc st pe).pending = pe := fun _ _ => by rw [hrc]; exact ⟨rfl, rfl⟩
 have hend : ∀ st pe, ({ rc st pe with state := .exhausted } : Loop) = rc .exhausted pe := fun _ _ => by rw [hrc]
 let At (st : LoopState) (pe : Option Code) (W : World) : Prop := W.heap[S + 1]? = some (.loop (rc st pe)) ∧ W.heap[S]? = some (.deferred (some []))
 have hAtG : ∀ {st pe A B}, At st pe A → Laid A B → At st pe B := fun h hb =>
  ⟨(hb.block _ (Array.getElem?_eq_some_iff.1 h.1).1).trans h.1, (hb.block _ (Array.getElem?_eq_some_iff.1 h.2).1).trans h.2⟩
 have hPut : ∀ {st pe W} (st' : LoopState) (pe' : Option Code), At st pe W → At st' pe' (W.putObj (S + 1) (.loop (rc st' pe'))) := fun st' pe' h =>
  ⟨World.putObj_heap_same (Array.getElem?_eq_some_iff.1 h.1).1, (World.putObj_heap_other (by omega)).trans h.2⟩
 have hAtK : ∀ {st pe A B}, At st pe A → KeepsFrom S A B → At st pe B := fun h hk => ⟨hk.same _ _ (by omega) h.1 rfl, hk.same _ _ (Nat.le_refl _) h.2 rfl⟩
 obtain ⟨W1, hW1⟩ : ∃ W1, (w.alloc (.deferred (some []))).alloc (.loop (rc .ready none)) = W1 := ⟨_, rfl⟩
 have hL : Laid w W1 := by rw [← hW1]; exact ((Below.refl _ w).alloc (Nat.le_refl _) _).alloc (by simp) _
 have h1 : At .ready none W1 := by
  constructor
  ·rw [← hW1, ← hS]
   have := World.alloc_heap_new (w.alloc (.deferred (some []))) (.loop (rc .ready none))
   rwa [World.size_alloc] at this
  ·rw [← hW1, ← hS]
   exact (Below.heap_alloc _ _ _ (by simp)).trans (World.alloc_heap_new w _)
 refine ⟨w.heap.size + 1, [{ target := .collected w.heap.size, args := #[] }], W1, { target := .fn (.func gf) lb, args := #[.func (.yield (w.heap.size + 1)) #[] #[]] }, W1, gf, #[.func (.yield (w.heap.size + 1)) #[] #[]] ++ lb, W1,
  by rw [← hW1, hrc]; exact run_enterLoop_outer _ _ _ _ _, by simp only [resolve, hg]; simp [go_sem], fun f' hf' => trivial, by simp [invoke, go_sem, eg], (fun _ => by decide), ?_⟩
 rw [hS] at hKa hKb hI' hIx' hround hdone hstop ⊢
 have big : ∀ {st pe W}, At st pe W → S ≤ W.heap.size := fun h => by have := (Array.getElem?_eq_some_iff.1 h.2).1; omega
 refine (hT (S + 1) (fun k W => I k W ∧ At .ready none W) (fun k W => ∃ c, Ix c k W ∧ At .done (some c) W) W1 hL
  (fun k A B h hb => ⟨hI k A B h.1 hb, hAtG h.2 hb⟩) (fun k A B h hb => by obtain ⟨c, h1, h2⟩ := h; exact ⟨c, hIx c k A B h1 hb, hAtG h2 hb⟩) ?_ ⟨hI 0 _ _ h0 hL, h1⟩).mono ?_
 ·rintro k x W hk ⟨hi, hat⟩ hf
  have hy := run_yield (P := P) (args := x) hat.1 (by rw [hrc]; exact hps k x W hf)
  rw [hrc] at hy
  refine ⟨fn, _, assign, body, hy, roundIn_of_wpIn hfn (wpIn_mono (hround _ k x W hk (by omega) ⟨_, hat.1, rfl⟩ hi hf) ?_)⟩
  rintro e a₁ W2 hp
  cases e with
  | normal => ?_
  | ret => exact hp.elim
  | exit id => exact hp.elim
  | goto t => exact hp.elim
  | panic _ => exact hp.elim
  | outgrown => exact hp.elim
  obtain ⟨hL2, hbody⟩ := hp
  have hat2 := hAtG hat hL2
  refine ⟨_, run_beginRound hat2.1 (hstate _ _).1, ?_⟩
  rw [hbegin]
  have hat3 : At .busy none (W2.putObj (S + 1) (.loop (rc .busy none))) := hPut .busy none hat2
  have hK3 : Kp W (W2.putObj (S + 1) (.loop (rc .busy none))) := hKt (hKa _ _ (big hat) hL2) (hKb _ _ _ _ (by omega) hat2.1 rfl)
  refine wpIn_mono (hbody (.loop (rc .busy none))) ?_
  have fin : ∀ (jump : Option Code) (W3 : World), KeepsFrom S (W2.putObj (S + 1) (.loop (rc .busy none))) W3 →
    At .busy none W3 ∧ (Instr.endRound (S + 1) jump).run P W3 = .ok (.bool jump.isNone) (W3.putObj (S + 1) (.loop (rc (if jump.isNone then .ready else .done) jump))) := fun jump W3 hk3 => by
   have h3 := hAtK hat3 hk3
   have := run_endRound (P := P) jump h3.1
   rw [hwith] at this
   exact ⟨h3, this⟩
  rintro e a3 W3 hp
  cases e with
  | normal =>
   obtain ⟨hk3, hkp, hi3⟩ := hp
   obtain ⟨h3, hr⟩ := fin none W3 hk3
   exact ⟨_, _, hr, .inl ⟨rfl, ⟨hI' _ _ _ _ _ (by omega) h3.1 rfl hi3, hPut .ready none h3⟩, hKt (hKt hK3 hkp) (hKb _ _ _ _ (by omega) h3.1 rfl)⟩⟩
  | ret =>
   obtain ⟨hk3, hi3⟩ := hp
   obtain ⟨h3, hr⟩ := fin (some .ret) W3 hk3
   exact ⟨_, _, hr, .inr ⟨rfl, .ret, hIx' _ _ _ _ _ _ (by omega) h3.1 rfl hi3, hPut .done _ h3⟩⟩
  | exit id =>
   obtain ⟨hk3, hi3⟩ := hp
   obtain ⟨h3, hr⟩ := fin (some (.exit id)) W3 hk3
   exact ⟨_, _, hr, .inr ⟨rfl, .exit id, hIx' _ _ _ _ _ _ (by omega) h3.1 rfl hi3, hPut .done _ h3⟩⟩
  | goto t =>
   obtain ⟨hk3, hi3⟩ := hp
   obtain ⟨h3, hr⟩ := fin (some (.goto t)) W3 hk3
   exact ⟨_, _, hr, .inr ⟨rfl, .goto t, hIx' _ _ _ _ _ _ (by omega) h3.1 rfl hi3, hPut .done _ h3⟩⟩
  | panic _ => exact hp.elim
  | outgrown => exact hp.elim
 ·have leave : ∀ {st pe W2}, At st pe W2 → st ≠ .busy → (Instr.endLoop (S + 1)).run P W2 = .ok pe (W2.putObj (S + 1) (.loop (rc .exhausted pe))) ∧ (W2.putObj (S + 1) (.loop (rc .exhausted pe))).heap[S]? = some (.deferred (some [])) := fun {st pe W2} h hb => by
   have := run_endLoop (P := P) h.1 (by rw [(hstate _ _).1]; exact hb)
   rw [hend, (hstate _ _).2] at this
   exact ⟨this, (World.putObj_heap_other (by omega)).trans h.2⟩
  rintro e W2 ⟨⟨v, rfl⟩, ⟨hi, hat⟩ | ⟨k, hk, c, hi, hat⟩⟩
  ·obtain ⟨hr, hd⟩ := leave hat (by simp)
   exact ⟨none, _, hr, hdone S _ (Nat.le_refl _) (hI' _ _ _ _ _ (by omega) hat.1 rfl hi) hd⟩
  ·obtain ⟨hr, hd⟩ := leave hat (by simp)
   exact ⟨some c, _, hr, wpIn_wide.2 (hstop S k c _ (Nat.le_refl _) hk (hIx' _ _ _ _ _ _ (by omega) hat.1 rfl hi) hd)⟩
end
end Go.Proofs.YtgcfpfhmjhkgnaaGreatDoor
namespace Go.Proofs.YtgcfpfhmjhkgnaaGreatDoor
open Go.ChangeShapes Go.WideShapes Go.ChangeAt Go.RowKit Go.Shelf
attribute [local go_sem] Oper.semAt_some
structure Src2 (Bx : Nat) (u : Value) (ps : List Pg) (W : World) : Prop where
 sp : Spans W
 box : W.heap[Bx]? = some (.cells #[u] 148 (0, 0))
 own : W.ownsRow 0 141 17 u ps.length (flatP ps)
 pg : ∀ p ∈ ps, p.vs.length = p.rows.length ∧ p.rows.length ≤ 16 ∧ (∀ (i : Nat) (v : Value) (r : PRow), p.vs[i]? = some v → p.rows[i]? = some r → HasB W 0 v (putL r.1 r.2)) ∧ ∀ r ∈ p.rows, mayL r.2 = true ∧ ∀ c ∈ r.2, -2147483648 ≤ c.1 ∧ c.1 ≤ 2147483647
namespace Src2
variable {Bx : Nat} {u : Value} {ps : List Pg} {W W' : World}
theorem turned {M : Nat → Prop} (h : Src2 Bx u ps W) (ht : Turned M W W') (hs : Spans W') (h1 : ∀ j, M j → ¬ Typed W 148 j) (h2 : ∀ j, M j → ¬ Typed W 141 j) (h3 : ∀ j, M j → ¬ Typed W 5 j) : Src2 Bx u ps W' := by
 refine ⟨hs, (ht.block Bx (Array.getElem?_eq_some_iff.1 h.box).1 (fun m => h1 _ m ⟨_, _, h.box⟩)).trans h.box, ⟨h.own.1, ?_⟩, fun p hp => ?_⟩
 ·rcases h.own.2 with e | ⟨g, cap, cur, e, e2, e3, r⟩
  ·exact .inl e
  ·exact .inr ⟨g, cap, cur, e, e2, (ht.block g (Array.getElem?_eq_some_iff.1 e3).1 (fun m => h2 _ m ⟨_, _, e3⟩)).trans e3, r⟩
 ·obtain ⟨a, b, c, d⟩ := h.pg p hp
  exact ⟨a, b, fun i v r hv hr => (c i v r hv hr).turned ht h3, d⟩
theorem laid (h : Src2 Bx u ps W) (hb : Laid W W') : Src2 Bx u ps W' := h.turned (M := fun _ => False) (Turned.ofBelow hb _) (h.sp.below hb h.sp.size) (fun _ h => h.elim) (fun _ h => h.elim) (fun _ h => h.elim)
end Src2
theorem flatP_get : ∀ (ps : List Pg) (k : Nat) (p : Pg), (∀ q ∈ ps, (pageCells q.vs).length = 17) → ps[k]? = some p → ∀ j, j < 17 → (flatP ps)[k * 17 + j]? = (pageCells p.vs)[j]?
 | [], k, p, _, h, _, _ => by simp at h
 | q :: ps, 0, p, hl, h, j, hj => by
  simp at h
  subst h
  unfold flatP
  rw [List.flatMap_cons, Nat.zero_mul, Nat.zero_add, List.getElem?_append_left (by rw [hl q (by simp)]; exact hj)]
 | q :: ps, k + 1, p, hl, h, j, hj => by
  have ih := flatP_get ps k p (fun q' hq => hl q' (by simp [hq])) (by simpa using h) j hj
  unfold flatP at ih ⊢
  rw [List.flatMap_cons, List.getElem?_append_right (by rw [hl q (by simp)]; omega), hl q (by simp), show (k + 1) * 17 + j - 17 = k * 17 + j by omega]
  exact ih
namespace Src2
variable {Bx : Nat} {u : Value} {ps : List Pg} {W W' : World}
theorem page (h : Src2 Bx u ps W) {k : Nat} {p : Pg} (hp : ps[k]? = some p) : ∃ b cap, u = .slice (some ⟨b, 0, none⟩) ps.length cap ∧ PageRd W 0 b (k * 17) p.vs p.rows := by
 have hk := (List.getElem?_eq_some_iff.1 hp).1
 have h17 : ∀ q ∈ ps, (pageCells q.vs).length = 17 := fun q hq => by
  obtain ⟨a, b, _⟩ := h.pg q hq
  exact pageCells_len (by omega)
 rcases h.own.2 with ⟨_, e⟩ | ⟨b, cap, cur, e, _, e3, hc, _, hsz, htake⟩
 ·omega
 ·obtain ⟨a1, a2, a3, a4⟩ := h.pg p (List.mem_of_getElem? hp)
  refine ⟨b, cap, e, fun j hj => ?_, (Array.getElem?_eq_some_iff.1 e3).1, a1, a2, a3, a4⟩
  rw [cell_of_row W b _ _ _ (0, 0) e3, ← flatP_get ps k p h17 hp j hj, ← htake, List.getElem?_take, if_pos (by
   have : k + 1 ≤ ps.length := hk
   have := Nat.mul_le_mul_right 17 this
   omega)]
  simp
theorem of_all {base g : Nat} {v : Value} {lim many bytes gone : Int} {w w' : World} {B : Nat} {u : Value} (hs : Spans w) (h : StR w base g v ps lim many bytes gone) (hbox : w'.heap[B]? = some (.cells #[u] 148 (0, 0))) (ho : w'.ownsRow w.heap.size 141 17 u ps.length (flatP ps)) (hb : Below w.heap.size w w') : Src2 B u ps w' :=
 ⟨hs.below hb hs.size, hbox, ⟨ho.1, ho.2.imp id fun ⟨g, cap, cur, e, _, r⟩ => ⟨g, cap, cur, e, Nat.zero_le _, r⟩⟩, fun p hp => by
  have hp' := (h.page p hp).below hb
  exact ⟨hp'.many, hp'.few, fun i v r hv hr => (hp'.row i v r hv hr).1.mono' (Nat.zero_le _), hp'.may⟩⟩
end Src2
def FitR (S : Nat) (R : List PRow) (k : Nat) (x : Array Value) (W : World) : Prop := ∃ v r, x = #[.int .i64 (k : Int), .agg #[v, .bool r.1]] ∧ R[k]? = some r ∧ HasC W S v r.2
structure ItAt (Bx : Nat) (u : Value) (ps : List Pg) (S : Nat) (J : Nat → World → Prop) (c : Nat) (W : World) : Prop where
 src : Src2 Bx u ps W
 inv : J c W
 big : S ≤ W.heap.size
theorem allRows_at {ps : List Pg} {k i : Nat} {p : Pg} {r : PRow} (hp : ps[k]? = some p) (hr : p.rows[i]? = some r) : (allRows ps)[(allRows (ps.take k)).length + i]? = some r := by
 have h1 := (List.getElem?_eq_some_iff.1 hp).1
 have h2 : ps = ps.take k ++ p :: ps.drop (k + 1) := by
  conv => lhs; rw [← List.take_append_drop k ps]
  rw [List.drop_eq_getElem_cons h1, (List.getElem?_eq_some_iff.1 hp).2]
 have h3 : allRows ps = allRows (ps.take k) ++ (p.rows ++ allRows (ps.drop (k + 1))) := by
  conv => lhs; rw [h2]
  rw [allRows_append, allRows_cons]
 rw [h3, List.getElem?_append_right (by omega), Nat.add_sub_cancel_left, List.getElem?_append_left (List.getElem?_eq_some_iff.1 hr).1]
 exact hr
theorem allRows_take_next {ps : List Pg} {k : Nat} {p : Pg} (hp : ps[k]? = some p) : (allRows (ps.take (k + 1))).length = (allRows (ps.take k)).length + p.rows.length := by
 obtain ⟨h1, h2⟩ := List.getElem?_eq_some_iff.1 hp
 rw [List.take_succ_eq_append_getElem h1, h2, allRows_append, allRows_cons, allRows_nil, List.append_nil, List.length_append]
theorem yield_not_nil (l : Nat) (w : World) : (binOp .eql 150 (.func (.yield l) #[] #[]) .nilFunc).run Tryz.prog w = .ok (.bool false) w := by first | rfl | kernel_rfl
theorem all1_tells {Bx : Nat} {u : Value} {ps : List Pg} {Kp : World → World → Prop} {S : Nat} {w : World} (h : Src2 Bx u ps w) (hS : S ≤ w.heap.size) (hKp : ∀ A B, Kp A B → Src2 Bx u ps A → Src2 Bx u ps B ∧ A.heap.size ≤ B.heap.size) (hn : ps.length ≤ 1000001) (hN : (allRows ps).length ≤ 1000001) :
  Tells Tryz.prog 125 #[.pointer (some ⟨Bx, 0, none⟩)] (allRows ps).length (FitR S (allRows ps)) Kp w := by
 intro l J Jx W hL hJ hJx hY h0
 obtain ⟨n, hnn⟩ : ∃ n, ps.length = n := ⟨_, rfl⟩
 obtain ⟨A, c, hu⟩ : ∃ A c, u = .slice A n c := by
  rcases h.own.2 with ⟨e, e2⟩ | ⟨b, cap, cur, e, _⟩
  ·exact ⟨_, _, by rw [e, ← hnn, e2]⟩
  ·exact ⟨_, _, by rw [e, ← hnn]⟩
 have I0 := Lib.hid (ItAt.mk (J := J) (c := 0) (h.laid hL) h0 (Nat.le_trans hS hL.size))
 have c0 : W.cell? ⟨Bx, 0, none⟩ = some (.slice A n c) := by rw [← hu]; exact cell_of_row _ _ 0 _ _ (0, 0) (h.laid hL).box
 have YH := Lib.hid hY
 have JH := Lib.hid (And.intro hJ hJx)
 have UH := Lib.hid hu
 have NH := Lib.hid hnn
 have KH := Lib.hid hKp
 have TH := Lib.hid hN
 rw [hnn] at hn
 clear hY hJ hJx hu hnn hKp hN h hL h0
 refine callsIn_of_wp Tryz.func125 rfl trivial ?_ rfl
 simp only [Tryz.ntmps125, List.size_toArray, List.length_cons, List.length_nil, Nat.reduceAdd, Nat.reduceSub, Array.replicate_succ, Array.replicate_zero, List.push_toArray, List.append_toArray, List.nil_append, List.cons_append]
 have yn := yield_not_nil l
 gi_wp2
 gi_loopw [3, 12] (fun t i wr => ∃ k c : Nat, t = .int .i64 c ∧ i = .int .i64 k ∧ k ≤ n ∧ Hid (c = (allRows (ps.take k)).length) ∧ Hid (ItAt Bx u ps S J c wr)) (fun _ i _ => n - (intOf i).toNat)
 case atStart => exact ⟨0, 0, rfl, rfl, Nat.zero_le _, Lib.hid rfl, I0⟩
 case round =>
  obtain ⟨k, c1, rfl, rfl, hk, C, I⟩ := hrel
  clear I0 c0
  have c0 : wr.cell? ⟨Bx, 0, none⟩ = some (.slice A n c) := by rw [← UH.out]; exact cell_of_row _ _ 0 _ _ (0, 0) I.out.src.box
  by_cases hlt : k < n
  ·obtain ⟨p, hp⟩ : ∃ p, ps[k]? = some p := ⟨_, List.getElem?_eq_getElem (by rw [NH.out]; exact hlt)⟩
   obtain ⟨b, cap, e', hrd⟩ := I.out.src.page hp
   rw [UH.out] at e'
   injection e' with e1 e3 e4
   subst e1
   clear e3 e4
   obtain ⟨m, hm⟩ : ∃ m, p.rows.length = m := ⟨_, rfl⟩
   have LW := Lib.hid (pageLen_rd hrd)
   rw [hm] at LW
   have hm16 : m ≤ 16 := by rw [← hm]; exact hrd.few
   have PH := Lib.hid hp
   have MH := Lib.hid hm
   have CT := Lib.hid (show c1 + m ≤ (allRows ps).length by
    rw [C.out, ← hm, ← allRows_take_next hp]
    have h1 := congrArg List.length (allRows_append (ps.take (k + 1)) (ps.drop (k + 1)))
    rw [List.take_append_drop, List.length_append] at h1
    omega)
   have hcm : c1 + m ≤ 1000001 := Nat.le_trans CT.out TH.out
   clear hp hm hrd
   gi_wp2_with (refine ⟨trivial, ?_⟩; gi_at_call 121; refine (callsIn_wide.2 LW.out).mono ?_; rintro e w2 ⟨rfl, rfl⟩)
   gi_loopw [3, 19] (fun t i wx => ∃ j : Nat, t = .int .i64 (c1 + j : Nat) ∧ i = .int .i64 j ∧ j ≤ m ∧ Hid (ItAt Bx u ps S J (c1 + j) wx)) (fun _ i _ => m - (intOf i).toNat)
   case atStart => exact ⟨0, rfl, rfl, Nat.zero_le _, I⟩
   case round =>
    obtain ⟨j, rfl, rfl, hj, I2⟩ := hrel
    clear LW I c0
    have c0 : wr.cell? ⟨Bx, 0, none⟩ = some (.slice (some ⟨b, 0, none⟩) n c) := by rw [← UH.out]; exact cell_of_row _ _ 0 _ _ (0, 0) I2.out.src.box
    by_cases hjm : j < m
    ·obtain ⟨r, hr⟩ : ∃ r, p.rows[j]? = some r := ⟨_, List.getElem?_eq_getElem (by rw [MH.out]; exact hjm)⟩
     obtain ⟨b', cap', e', hrd⟩ := I2.out.src.page PH.out
     rw [UH.out] at e'
     injection e' with e1 e3 e4
     injection e1 with e1
     injection e1 with e1 _ _
     subst e1
     clear e3 e4
     have AW := Lib.hid (pageAt_rd 0 b (k * 17) p.vs p.rows j r wr I2.out.src.sp hrd hr)
     have RH := Lib.hid (show (allRows ps)[c1 + j]? = some r by rw [C.out]; exact allRows_at PH.out hr)
     have LT := Lib.hid (show c1 + j < (allRows ps).length by have := CT.out; omega)
     have GO := Lib.hid (show ∀ w3 v3, HasC w3 wr.heap.size v3 r.2 → Below wr.heap.size wr w3 → ItAt Bx u ps S J (c1 + j) (w3.alloc (.cells #[v3, .bool r.1] 24)) ∧ FitR S (allRows ps) (c1 + j) #[.int .i64 ((c1 : Int) + (j : Int)), .agg #[v3, .bool r.1]] (w3.alloc (.cells #[v3, .bool r.1] 24)) from fun w3 v3 h3 b3 => by
      have bb : Laid wr (w3.alloc (.cells #[v3, .bool r.1] 24)) := b3.alloc b3.size _
      exact ⟨⟨I2.out.src.laid bb, JH.out.1 _ _ _ I2.out.inv bb, Nat.le_trans I2.out.big bb.size⟩, v3, r, by rw [Int.natCast_add], RH.out, World.ownsRow.alloc (HasC.mono h3 I2.out.big) _⟩)
     clear hr hrd I2
     gi_wp2_with (refine ⟨trivial, ?_⟩; gi_at_call 94; refine (callsIn_wide.2 AW.out).mono ?_; rintro e w3 ⟨v3, rfl, h3, b3⟩; simp only [Option.elim_some, Option.isSome_some] at h3 ⊢; obtain ⟨g4, f4⟩ := GO.out w3 v3 h3 b3; (obtain ⟨A3, d3, rfl, _⟩ := HasC.shape h3); (obtain ⟨fn, tmps, assign, body, hy, hR⟩ := YH.out _ _ _ LT.out g4.inv f4); (have G4 := Lib.hid g4); (have R4 := Lib.hid hR); clear h3 b3 g4 f4 hR AW GO)
     refine R4.out.mono ?_
     rintro e W5 (⟨rfl, hJ5, hk5⟩ | ⟨rfl, hJx5⟩)
     ·have I5 := Lib.hid (ItAt.mk (S := S) (KH.out _ _ hk5 G4.out.src).1 hJ5 (Nat.le_trans G4.out.big (KH.out _ _ hk5 G4.out.src).2))
      clear hJ5 hk5 hy R4 G4
      gi_wp2
      go_roundw
      case rel => exact ⟨j + 1, by go_num, by go_num, by omega, I5⟩
      case measure => simp [intOf]; omega
     ·have DX := Lib.hid hJx5
      clear hJx5 hy R4 G4
      gi_wp2
      refine bodyPost_ret (results_none rfl _ _ _) rfl ?_
      exact ⟨⟨_, rfl⟩, .inr ⟨_, LT.out, DX.out⟩⟩
    ·obtain rfl : j = m := by omega
     have CN := Lib.hid (show c1 + j = (allRows (ps.take (k + 1))).length by rw [C.out, allRows_take_next PH.out, MH.out])
     gi_wp2
     go_roundw
     case rel => exact ⟨k + 1, c1 + j, by go_num, by go_num, by omega, CN, I2⟩
     case measure => simp [intOf]; omega
  ·obtain rfl : k = n := by omega
   have DN := Lib.hid (show J (allRows ps).length wr by
    have h := I.out.inv
    rw [C.out, List.take_of_length_le (by rw [NH.out]; exact Nat.le_refl _)] at h
    exact h)
   gi_wp2
   go_end0
   exact ⟨⟨_, rfl⟩, .inl DN.out⟩
end Go.Proofs.YtgcfpfhmjhkgnaaGreatDoor
namespace Go.Proofs.YtgcfpfhmjhkgnaaGreatDoor
open Go.ChangeShapes Go.WideShapes Go.ChangeAt Go.RowKit
def l3 : List Cel := [(97, 1, 0), (97, 1, 0), (32, 1, 0)]
def bs9 : List Int := [5, 2, 97, 1, 0, 1, 32, 1, 0]
theorem l3_may : mayL l3 = true := by decide +kernel
theorem l3_put : putL true l3 = bs9 := by decide +kernel
theorem bs9_got : gotR bs9 = (true, l3, 9, 0) := by decide +kernel
theorem u3_get : getL [128, 1, 9] = (128, 2) := by decide +kernel
theorem l3_range : ∀ c ∈ l3, -2147483648 ≤ c.1 ∧ c.1 ≤ 2147483647 := by decide
theorem bs9_range : ∀ y ∈ bs9, 0 ≤ y ∧ y ≤ 255 := by decide
abbrev cells9 : Array Value := #[.int .i32 97, .int .i64 1, .int .i64 0, .int .i32 97, .int .i64 1, .int .i64 0, .int .i32 32, .int .i64 1, .int .i64 0]
theorem flat_l3 : (flat l3).toArray = cells9 := rfl
structure L4 (w0 : World) (rB cB : Nat) (vb : Value) (xs : List (Nat × Value)) (W : World) : Prop where
 sp0 : Spans w0
 sp : Spans W
 old : Below w0.heap.size w0 W
 row : RowAt W rB (.slice (some ⟨cB, 0, none⟩) 3 3) true
 cel : W.heap[cB]? = some (.cells cells9 33 (0, 0))
 byt : HasB W w0.heap.size vb bs9
 got : ∀ x ∈ xs, RowAt W x.1 x.2 true ∧ HasC W w0.heap.size x.2 l3
 ge : w0.heap.size ≤ rB ∧ w0.heap.size ≤ cB ∧ ∀ x ∈ xs, w0.heap.size ≤ x.1
namespace L4
variable {w0 W W' : World} {rB cB : Nat} {vb : Value} {xs : List (Nat × Value)}
theorem turned {M : Nat → Prop} (h : L4 w0 rB cB vb xs W) (ht : Turned M W W') (h0 : ∀ j, M j → w0.heap.size ≤ j) (h1 : ∀ j, M j → ¬ Typed W 24 j) (h2 : ∀ j, M j → ¬ Typed W 33 j) (h3 : ∀ j, M j → ¬ Typed W 5 j) : L4 w0 rB cB vb xs W' := by
 have hb : Below w0.heap.size W W' := ht.toBelow h.old.size fun k hk m => by have := h0 k m; omega
 have hrow : ∀ {B v b}, RowAt W B v b → RowAt W' B v b := fun {B v b} hr => (ht.block B (Array.getElem?_eq_some_iff.1 hr).1 (fun m => h1 _ m ⟨_, _, hr⟩)).trans hr
 refine ⟨h.sp0, h.sp.below hb h.sp0.size, h.old.trans hb, hrow h.row, (ht.block cB (Array.getElem?_eq_some_iff.1 h.cel).1 (fun m => h2 _ m ⟨_, _, h.cel⟩)).trans h.cel, h.byt.turned ht h3, fun x hx => ⟨hrow (h.got x hx).1, ?_⟩, h.ge⟩
 ·have hc := (h.got x hx).2
  refine ⟨hc.1, ?_⟩
  rcases hc.2 with e | ⟨b, cap, cur, e, e2, e3, rr⟩
  ·exact .inl e
  ·exact .inr ⟨b, cap, cur, e, e2, (ht.block b (Array.getElem?_eq_some_iff.1 e3).1 (fun m => h2 _ m ⟨_, _, e3⟩)).trans e3, rr⟩
theorem laid (h : L4 w0 rB cB vb xs W) (hb : Laid W W') : L4 w0 rB cB vb xs W' := h.turned (M := fun _ => False) (Turned.ofBelow hb _) (fun _ h => h.elim) (fun _ h => h.elim) (fun _ h => h.elim) (fun _ h => h.elim)
theorem more (h : L4 w0 rB cB vb xs W) {v : Value} (hv : HasC W w0.heap.size v l3) : L4 w0 rB cB vb ((W.heap.size, v) :: xs) (W.alloc (.cells #[v, .bool true] 24)) := by
 have h1 := h.laid ((Below.refl W.heap.size W).alloc (Nat.le_refl _) (.cells #[v, .bool true] 24))
 refine ⟨h1.sp0, h1.sp, h1.old, h1.row, h1.cel, h1.byt, fun x hx => ?_, h1.ge.1, h1.ge.2.1, fun x hx => ?_⟩
 ·rcases List.mem_cons.1 hx with rfl | hx
  ·exact ⟨heap_alloc_new W _, World.ownsRow.alloc hv _⟩
  ·exact h1.got x hx
 ·rcases List.mem_cons.1 hx with rfl | hx
  ·exact h.old.size
  ·exact h1.ge.2.2 x hx
theorem sq (h : L4 w0 rB cB vb xs W) : Sq W W.heap.size 3 3 (some ⟨cB, 0, none⟩) (flat l3) :=
 ⟨rfl, fun _ => ⟨cB, 0, rfl, (Array.getElem?_eq_some_iff.1 h.cel).1, fun j u hu => by rw [Nat.zero_add, cell_of_row W cB j _ _ (0, 0) h.cel, ← flat_l3, List.getElem?_toArray]; exact hu⟩⟩
theorem drew (h : L4 w0 rB cB vb xs W) : L4 w0 rB cB vb xs W.drew := h.laid (Below.refl _ _).drew
end L4
theorem Typed.noncells {W : World} {l : Nat} {o : Obj} (h : W.heap[l]? = some o) (hc : o.isCells = false) (e : TypeId) : ¬ Typed W e l := by
 rintro ⟨cs, fr, h'⟩
 rw [h] at h'
 injection h' with h'
 subst h'
 cases hc
theorem Turned.put (W : World) (l : Nat) (o : Obj) : Turned (· = l) W (W.putObj l o) := ⟨rfl, rfl, rfl, by simp [World.putObj], fun k _ hk => World.putObj_heap_other hk⟩
theorem begunBegun_walk (w : World) (hs : Spans w) : Calls Tryz.prog 98 #[] w fun e w' => e = .returned (.bool true) ∧ Below w.heap.size w w' := by
 have C := Lib.hid (begun_walk w hs)
 clear hs
 go_enter Tryz.func98, Tryz.ntmps98
 go_wp2_with fail
 refine C.out.mono ?_
 rintro e w' ⟨rfl, hb⟩
 have H := Lib.hid hb
 clear hb C
 go_wp2
 go_ret
 exact ⟨rfl, H.out⟩
def KpS (Bx : Nat) (u : Value) (ps : List Pg) (A B : World) : Prop := A.heap.size ≤ B.heap.size ∧ (Src2 Bx u ps A → Src2 Bx u ps B)
namespace KpS
variable {Bx : Nat} {u : Value} {ps : List Pg} {A B C : World}
theorem trans (h : KpS Bx u ps A B) (k : KpS Bx u ps B C) : KpS Bx u ps A C := ⟨Nat.le_trans h.1 k.1, fun x => k.2 (h.2 x)⟩
theorem laid (h : Laid A B) : KpS Bx u ps A B := ⟨h.size, fun x => x.laid h⟩
theorem turned {M : Nat → Prop} (ht : Turned M A B) (h1 : ∀ j, M j → ∀ e, e ≠ 3 → ¬ Typed A e j) (h0 : ∀ j, M j → 0 < j) : KpS Bx u ps A B :=
 ⟨ht.size, fun x => x.turned ht (x.sp.below (ht.toBelow (B := 0 + 1) x.sp.size (fun k hk m => by have := h0 k m; omega)) (Nat.lt_succ_self _)) (fun j m => h1 j m _ (by decide)) (fun j m => h1 j m _ (by decide)) (fun j m => h1 j m _ (by decide))⟩
theorem put (hl : 0 < B.heap.size) {l : Nat} {o o' : Obj} (h : B.heap.size ≤ l) (ho : A.heap[l]? = some o) (hc : o.isCells = false) : KpS Bx u ps A (A.putObj l o') :=
 turned (Turned.put A l o') (fun j e t _ => by subst e; exact Typed.noncells ho hc t) (fun j e => by subst e; omega)
end KpS
structure B4 (w0 : World) (rB cB gp gs cnt : Nat) (vb vst : Value) (vsp : List Value) (pst : List Pg) (xs : List (Nat × Value)) (c : Int) (W : World) : Prop where
 l : L4 w0 rB cB vb xs W
 p : PageAt W gp gp vsp [(true, l3)]
 s : StoreAt W gs gs vst pst 1 1
 b : Boxed W cnt 3 (.int .i64 c)
namespace B4
variable {w0 W W' : World} {rB cB gp gs cnt : Nat} {vb vst : Value} {vsp : List Value} {pst : List Pg} {xs : List (Nat × Value)} {c c' : Int}
theorem turned {M : Nat → Prop} (h : B4 w0 rB cB gp gs cnt vb vst vsp pst xs c W) (ht : Turned M W W') (h0 : ∀ j, M j → w0.heap.size ≤ j) (h1 : ∀ j, M j → ∀ e, e ≠ 3 → ¬ Typed W e j) (hb : Boxed W' cnt 3 (.int .i64 c')) : B4 w0 rB cB gp gs cnt vb vst vsp pst xs c' W' := by
 refine ⟨h.l.turned ht h0 (fun j m => h1 j m _ (by decide)) (fun j m => h1 j m _ (by decide)) (fun j m => h1 j m _ (by decide)), h.p.turned ht (fun m => h1 _ m _ (by decide) h.p.typed) (fun j m => h1 j m _ (by decide)), h.s.turned ht (fun k hk m => ?_) (fun j m => h1 j m _ (by decide)), hb⟩
 rcases hk with hk | hk | ⟨q, hq, hk⟩
 ·rw [hk] at m; exact h1 _ m _ (by decide) h.s.raw.typed
 ·exact h1 _ m _ (by decide) (h.s.raw.slTyped k hk)
 ·rw [← hk] at m; exact h1 _ m _ (by decide) (h.s.raw.page q hq).typed
theorem laid (h : B4 w0 rB cB gp gs cnt vb vst vsp pst xs c W) (hb : Laid W W') : B4 w0 rB cB gp gs cnt vb vst vsp pst xs c W' :=
 h.turned (M := fun _ => False) (Turned.ofBelow hb _) (fun _ h => h.elim) (fun _ h => h.elim) ((hb.block _ h.b.lt).trans h.b)
theorem put (h : B4 w0 rB cB gp gs cnt vb vst vsp pst xs c W) {l : Nat} {o o' : Obj} (hl : w0.heap.size ≤ l) (ho : W.heap[l]? = some o) (hc : o.isCells = false) : B4 w0 rB cB gp gs cnt vb vst vsp pst xs c (W.putObj l o') :=
 h.turned (Turned.put W l o') (fun j e => by rw [e]; exact hl) (fun j e t _ => by subst e; exact Typed.noncells ho hc t) ((World.putObj_heap_other (fun e => by
  have hb : W.heap[cnt]? = _ := h.b
  rw [e, ho] at hb
  injection hb with hb
  subst hb
  cases hc)).trans h.b)
theorem eqRow (h : B4 w0 rB cB gp gs cnt vb vst vsp pst xs c W) {B : Nat} {A : Option Addr} {k : Nat} (hx : (B, Value.slice A 3 k) ∈ xs) : Calls Tryz.prog 99 #[rowV A 3 k true, rowV (some ⟨cB, 0, none⟩) 3 3 true] W fun e w' => e = .returned (.bool true) ∧ Below W.heap.size W w' := by
 refine (packEq_walk A (some ⟨cB, 0, none⟩) 3 k 3 3 true true l3 l3 W (by decide) (by decide) (HasC.sq (h.l.got _ hx).2) h.l.sq).mono ?_
 rintro e w' ⟨rfl, hb⟩
 exact ⟨ret_bool (by unfold eqL; decide), hb⟩
theorem bytes9 (h : B4 w0 rB cB gp gs cnt vb vst vsp pst xs c W) : Calls Tryz.prog 100 #[ptr gp] W fun e w' => e = .returned (.int .i64 9) ∧ W = w' := by
 have e : bytesN [(true, l3)] = 9 := by decide +kernel
 have k := pageBytes_walk gp gp vsp [(true, l3)] W h.p
 rw [e] at k
 exact k
theorem gone1 (h : B4 w0 rB cB gp gs cnt vb vst vsp pst xs c W) : Calls Tryz.prog 101 #[ptr gs] W fun e w' => e = .returned (.int .i64 1) ∧ W = w' := storeGone_walk h.s.raw
theorem len1 (h : B4 w0 rB cB gp gs cnt vb vst vsp pst xs c W) (hr : allRows pst = [(true, l3)]) : Calls Tryz.prog 102 #[ptr gs] W fun e w' => e = .returned (.int .i64 1) ∧ W = w' := by
 have k := storeLen_walk h.s.raw
 rw [hr] at k
 exact k
theorem may1 (h : B4 w0 rB cB gp gs cnt vb vst vsp pst xs c W) : Calls Tryz.prog 33 #[rowV (some ⟨cB, 0, none⟩) 3 3 true] W fun e w' => e = .returned (.bool true) ∧ Below W.heap.size W w' := by
 have k := packMay_walk (some ⟨cB, 0, none⟩) 3 3 true l3 W h.l.sp l3_range h.l.sq (by decide)
 rw [l3_may] at k
 exact k
theorem row0 (h : B4 w0 rB cB gp gs cnt vb vst vsp pst xs c W) : W.cell? ⟨rB, 0, none⟩ = some (.slice (some ⟨cB, 0, none⟩) 3 3) := h.l.row.get 0
theorem row1 (h : B4 w0 rB cB gp gs cnt vb vst vsp pst xs c W) : W.cell? ⟨rB, 1, none⟩ = some (.bool true) := h.l.row.get 1
theorem got0 (h : B4 w0 rB cB gp gs cnt vb vst vsp pst xs c W) {x : Nat × Value} (hx : x ∈ xs) : W.cell? ⟨x.1, 0, none⟩ = some x.2 := (h.l.got x hx).1.get 0
theorem got1 (h : B4 w0 rB cB gp gs cnt vb vst vsp pst xs c W) {x : Nat × Value} (hx : x ∈ xs) : W.cell? ⟨x.1, 1, none⟩ = some (.bool true) := (h.l.got x hx).1.get 1
theorem intOnly (h : B4 w0 rB cB gp gs cnt vb vst vsp pst xs c W) : ∀ j, j = cnt → ∀ e, e ≠ 3 → ¬ Typed W e j := fun j hj e he ht => by
 subst hj
 exact (show Typed W 3 j from ⟨_, _, h.b⟩).apart ht (fun x => he x.symm) rfl
theorem count (h : B4 w0 rB cB gp gs cnt vb vst vsp pst xs c W) (hc : w0.heap.size ≤ cnt) (x : Int) : B4 w0 rB cB gp gs cnt vb vst vsp pst xs x (W.setCell ⟨cnt, 0, none⟩ (.int .i64 x)) :=
 h.turned (Turned.ofCell cnt 0 W _) (fun j e => by rw [e]; exact hc) h.intOnly (h.b.set _)
end B4
end Go.Proofs.YtgcfpfhmjhkgnaaGreatDoor
namespace Go.Proofs.YtgcfpfhmjhkgnaaGreatDoor
open Go.ChangeShapes Go.WideShapes Go.ChangeAt Go.RowKit Go.Shelf
attribute [local go_sem] Oper.semAt_some
theorem seq_not_nil (lb : Array Value) (w : World) : (binOp .eql 118 (.func (.func 125) #[] lb) .nilFunc).run Tryz.prog w = .ok (.bool false) w := by first | rfl | kernel_rfl
theorem begun4_walk (w : World) (hs : Spans w) : Calls Tryz.prog 61 #[] w fun e w' => e = .returned (.bool true) ∧ Below w.heap.size w w' := by
 have bb := ((Below.refl w.heap.size w).alloc (Nat.le_refl _) (.cells cells9 33)).alloc (by simp) (.cells #[.slice (some ⟨w.heap.size, 0, none⟩) 3 3, .bool true] 24)
 have R1 : RowAt ((w.alloc (.cells cells9 33)).alloc (.cells #[.slice (some ⟨w.heap.size, 0, none⟩) 3 3, .bool true] 24)) (w.heap.size + 1) (.slice (some ⟨w.heap.size, 0, none⟩) 3 3) true := by
  have := heap_alloc_new (w.alloc (.cells cells9 33)) (.cells #[.slice (some ⟨w.heap.size, 0, none⟩) 3 3, .bool true] 24)
  rw [World.size_alloc] at this
  exact this
 have C1 : ((w.alloc (.cells cells9 33)).alloc (.cells #[.slice (some ⟨w.heap.size, 0, none⟩) 3 3, .bool true] 24)).heap[w.heap.size]? = some (.cells cells9 33 (0, 0)) :=
  (Below.heap_alloc _ _ _ (by simp)).trans (heap_alloc_new w _)
 have PW := Lib.hid (put_walk (some ⟨w.heap.size, 0, none⟩) 3 3 true l3 _ (hs.below bb hs.size) l3_range ⟨rfl, fun _ => ⟨w.heap.size, 0, rfl, by simp; omega, fun j u hu => by rw [Nat.zero_add, cell_of_row _ _ j _ _ (0, 0) C1, ← flat_l3, List.getElem?_toArray]; exact hu⟩⟩ (Nat.le_refl _) (by decide))
 have S := Lib.hid hs
 have BH := Lib.hid bb
 have RH := Lib.hid R1
 have CH := Lib.hid C1
 clear bb R1 C1 hs
 refine (callsIn_wide (n := 3)).1 (callsIn_of_wp_marks Tryz.func61 rfl trivial ?_ rfl)
 simp only [Tryz.ntmps61, List.size_toArray, List.length_nil, Nat.reduceSub, Array.replicate_succ, Array.replicate_zero, List.push_toArray, List.append_toArray, List.nil_append, List.cons_append]
 refine wpIn_wide.2 ?_
 go_wp2_with fail
 refine PW.out.mono ?_
 rintro e w2 ⟨vb, rfl, hb, b2⟩
 rw [show putV true l3 = bs9 by unfold putV; rw [if_pos l3_may, l3_put]] at hb
 rw [l3_may]
 have L2 := Lib.hid (show L4 w (w.heap.size + 1) w.heap.size vb [] w2 from
  ⟨S.out, (S.out.below (BH.out.trans (b2.mono BH.out.size)) S.out.size), BH.out.trans (b2.mono BH.out.size), (b2.block _ (by simp)).trans RH.out, (b2.block _ (by simp; omega)).trans CH.out, hb.mono' BH.out.size, (fun x hx => by cases hx), Nat.le_succ _, Nat.le_refl _, (fun x hx => by cases hx)⟩)
 obtain ⟨Ab, cb, rfl, hcb⟩ := hb.full
 have GW := Lib.hid (get_walk Ab 9 cb bs9 w2 L2.out.sp hb.sq hcb (by decide) bs9_range)
 clear PW BH RH CH hb b2
 go_wp2_with fail
 refine GW.out.mono ?_
 rintro e w3 ⟨v3, rfl, h3, b3⟩
 rw [bs9_got] at h3 ⊢
 simp only at h3 ⊢
 obtain ⟨A3, c3, rfl, _⟩ := HasC.shape h3
 have L3 := Lib.hid ((L2.out.laid b3).more (h3.mono L2.out.old.size))
 have Z3 := Lib.hid (show w2.heap.size ≤ w3.heap.size from b3.size)
 clear GW h3 b3 L2
 have UW := Lib.hid (getUint_walk (some ⟨w3.heap.size + 1, 0, none⟩) 3 3 [128, 1, 9] ((w3.alloc (.cells #[.slice A3 l3.length c3, .bool true] 24)).alloc (.cells #[.int .u8 128, .int .u8 1, .int .u8 9] 5)) (B := w3.heap.size + 2)
  ⟨rfl, fun _ => ⟨w3.heap.size + 1, 0, rfl, Nat.lt_succ_self _, fun j u hu => by
   have hg := heap_alloc_new (w3.alloc (.cells #[.slice A3 l3.length c3, .bool true] 24)) (.cells #[.int .u8 128, .int .u8 1, .int .u8 9] 5)
   rw [World.size_alloc] at hg
   rw [Nat.zero_add, cell_of_row _ _ j _ _ (0, 0) hg]
   match j, hu with
   | 0, hu => exact hu
   | 1, hu => exact hu
   | 2, hu => exact hu⟩⟩ (by decide) (by decide))
 have L4 := Lib.hid (L3.out.laid ((Below.refl _ _).alloc (Nat.le_refl _) (.cells #[.int .u8 128, .int .u8 1, .int .u8 9] 5)))
 go_wp2_with fail
 refine UW.out.mono ?_
 rintro e w4 ⟨rfl, hw4⟩
 rw [hw4] at L4
 rw [u3_get]
 clear UW hw4 L3
 go_wp2_with fail
 refine (pageNew_walk w4).mono ?_
 rintro e w5 ⟨rfl, hp5, b5, z5⟩
 have hgp : w4.heap.size < w5.heap.size := hp5.lt
 have L5 := Lib.hid (L4.out.laid b5)
 have G5 := Lib.hid (show w.heap.size ≤ w4.heap.size from L4.out.old.size)
 obtain ⟨gp, hgpe⟩ : ∃ gp, w4.heap.size = gp := ⟨_, rfl⟩
 rw [hgpe] at hp5 hgp G5 ⊢
 clear L4 b5 z5 hgpe
 have P5 := Lib.hid hp5
 go_wp2_with fail
 refine (storeNew_walk 1 w5).mono ?_
 rintro e w6 ⟨rfl, hs6, b6, z6⟩
 have L6 := Lib.hid (L5.out.laid b6)
 have P6 := Lib.hid (P5.out.below b6)
 have hne : gp ≠ w5.heap.size := by omega
 obtain ⟨gs, hgse⟩ : ∃ gs, w5.heap.size = gs := ⟨_, rfl⟩
 rw [hgse] at hs6 hne ⊢
 have G6 := Lib.hid (show w.heap.size ≤ gs by rw [← hgse]; exact L5.out.old.size)
 rw [show clampN 1 = 1 by decide] at hs6
 have S6 := Lib.hid hs6
 have NE := Lib.hid hne
 have r0 := L6.out.row.get 0
 have r1 := L6.out.row.get 1
 simp only [List.getElem?_toArray, List.getElem?_cons_zero, List.getElem?_cons_succ] at r0 r1
 clear L5 P5 b6 z6 hgse hs6 hp5 hgp hne
 go_wp2_with fail
 refine (pageAdd_walk gp gp [] [] _ 3 3 true l3 w6 L6.out.sp P6.out (by have := P6.out.lt; omega) l3_range L6.out.sq (Nat.le_refl _) (by decide)).mono ?_
 rintro e w7 ⟨ok, vs7, hok, rfl, hp7, g7, _⟩
 rw [l3_may, Bool.true_and] at hok
 have hok' : ok = true := by rw [hok]; rfl
 subst hok'
 rw [if_pos rfl, List.nil_append] at hp7
 have t7 := (Turned.ofGrown g7).mono (M' := (· = gp)) fun k _ e => by injection e with e; exact e.symm
 have PT := P6.out.typed
 have L7 := Lib.hid (L6.out.turned t7 (fun j e => by rw [e]; exact G5.out) (fun j e h => by subst e; exact PT.apart h (by decide) rfl) (fun j e h => by subst e; exact PT.apart h (by decide) rfl) (fun j e h => by subst e; exact PT.apart h (by decide) rfl))
 have S7 := Lib.hid (S6.out.turned t7 (fun k hk e => by
  rcases hk with hk | hk | ⟨q, hq, _⟩
  ·exact NE.out (e.symm.trans hk)
  ·cases hk
  ·cases hq) (fun j e h => by subst e; exact PT.apart h (by decide) rfl))
 have P7 := Lib.hid hp7
 clear L6 P6 S6 t7 g7 hp7 r0 r1 hok PT
 go_wp2_with fail
 refine (pageAt_some gp gp vs7 [(true, l3)] 0 (true, l3) w7 L7.out.sp P7.out rfl).mono ?_
 rintro e w8 ⟨v8, rfl, h8, b8⟩
 simp only [Option.elim_some, Option.isSome_some] at h8 ⊢
 obtain ⟨A8, c8, rfl, _⟩ := HasC.shape h8
 have L8 := Lib.hid ((L7.out.laid b8).more (HasC.mono h8 L7.out.old.size))
 have bb := b8.alloc b8.size (.cells #[.slice A8 l3.length c8, .bool true] 24)
 have P8 := Lib.hid (P7.out.below bb)
 have S8 := Lib.hid (S7.out.below bb)
 have Z8 := Lib.hid (show w.heap.size ≤ w8.heap.size from Nat.le_trans L7.out.old.size b8.size)
 clear L7 P7 S7 h8 b8 bb
 go_wp2_with fail
 refine (storeAdd_walk none 0 0 false [] (w8.alloc (.cells #[.slice A8 l3.length c8, .bool true] 24)) L8.out.sp S8.out (by decide) ⟨rfl, fun h => absurd h (by decide)⟩ (Nat.le_refl _) (by decide) (by decide) (by decide)).mono ?_
 rintro e w9 ⟨v9, ps9, rfl, s9, r9, t9, o9⟩
 have r9' : allRows ps9 = [(false, [])] := by rw [r9]; decide +kernel
 have S9 := Lib.hid (show StoreAt w9 gs gs v9 ps9 1 0 from s9)
 have OG := Lib.hid (S8.out.raw.own_ge)
 have L9 := Lib.hid (L8.out.turned t9 (fun j e => Nat.le_trans G6.out (OG.out j e).1) (fun j e h => by
   rcases e with e | e | ⟨q, hq, _⟩
   ·rw [e] at h; exact S8.out.raw.typed.apart h (by decide) rfl
   ·cases e
   ·cases hq) (fun j e h => by
   rcases e with e | e | ⟨q, hq, _⟩
   ·rw [e] at h; exact S8.out.raw.typed.apart h (by decide) rfl
   ·cases e
   ·cases hq) (fun j e => S8.out.raw.noBytes j e))
 have P9 := Lib.hid (P8.out.turned t9 (fun e => by
   rcases e with e | e | ⟨q, hq, _⟩
   ·exact NE.out e
   ·cases e
   ·cases hq) (fun j e => S8.out.raw.noBytes j e))
 have N9 := Lib.hid (show ¬ Owns gs v9 ps9 gp from fun e => by
  rcases o9 gp e with e | e
  ·rcases e with e | e | ⟨q, hq, _⟩
   ·exact NE.out e
   ·cases e
   ·cases hq
  ·have := P8.out.lt; omega)
 have R9 := Lib.hid r9'
 have q0 := L9.out.row.get 0
 have q1 := L9.out.row.get 1
 simp only [List.getElem?_toArray, List.getElem?_cons_zero, List.getElem?_cons_succ] at q0 q1
 clear L8 P8 S8 OG r9 r9' t9 o9 s9
 go_wp2_with fail
 refine (storeAdd_walk _ 3 3 true l3 w9 L9.out.sp S9.out l3_range L9.out.sq (Nat.le_refl _) (by decide) (by rw [R9.out]; decide) (by decide)).mono ?_
 rintro e w10 ⟨v10, ps10, rfl, s10, r10, t10, o10⟩
 rw [l3_may]
 have RT := Lib.hid (show allRows ps10 = [(true, l3)] by rw [r10, R9.out]; decide +kernel)
 have S10 := Lib.hid (show StoreAt w10 gs gs v10 ps10 1 1 by have h := s10; rw [R9.out] at h; exact h)
 have tps : ∀ j, Owns gs v9 ps9 j → ∀ e, e ≠ 144 → e ≠ 112 → e ≠ 141 → ¬ Typed w9 e j := fun j hj e e1 e2 e3 h => by
  rcases hj with hj | hj | ⟨q, hq, hj⟩
  ·rw [hj] at h; exact S9.out.raw.typed.apart h (fun x => e1 x.symm) rfl
  ·exact (S9.out.raw.slTyped j hj).apart h (fun x => e2 x.symm) rfl
  ·rw [← hj] at h; exact (S9.out.raw.page q hq).typed.apart h (fun x => e3 x.symm) rfl
 have L10 := Lib.hid (L9.out.turned t10 (fun j e => Nat.le_trans G6.out (S9.out.raw.own_ge j e).1) (fun j e => tps j e _ (by decide) (by decide) (by decide)) (fun j e => tps j e _ (by decide) (by decide) (by decide)) (fun j e => tps j e _ (by decide) (by decide) (by decide)))
 have P10 := Lib.hid (P9.out.turned t10 N9.out (fun j e => S9.out.raw.noBytes j e))
 clear L9 P9 S9 N9 R9 q0 q1 s10 r10 t10 o10 tps
 go_wp2_with fail
 refine (storeAt_some 0 (true, l3) L10.out.sp S10.out (by rw [RT.out]; decide) (by rw [RT.out]; rfl)).mono ?_
 rintro e w11 ⟨v11, rfl, h11, b11⟩
 simp only [Option.elim_some, Option.isSome_some] at h11 ⊢
 obtain ⟨A11, c11, rfl, _⟩ := HasC.shape h11
 have L11 := Lib.hid ((L10.out.laid b11).more (HasC.mono h11 L10.out.old.size))
 have bb := b11.alloc b11.size (.cells #[.slice A11 l3.length c11, .bool true] 24)
 have P11 := Lib.hid (P10.out.below bb)
 have S11 := Lib.hid (S10.out.below bb)
 clear L10 P10 S10 h11 b11 bb
 go_wp2_with fail
 have b12 := (Below.refl (w11.alloc (.cells #[.slice A11 l3.length c11, .bool true] 24)).heap.size (w11.alloc (.cells #[.slice A11 l3.length c11, .bool true] 24))).alloc (Nat.le_refl _) (.cells #[.int .i64 0] 3)
 have L12 := Lib.hid (L11.out.laid b12)
 have P12 := Lib.hid (P11.out.below b12)
 have S12 := Lib.hid (S11.out.below b12)
 have CB := Lib.hid (show Boxed ((w11.alloc (.cells #[.slice A11 l3.length c11, .bool true] 24)).alloc (.cells #[.int .i64 0] 3)) (w11.heap.size + 1) 3 (.int .i64 0) by
  have := heap_alloc_new (w11.alloc (.cells #[.slice A11 l3.length c11, .bool true] 24)) (.cells #[.int .i64 0] 3)
  rw [World.size_alloc] at this
  exact this)
 have Z11 := Lib.hid (show w.heap.size ≤ w11.heap.size from by have := L11.out.ge.2.2 _ (List.mem_cons_self ..); exact this)
 have NP := Lib.hid (show ps10.length ≤ 1000001 by have h := S12.out.kept.last_lt; rw [RT.out] at h; simp at h; omega)
 have fnn := seq_not_nil
 clear L11 P11 S11 b12
 refine (all_walk' S12.out.raw NP.out).mono ?_
 rintro e w13 ⟨B1, u1, rfl, _, _, _, b13⟩
 have L13 := Lib.hid (L12.out.laid (b13.mono (Nat.le_refl _)))
 have P13 := Lib.hid (P12.out.below b13)
 have S13 := Lib.hid (S12.out.below b13)
 have C13 := Lib.hid (show Boxed w13 (w11.heap.size + 1) 3 (.int .i64 0) from (b13.block _ CB.out.lt).trans CB.out)
 clear L12 P12 S12 CB b13
 go_wp2_with fail
 refine (all_walk' S13.out.raw NP.out).mono ?_
 rintro e w14 ⟨B2, u2, rfl, hB2, x14, o14, b14⟩
 have L14 := Lib.hid (L13.out.laid b14)
 have P14 := Lib.hid (P13.out.below b14)
 have S14 := Lib.hid (S13.out.below b14)
 have C14 := Lib.hid (show Boxed w14 (w11.heap.size + 1) 3 (.int .i64 0) from (b14.block _ C13.out.lt).trans C13.out)
 have SR := Lib.hid (Src2.of_all L13.out.sp S13.out.raw x14 o14 b14)
 clear L13 P13 S13 C13 hB2 x14 o14 b14
 go_wp2_with fail
 have B14 := Lib.hid (B4.mk L14.out P14.out S14.out C14.out)
 have SZ := Lib.hid (show w14.heap.size ≤ w14.heap.size from Nat.le_refl _)
 have TL := Lib.hid (all1_tells (Kp := KpS B2 u2 ps10) (S := w14.heap.size) SR.out (Nat.le_refl _) (fun A B hk hs => ⟨hk.2 hs, hk.1⟩) NP.out (by rw [RT.out]; decide))
 rw [RT.out] at TL
 have SG := Lib.hid (show 0 < w14.heap.size from L14.out.sp.size)
 have OZ := Lib.hid (show w.heap.size ≤ w14.heap.size from L14.out.old.size)
 have CN := Lib.hid (show w.heap.size ≤ w11.heap.size + 1 by have := Z11.out; omega)
 have CW := Lib.hid (show w11.heap.size + 1 < w14.heap.size from C14.out.lt)
 clear L14 P14 S14 C14 SR
 obtain ⟨cnt, hcnt⟩ : ∃ cnt, w11.heap.size + 1 = cnt := ⟨_, rfl⟩
 rw [hcnt] at B14 CN CW ⊢
 clear hcnt
 refine wp_over (Fit := FitR w14.heap.size [(true, l3)]) (Kp := KpS B2 u2 ps10) (N := 1) (gf := 125) (lb := #[.pointer (some ⟨B2, 0, none⟩)]) rfl (enters_of Tryz.func125 (by kernel_rfl) rfl) TL.out KpS.trans (fun A B _ h => KpS.laid h) (fun W l o o' hl ho hc => KpS.put SG.out hl ho hc) (fun k x W h => by obtain ⟨v, r, rfl, _⟩ := h; rfl)
  (fun k W => Hid (B4 w (w.heap.size + 1) w.heap.size gp gs cnt (.slice Ab bs9.length cb) v10 vs7 ps10 [(w11.heap.size, .slice A11 l3.length c11), (w8.heap.size, .slice A8 l3.length c8), (w3.heap.size, .slice A3 l3.length c3)] (3 * (k : Int)) W)) (fun _ _ _ => False) (fun k A B h hb => h.out.laid hb) (fun k W l o o' hl ho hc h => h.out.put (Nat.le_trans OZ.out hl) ho hc) (fun _ _ _ _ h _ => h) (fun _ _ _ _ _ _ _ _ _ h => h) B14 ?round ?done (fun _ _ _ _ _ _ h _ => h.elim)
 case round =>
  rintro l k x W hk hl ⟨o, ho, hoc⟩ hi ⟨v, r, rfl, hr, hv⟩
  obtain rfl : k = 0 := by omega
  have hr' : (true, l3) = r := by simpa using hr
  subst hr'
  obtain ⟨A, c, rfl, _⟩ := HasC.shape hv
  gi_wp2
  refine ⟨(Below.refl _ _).alloc (Nat.le_refl _) _, fun o1 => ?_⟩
  have hlt : l < W.heap.size := (Array.getElem?_eq_some_iff.1 ho).1
  have ho1 : (W.alloc (.cells #[.slice A l3.length c, .bool true] 24)).heap[l]? = some o := (Below.heap_alloc _ _ _ hlt).trans ho
  have H2 := Lib.hid ((hi.out.laid ((Below.refl _ _).alloc (Nat.le_refl _) (.cells #[.slice A l3.length c, .bool true] 24))).put (o' := o1) (Nat.le_trans OZ.out hl) ho1 hoc)
  have rq : RowAt ((W.alloc (.cells #[.slice A l3.length c, .bool true] 24)).putObj l o1) W.heap.size (.slice A l3.length c) true := (World.putObj_heap_other (by omega)).trans (heap_alloc_new W _)
  have q0 : ((W.alloc (.cells #[.slice A l3.length c, .bool true] 24)).putObj l o1).cell? ⟨W.heap.size, 0, none⟩ = some (.slice A 3 c) := rq.get 0
  have c0 : ((W.alloc (.cells #[.slice A l3.length c, .bool true] 24)).putObj l o1).cell? ⟨cnt, 0, none⟩ = some (.int .i64 0) := H2.out.b.cell
  have f0 := H2.out.b.frozen
  clear hi ho1 hv rq fnn ho hlt
  generalize (W.alloc (.cells #[.slice A l3.length c, .bool true] 24)).putObj l o1 = W2 at H2 q0 c0 f0 ⊢
  gi_wp2
  exact ⟨(KeepsOthers.setCell _ _ _).from _, KpS.turned (Turned.ofCell cnt 0 W2 _) H2.out.intOnly (fun j e => by rw [e]; have := S.out.size; have := CN.out; omega), Lib.hid (H2.out.count CN.out 3)⟩
 case done =>
  rintro D W hD hi hdef
  have H := Lib.hid (And.intro hi.out hdef)
  have OLD := Lib.hid hi.out.l.old
  clear hi hdef TL SZ SG CN CW B14 fnn NP Z11 G5 G6 NE Z8 Z3
  go_wp2_with fail
  refine (begunBegun_walk W H.out.1.l.sp).mono ?_
  rintro e W1 ⟨rfl, b1⟩
  have H1 := Lib.hid (And.intro (H.out.1.laid b1) ((b1.block D (Array.getElem?_eq_some_iff.1 H.out.2).1).trans H.out.2))
  clear H b1
  have cv : (convert 60 9 (.slice Ab bs9.length cb)).run Tryz.prog W1 = .ok (.string ⟨#[5, 2, 97, 1, 0, 1, 32, 1, 0]⟩) W1 := conv_sq (l := bs9) H1.out.1.l.byt.sq bs9_range cb
  have r0 := H1.out.1.row0
  have r1 := H1.out.1.row1
  have x0 := H1.out.1.got0 (x := (w3.heap.size, .slice A3 l3.length c3)) (by simp)
  have x1 := H1.out.1.got1 (x := (w3.heap.size, .slice A3 l3.length c3)) (by simp)
  simp only at x0 x1
  go_wp2_with fail
  refine (H1.out.1.eqRow (B := w3.heap.size) (A := A3) (k := c3) (List.mem_cons_of_mem _ (List.mem_cons_of_mem _ (List.mem_cons_self ..)))).mono ?_
  rintro e W2 ⟨rfl, b2⟩
  have H2 := Lib.hid (And.intro (H1.out.1.laid b2) ((b2.block D (Array.getElem?_eq_some_iff.1 H1.out.2).1).trans H1.out.2))
  clear H1 b2 cv r0 r1 x0 x1
  have r0 := H2.out.1.row0
  have r1 := H2.out.1.row1
  have x0 := H2.out.1.got0 (x := (w8.heap.size, .slice A8 l3.length c8)) (by simp)
  have x1 := H2.out.1.got1 (x := (w8.heap.size, .slice A8 l3.length c8)) (by simp)
  simp only at x0 x1
  go_wp2_with fail
  refine (H2.out.1.eqRow (B := w8.heap.size) (A := A8) (k := c8) (List.mem_cons_of_mem _ (List.mem_cons_self ..))).mono ?_
  rintro e W3 ⟨rfl, b3⟩
  have H3 := Lib.hid (And.intro (H2.out.1.laid b3) ((b3.block D (Array.getElem?_eq_some_iff.1 H2.out.2).1).trans H2.out.2))
  clear H2 b3 r0 r1 x0 x1
  go_wp2_with fail
  refine (H3.out.1.bytes9).mono ?_
  rintro e W3' ⟨rfl, rfl⟩
  have r0 := H3.out.1.row0
  have r1 := H3.out.1.row1
  have x0 := H3.out.1.got0 (x := (w11.heap.size, .slice A11 l3.length c11)) (by simp)
  have x1 := H3.out.1.got1 (x := (w11.heap.size, .slice A11 l3.length c11)) (by simp)
  simp only at x0 x1
  go_wp2_with fail
  refine (H3.out.1.eqRow (B := w11.heap.size) (A := A11) (k := c11) (List.mem_cons_self ..)).mono ?_
  rintro e W4 ⟨rfl, b4⟩
  have H4 := Lib.hid (And.intro (H3.out.1.laid b4) ((b4.block D (Array.getElem?_eq_some_iff.1 H3.out.2).1).trans H3.out.2))
  clear H3 b4 r0 r1 x0 x1
  go_wp2_with fail
  refine (H4.out.1.gone1).mono ?_
  rintro e W4' ⟨rfl, rfl⟩
  go_wp2_with fail
  refine (H4.out.1.len1 RT.out).mono ?_
  rintro e W4' ⟨rfl, rfl⟩
  have r0 := H4.out.1.row0
  have r1 := H4.out.1.row1
  have c0 : W4.cell? ⟨cnt, 0, none⟩ = some (.int .i64 3) := H4.out.1.b.cell
  go_wp2_with fail
  refine (H4.out.1.may1).mono ?_
  rintro e W5 ⟨rfl, b5⟩
  have H5 := Lib.hid (And.intro (H4.out.1.laid b5).l.old ((b5.block D (Array.getElem?_eq_some_iff.1 H4.out.2).1).trans H4.out.2))
  clear H4 b5 r0 r1 c0
  go_wp2
  refine ⟨by simp, .inl ⟨_, _, rfl, run_takeDeferred H5.out.2, ?_⟩⟩
  exact ⟨_, results_tmp rfl _ _ _, rfl, H5.out.1.trans ((Turned.put W5 D _).toBelow H5.out.1.size (fun j hj e => by have := OZ.out; omega))⟩
