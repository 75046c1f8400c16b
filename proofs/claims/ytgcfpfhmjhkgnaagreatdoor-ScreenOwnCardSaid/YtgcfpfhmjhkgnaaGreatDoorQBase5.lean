/-
  A region that draws its order: an operation that yields nothing, as the next one; two operations of which either may be the next one. A list of rows in memory that grows: a row of two cells each, their cells in blocks of their own. A list of rows whose slice begins anywhere in a block of its own: one row more behind it; its first ones gone.
-/
import Derived.Test.YtgcfpfhmjhkgnaaGreatDoorQBase4
import Derived.Test.YtgcfpfhmjhkgnaaGreatDoorQStore3
namespace Go.Proofs.YtgcfpfhmjhkgnaaGreatDoor.Ord
open Go.ChangeShapes Go.WideShapes Go.ChangeAt Go.RowKit
section
variable {P : Program} {ops : Array Oper} {L : List Line} {Q : Exit → Act → World → Prop} {S : World → Prop}
theorem effect {bs bs' : List Bool} {k fuel : Nat} {m : List Nat} {op : Op} {g : Option (Nat × Bool)} {a : Act} {w w1 : World} (R : Reg ops L) (hs : L[k]? = some (none, op, g, m)) (hok : okF bs L k bs' = true)
  (hg : Chain.Open ops a g) (hS : S w1) (hv : ∀ ty, (execOp a.eval ⟨none, op, ty, "", #[], none⟩).run P w = .ok .skip w1)
  (h : wpAnyH P .any ops Q S fuel bs'.toArray a w1) : wpAnyH P .any ops Q S (fuel + 1) bs.toArray a w := by
 obtain ⟨o, ho, e1, e2, e3⟩ := line_get R.look hs
 subst e2 e3
 refine forced R hok (wpOp_step ho fun K hK => ?_)
 rw [if_pos hg.wanted]
 unfold Oper.wp
 rw [Chain.exec_shape, e1, hv]
 simp only [Oper.upon, e1]
 exact hK _ _ ⟨hS, h⟩
def Step (P : Program) (ops : Array Oper) (Q : Exit → Act → World → Prop) (S : World → Prop) (fuel k : Nat) (bs' : List Bool) (a : Act) (w : World) : Prop := wpOp P ops Q k (fun a' w' => S w' ∧ wpAnyH P .any ops Q S fuel bs'.toArray a' w') a w
theorem either {bs bs1 bs2 : List Bool} {i j fuel : Nat} {a : Act} {w : World} (R : Reg ops L) (hr : (up bs L == [i, j] && bs.set i true == bs1 && bs.set j true == bs2) = true) (h1 : Step P ops Q S fuel i bs1 a w) (h2 : Step P ops Q S fuel j bs2 a w) : wpAnyH P .any ops Q S (fuel + 1) bs.toArray a w := by
 simp only [Bool.and_eq_true, beq_iff_eq] at hr
 obtain ⟨⟨hr, hb1⟩, hb2⟩ := hr
 subst hb1 hb2
 refine ⟨fun h0 => ?_, fun t ht => ?_⟩
 ·have := (mem_up R.look bs i).2 (by rw [hr]; simp)
  rw [h0] at this
  cases this
 ·have ht' := (mem_up R.look bs t).1 ht
  rw [hr] at ht'
  have ht2 : t = i ∨ t = j := by simpa using ht'
  rw [List.setIfInBounds_toArray]
  rcases ht2 with rfl | rfl
  ·exact h1
  ·exact h2
theorem step_next {bs bs' : List Bool} {k fuel : Nat} {a : Act} {w : World} (R : Reg ops L) (hok : okF bs L k bs' = true) (h : Step P ops Q S fuel k bs' a w) : wpAnyH P .any ops Q S (fuel + 1) bs.toArray a w := forced R hok h
theorem step_value {bs' : List Bool} {k fuel d : Nat} {m : List Nat} {op : Op} {g : Option (Nat × Bool)} {v : Value} {a : Act} {w w1 : World} (R : Reg ops L) (hs : L[k]? = some (some d, op, g, m))
  (hg : Chain.Open ops a g) (hS : S w1) (hv : ∀ ty, (execOp a.eval ⟨some d, op, ty, "", #[], none⟩).run P w = .ok (.value v) w1) (hd : d < a.tmps.size)
  (h : ∀ a', Chain.Next a a' d v → wpAnyH P .any ops Q S fuel bs'.toArray a' w1) : Step P ops Q S fuel k bs' a w := by
 obtain ⟨o, ho, e1, e2, e3⟩ := line_get R.look hs
 subst e2 e3
 refine wpOp_step ho fun K hK => ?_
 rw [if_pos hg.wanted]
 unfold Oper.wp
 rw [Chain.exec_shape, e1, hv]
 simp only [Oper.upon, e1]
 exact hK _ _ ⟨hS, h _ (Chain.next hd v)⟩
theorem step_call {bs' : List Bool} {k fuel d f : Nat} {m : List Nat} {xs : Array Operand} {ts : Array TypeId} {args : Array Value} {g : Option (Nat × Bool)} {a : Act} {w : World} {Post : Ending → World → Prop} (R : Reg ops L)
  (hs : L[k]? = some (some d, .call { callee := .value (.func f), args := xs, argTypes := ts }, g, m))
  (hg : Chain.Open ops a g) (ha : xs.map a.eval = args) (hf : Chain.enters P f = true) (hc : Calls P f args w Post) (hd : d < a.tmps.size)
  (h : ∀ e w', Post e w' → ∃ v, e = .returned v ∧ S w' ∧ ∀ a', Chain.Next a a' d v → wpAnyH P .any ops Q S fuel bs'.toArray a' w') : Step P ops Q S fuel k bs' a w := by
 obtain ⟨o, ho, e1, e2, e3⟩ := line_get R.look hs
 subst e3
 refine wpOp_step ho fun K hK => ?_
 rw [if_pos hg.wanted]
 unfold Oper.wp
 have he : (execOp a.eval o).run P w = .ok (.enter f args) w := by
  rw [Chain.exec_shape, e1, e2]
  subst ha
  simp [execOp, resolve, invoke, Act.eval, Deferred.ofValue, Chain.run_enters hf]
 rw [he, Oper.upon_enter]
 refine hc.mono fun e w' hp => ?_
 obtain ⟨v, rfl, hS, hw⟩ := h e w' hp
 rw [e1]
 exact hK _ _ ⟨hS, hw _ (Chain.next hd v)⟩
end
end Go.Proofs.YtgcfpfhmjhkgnaaGreatDoor.Ord
namespace Go.Proofs.YtgcfpfhmjhkgnaaGreatDoor
open Go.ChangeShapes Go.WideShapes Go.ChangeAt Go.RowKit
theorem infoRow : (Tryz.prog.info? 24).map (fun i => (i.zero, i.size, i.bytes)) = some (some (.agg #[.slice none 0 0, .bool false]), 2, 32) := by kernel_rfl
structure RowsIn (W : World) (base : Nat) (v : Value) (xs : List RowIn) : Prop where
 own : W.ownsRow base 24 2 v xs.length (xs.flatMap RowIn.vals)
 each : ∀ x ∈ xs, HasC W 0 (.slice x.A x.n x.c) x.l ∧ ∀ c ∈ x.l, -2147483648 ≤ c.1 ∧ c.1 ≤ 2147483647
namespace RowsIn
variable {W W' : World} {base : Nat} {v v' : Value} {xs : List RowIn}
theorem nothing (W : World) (base : Nat) : RowsIn W base (.slice none 0 0) [] := ⟨World.ownsRow_nil W base _ _, fun _ h => by cases h⟩
theorem typed (h : RowsIn W base v xs) : ∀ k, v.ownBlock = some k → Typed W 24 k := by
 intro k hk
 rcases h.own.2 with ⟨e, _⟩ | ⟨g, cap, cur, e, _, e3, _⟩
 ·rw [e] at hk; cases hk
 ·rw [e] at hk
  injection hk with hk
  subst hk
  exact ⟨_, _, e3⟩
theorem turned {M : Nat → Prop} (h : RowsIn W base v xs) (ht : Turned M W W') (hv : ∀ k, v.ownBlock = some k → ¬ M k) (hc : ∀ k, M k → ¬ Typed W 33 k) : RowsIn W' base v xs := by
 refine ⟨⟨h.own.1, ?_⟩, fun x hx => ⟨?_, (h.each x hx).2⟩⟩
 ·rcases h.own.2 with e | ⟨g, cap, cur, e, e2, e3, r⟩
  ·exact .inl e
  ·exact .inr ⟨g, cap, cur, e, e2, (ht.block g (Array.getElem?_eq_some_iff.1 e3).1 (hv g (by rw [e]; rfl))).trans e3, r⟩
 ·have hx' := (h.each x hx).1
  refine ⟨hx'.1, ?_⟩
  rcases hx'.2 with e | ⟨g, cap, cur, e, e2, e3, r⟩
  ·exact .inl e
  ·exact .inr ⟨g, cap, cur, e, e2, (ht.block g (Array.getElem?_eq_some_iff.1 e3).1 (fun m => hc g m ⟨_, _, e3⟩)).trans e3, r⟩
theorem below (h : RowsIn W base v xs) (hb : Below W.heap.size W W') : RowsIn W' base v xs := h.turned (M := fun _ => False) (Turned.ofBelow hb _) (fun _ _ h => h) (fun _ h => h.elim)
theorem snoc {x : RowIn} (h : RowsIn W base v xs) (hg : W.grownBy W' v.ownBlock) (ho : W'.ownsRow base 24 2 v' (xs.length + 1) (xs.flatMap RowIn.vals ++ x.vals)) (hx : HasC W 0 (.slice x.A x.n x.c) x.l) (hs : ∀ c ∈ x.l, -2147483648 ≤ c.1 ∧ c.1 ≤ 2147483647) : RowsIn W' base v' (xs ++ [x]) := by
 have ht := Turned.ofGrown hg
 have hc : ∀ k, v.ownBlock = some k → ¬ Typed W 33 k := fun k hk hty => (h.typed k hk).apart hty (by decide) rfl
 have one : ∀ y : RowIn, HasC W 0 (.slice y.A y.n y.c) y.l → HasC W' 0 (.slice y.A y.n y.c) y.l := fun y hy => by
  refine ⟨hy.1, ?_⟩
  rcases hy.2 with e | ⟨g, cap, cur, e, e2, e3, r⟩
  ·exact .inl e
  ·exact .inr ⟨g, cap, cur, e, e2, (ht.block g (Array.getElem?_eq_some_iff.1 e3).1 (fun m => hc g m ⟨_, _, e3⟩)).trans e3, r⟩
 refine ⟨?_, fun y hy => ?_⟩
 ·rw [List.length_append, List.flatMap_append]
  simpa [List.flatMap_cons] using ho
 ·rcases List.mem_append.1 hy with hy | hy
  ·exact ⟨one y (h.each y hy).1, (h.each y hy).2⟩
  ·rw [List.mem_singleton.1 hy]
   exact ⟨one x hx, hs⟩
theorem shape (h : RowsIn W base v xs) : ∃ A c, v = .slice A xs.length c ∧ xs.length ≤ c := by
 rcases h.own.2 with ⟨rfl, h0⟩ | ⟨g, cap, cur, rfl, _, _, hc, _⟩
 ·rw [h0]; exact ⟨_, _, rfl, Nat.le_refl _⟩
 ·exact ⟨_, _, rfl, hc⟩
theorem get {k : Nat} {x : RowIn} (h : RowsIn W base v xs) (hx : xs[k]? = some x) : ∃ g c, v = .slice (some ⟨g, 0, none⟩) xs.length c ∧ xs.length ≤ c ∧ base ≤ g ∧ g < W.heap.size ∧ W.cell? ⟨g, k * 2, none⟩ = some (.slice x.A x.n x.c) ∧ W.cell? ⟨g, k * 2 + 1, none⟩ = some (.bool x.wrap) := by
 have hk := (List.getElem?_eq_some_iff.1 hx).1
 obtain ⟨g, c, e, h1, h2, h3, hc⟩ := own_at h.own (by omega)
 exact ⟨g, c, e, h1, h2, h3, hc (k * 2) _ (by have := flatMap_get RowIn.vals 2 (fun _ => rfl) xs k x hx 0 _ rfl; simpa using this), hc (k * 2 + 1) _ (flatMap_get RowIn.vals 2 (fun _ => rfl) xs k x hx 1 _ rfl)⟩
theorem lt (h : RowsIn W base v xs) : ∀ k, v.ownBlock = some k → base ≤ k ∧ k < W.heap.size := fun k e => World.ownsRow.lt h.own k e
end RowsIn
theorem vals_one (x : RowIn) : ∀ u ∈ x.vals, u.oneCell' = true := by
 intro u hu
 unfold RowIn.vals at hu
 simp at hu
 rcases hu with rfl | rfl <;> rfl
end Go.Proofs.YtgcfpfhmjhkgnaaGreatDoor
namespace Go.Proofs.YtgcfpfhmjhkgnaaGreatDoor
open Go.ChangeShapes Go.WideShapes Go.ChangeAt Go.RowKit
def RwAt (w : World) (base : Nat) (v : Value) (n : Nat) (xs : List Value) : Prop :=
 xs.length = n * 2 ∧ ((v = .slice none 0 0 ∧ n = 0) ∨ ∃ b off cap cur, v = .slice (some ⟨b, off, none⟩) n cap ∧ base ≤ b ∧ w.heap[b]? = some (.cells cur 24 (0, 0)) ∧ n ≤ cap ∧ cap ≤ maxLen ∧ off + cap * 2 ≤ cur.size ∧ ∀ j u, xs[j]? = some u → cur[off + j]? = some u)
namespace RwAt
variable {w w' : World} {base : Nat} {v : Value} {n : Nat} {xs : List Value}
theorem nothing (w : World) (base : Nat) : RwAt w base (.slice none 0 0) 0 [] := ⟨rfl, .inl ⟨rfl, rfl⟩⟩
theorem type (h : RwAt w base v n xs) : ∀ k, v.ownBlock = some k → base ≤ k ∧ Typed w 24 k := by
 intro k hk
 rcases h.2 with ⟨rfl, _⟩ | ⟨b, off, cap, cur, rfl, hb, hg, _⟩
 ·cases hk
 ·injection hk with hk
  subst hk
  exact ⟨hb, cur, _, hg⟩
theorem lt (h : RwAt w base v n xs) : ∀ k, v.ownBlock = some k → base ≤ k ∧ k < w.heap.size := fun k hk =>
 let ⟨h1, _, _, h2⟩ := h.type k hk; ⟨h1, (Array.getElem?_eq_some_iff.1 h2).1⟩
theorem kept (h : RwAt w base v n xs) (k : ∀ b, v.ownBlock = some b → w'.heap[b]? = w.heap[b]?) : RwAt w' base v n xs := by
 refine ⟨h.1, ?_⟩
 rcases h.2 with h' | ⟨b, off, cap, cur, rfl, hb, hg, r⟩
 ·exact .inl h'
 ·exact .inr ⟨b, off, cap, cur, rfl, hb, (k b rfl).trans hg, r⟩
theorem shape (h : RwAt w base v n xs) : ∃ A c, v = .slice A n c ∧ n ≤ c := by
 rcases h.2 with ⟨rfl, h0⟩ | ⟨b, off, cap, cur, rfl, _, _, hc, _⟩
 ·rw [h0]; exact ⟨_, _, rfl, Nat.le_refl _⟩
 ·exact ⟨_, _, rfl, hc⟩
theorem cell (h : RwAt w base v n xs) {j : Nat} {u : Value} (hu : xs[j]? = some u) : ∃ b off cap, v = .slice (some ⟨b, off, none⟩) n cap ∧ n ≤ cap ∧ base ≤ b ∧ b < w.heap.size ∧ w.cell? ⟨b, off + j, none⟩ = some u := by
 rcases h.2 with ⟨rfl, h0⟩ | ⟨b, off, cap, cur, rfl, hb, hg, hc, _, _, hx⟩
 ·have := (List.getElem?_eq_some_iff.1 hu).1
  have := h.1
  omega
 ·exact ⟨b, off, cap, rfl, hc, hb, (Array.getElem?_eq_some_iff.1 hg).1, (cell_of_row w b _ _ _ (0, 0) hg).trans (hx j u hu)⟩
theorem cut {b off cap k : Nat} (h : RwAt w base (.slice (some ⟨b, off, none⟩) n cap) n xs) (hk : k ≤ n) : RwAt w base (.slice (some ⟨b, off + k * 2, none⟩) (n - k) (cap - k)) (n - k) (xs.drop (k * 2)) := by
 refine ⟨by rw [List.length_drop, h.1]; omega, .inr ?_⟩
 rcases h.2 with ⟨e, _⟩ | ⟨b', off1, cap', cur, e1, hb, hg, hc, hm, hs, hx⟩
 ·cases e
 ·injection e1 with e1 _ e3
  injection e1 with e1
  injection e1 with e1 e2
  subst e1 e2 e3
  refine ⟨b, off + k * 2, cap - k, cur, rfl, hb, hg, by omega, by omega, by omega, fun j u hu => ?_⟩
  rw [List.getElem?_drop] at hu
  rw [Nat.add_assoc]
  exact hx _ _ hu
end RwAt
end Go.Proofs.YtgcfpfhmjhkgnaaGreatDoor
