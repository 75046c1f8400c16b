/-
  A list of bytes in a row of the call's own; the reference's Uint; pack.appendUint, pack.Uint. append of a slice that reads as a list, nil or not; eq of equal lists of signs.
-/
import Derived.Test.YtgmijnnhanpocaaGreatDoorQNBase0
import Derived.Maps.AppendAt
import Derived.Outline
import Derived.Laws.BitsLemmas
import Derived.Deep.DeepMust
import Derived.Laws.AppendOwnNone
namespace Go.Proofs.YtgmijnnhanpocaaGreatDoor
open Go.ChangeShapes Go.WideShapes Go.ChangeAt Go.RowKit
structure OnlyRow (g : Nat) (w w' : World) : Prop where
 os : w'.os = w.os
 tape : w'.tape = w.tape
 output : w'.output = w.output
 size : w'.heap.size = w.heap.size
 block : ∀ k, k ≠ g → w'.heap[k]? = w.heap[k]?
theorem OnlyRow.refl (g : Nat) (w : World) : OnlyRow g w w := ⟨rfl, rfl, rfl, rfl, fun _ _ => rfl⟩
theorem OnlyRow.trans {g : Nat} {w w' w2 : World} (h : OnlyRow g w w') (h2 : OnlyRow g w' w2) : OnlyRow g w w2 :=
 ⟨h2.os.trans h.os, h2.tape.trans h.tape, h2.output.trans h.output, h2.size.trans h.size, fun k hk => (h2.block k hk).trans (h.block k hk)⟩
theorem OnlyRow.cell (g j : Nat) (w : World) (v : Value) : OnlyRow g w (w.setCell ⟨g, j, none⟩ v) := ⟨rfl, rfl, rfl, by simp, fun k hk => Below.heap_setCell _ _ _ _ hk⟩
structure Turned (M : Nat → Prop) (w w' : World) : Prop where
 os : w'.os = w.os
 tape : w'.tape = w.tape
 output : w'.output = w.output
 size : w.heap.size ≤ w'.heap.size
 block : ∀ k, k < w.heap.size → ¬ M k → w'.heap[k]? = w.heap[k]?
namespace Turned
variable {M M' : Nat → Prop} {w w' w2 : World}
theorem refl (M : Nat → Prop) (w : World) : Turned M w w := ⟨rfl, rfl, rfl, Nat.le_refl _, fun _ _ _ => rfl⟩
theorem trans (h : Turned M w w') (h2 : Turned M' w' w2) (hm : ∀ k, k < w.heap.size → M' k → M k) : Turned M w w2 :=
 ⟨h2.os.trans h.os, h2.tape.trans h.tape, h2.output.trans h.output, Nat.le_trans h.size h2.size, fun k hk hn => (h2.block k (Nat.lt_of_lt_of_le hk h.size) (fun x => hn (hm k hk x))).trans (h.block k hk hn)⟩
theorem mono (h : Turned M w w') (hm : ∀ k, k < w.heap.size → M k → M' k) : Turned M' w w' := ⟨h.os, h.tape, h.output, h.size, fun k hk hn => h.block k hk (fun x => hn (hm k hk x))⟩
theorem ofOnly {g : Nat} (h : OnlyRow g w w') : Turned (· = g) w w' := ⟨h.os, h.tape, h.output, Nat.le_of_eq h.size.symm, fun k _ hk => h.block k hk⟩
theorem toBelow (h : Turned M w w') {B : Nat} (hB : B ≤ w.heap.size) (hm : ∀ k, k < B → ¬ M k) : Below B w w' := ⟨h.os, h.tape, h.output, h.size, fun k hk => h.block k (Nat.lt_of_lt_of_le hk hB) (hm k hk)⟩
end Turned
def Typed (w : World) (e : TypeId) (k : Nat) : Prop := ∃ cs fr, w.heap[k]? = some (.cells cs e fr)
theorem Typed.apart {w : World} {e e' : TypeId} {k k' : Nat} (h : Typed w e k) (h' : Typed w e' k') (hne : e ≠ e') : k ≠ k' := by
 rintro rfl
 obtain ⟨_, _, h⟩ := h
 obtain ⟨_, _, h'⟩ := h'
 rw [h] at h'
 injection h' with h'
 injection h' with _ h'
 exact hne h'
def HasB (w : World) (base : Nat) (v : Value) (xs : List Int) : Prop := w.ownsRow base 5 1 v xs.length (xs.map (Value.int .u8))
theorem HasB.nothing (w : World) (base : Nat) : HasB w base (.slice none 0 0) [] := World.ownsRow_nil w base _ _
theorem HasB.shape {w : World} {base : Nat} {v : Value} {xs : List Int} (h : HasB w base v xs) : ∃ A c, v = .slice A xs.length c := by
 rcases h.2 with ⟨rfl, h0⟩ | ⟨g, cap, cur, rfl, _⟩
 ·rw [h0]; exact ⟨_, _, rfl⟩
 ·exact ⟨_, _, rfl⟩
theorem HasB.turned {M : Nat → Prop} {w w' : World} {base : Nat} {v : Value} {xs : List Int} (h : HasB w base v xs) (ht : Turned M w w') (hm : ∀ k, M k → ¬ Typed w 5 k) : HasB w' base v xs := by
 refine ⟨h.1, ?_⟩
 rcases h.2 with e | ⟨b, cap, cur, rfl, e2, e3, rr⟩
 ·exact .inl e
 ·exact .inr ⟨b, cap, cur, rfl, e2, (ht.block b (Array.getElem?_eq_some_iff.1 e3).1 (fun x => hm b x ⟨_, _, e3⟩)).trans e3, rr⟩
theorem HasB.below {w w' : World} {B base : Nat} {v : Value} {xs : List Int} (h : HasB w base v xs) (hb : Below B w w') (hv : ∀ k, v.ownBlock = some k → k < B) : HasB w' base v xs := by
 refine ⟨h.1, ?_⟩
 rcases h.2 with e | ⟨g, cap, cur, rfl, e2, e3, r⟩
 ·exact .inl e
 ·exact .inr ⟨g, cap, cur, rfl, e2, (hb.block g (hv g rfl)).trans e3, r⟩
theorem HasB.lt {w : World} {base : Nat} {v : Value} {xs : List Int} (h : HasB w base v xs) : ∀ k, v.ownBlock = some k → k < w.heap.size := fun k e => (World.ownsRow.lt h k e).2
structure Grew (v v' : Value) (w w' : World) : Prop where
 by' : w.grownBy w' v.ownBlock
 at' : v'.ownBlock = v.ownBlock ∨ ∃ k, v'.ownBlock = some k ∧ w.heap.size ≤ k
theorem Grew.refl (v : Value) (w : World) : Grew v v w w := ⟨⟨rfl, rfl, rfl, Nat.le_refl _, fun _ _ _ => rfl⟩, .inl rfl⟩
theorem Grew.trans {v v' v'' : Value} {w w' w'' : World} (h : Grew v v' w w') (k : Grew v' v'' w' w'') : Grew v v'' w w'' := by
 have hs := h.by'.size
 refine ⟨⟨k.by'.os.trans h.by'.os, k.by'.tape.trans h.by'.tape, k.by'.output.trans h.by'.output, Nat.le_trans hs k.by'.size, fun i hi hne => ?_⟩, ?_⟩
 ·refine (k.by'.block i (by omega) (fun e => ?_)).trans (h.by'.block i hi hne)
  rcases h.at' with a | ⟨j, a, hj⟩
  ·exact hne (e.trans a)
  ·rw [a] at e; injection e with e; omega
 ·rcases k.at' with a | ⟨j, a, hj⟩
  ·rcases h.at' with b | ⟨j, b, hj⟩
   ·exact .inl (a.trans b)
   ·exact .inr ⟨j, a.trans b, hj⟩
  ·exact .inr ⟨j, a, by omega⟩
theorem Grew.alloc {v v' : Value} {w w' : World} {o : Obj} (hg : (w.alloc o).grownBy w' v.ownBlock) (hat : v'.ownBlock = v.ownBlock ∨ v'.ownBlock = some (w.alloc o).heap.size) : Grew v v' w w' := by
 have hs := hg.size
 simp at hs
 refine ⟨⟨hg.os, hg.tape, hg.output, by omega, fun i hi hne => (hg.block i (by simp; omega) hne).trans (Below.heap_alloc w o i hi)⟩, ?_⟩
 rcases hat with a | a
 ·exact .inl a
 ·exact .inr ⟨_, a, by simp⟩
theorem Grew.below {v v' : Value} {w w' : World} {B : Nat} (h : Grew v v' w w') (hB : B ≤ w.heap.size) (hv : ∀ k, v.ownBlock = some k → B ≤ k) : Below B w w' :=
 (Below.refl B w).grown h.by' hB hv
end Go.Proofs.YtgmijnnhanpocaaGreatDoor
namespace Go.Proofs.YtgmijnnhanpocaaGreatDoor
open Go.ChangeShapes Go.WideShapes Go.ChangeAt Go.RowKit
theorem add_spot (b off j : Nat) : (⟨b, off, none⟩ : Addr).add j = ⟨b, off + j, none⟩ := by unfold Addr.add; split <;> simp_all
theorem run_app_nil {P : Program} {w : World} {base : Nat} {t ty e : TypeId} {i : TypeInfo} {size : Nat} (ht : P.underlying t = some (.slice e)) (hi : P.info? e = some i) {v : Value} {n : Nat} {xs : List Value} (hown : w.ownsRow base e size v n xs) (c : Nat) :
  (Builtin.append_ #[t, t] ty #[v, .slice none 0 c]).run P w = .ok v w := by
 rcases hown.2 with ⟨rfl, rfl⟩ | ⟨g, cap, cur, rfl, _, _, hnc, _⟩
 ·simp [Builtin.append_, run_underlying ht, sizeOf, typeInfo, hi, Builtin.lenOf, Builtin.firstCells]
 ·simp [Builtin.append_, run_underlying ht, sizeOf, typeInfo, hi, Builtin.lenOf, Builtin.firstCells, hnc, storeCells]
theorem wpl_app {P : Program} {w : World} {ops : Array Oper} {rest : List Oper} {o : Oper} {a : Act} {Q : Exit → Act → World → Prop} (hgd : o.guard = none) (s x : Operand) (t : TypeId)
  (ho : o.op = .call { callee := .builtin .append, args := #[s, x], argTypes := #[t, t] })
  (base : Nat) (e : TypeId) (i : TypeInfo) (z : Value) (size bytes : Nat) (ht : P.underlying t = some (.slice e)) (hi : P.info? e = some i) (hz : i.zero = some z)
  (hsize : i.size = size) (hby : i.bytes = bytes) (hzs : z.cells.size = size) (hsz : 0 < size)
  (v : Value) (n : Nat) (xs : List Value) (hs : a.eval s = v) (hown : w.ownsRow base e size v n xs)
  (A : Option Addr) (m c : Nat) (news : List Value) (hx : a.eval x = .slice A m c) (B : Nat) (hq : Sq w B size m A news) (h1 : ∀ u ∈ news, u.oneCell' = true)
  (h63 : n + m ≤ maxLen) (hbytes : (n + m) * bytes ≤ 140737488355328) (hbase : base ≤ w.heap.size)
  (h : ∀ v' w', w'.ownsRow base e size v' (n + m) (xs ++ news) → w.grownBy w' v.ownBlock → (v'.ownBlock = v.ownBlock ∨ v'.ownBlock = some w.heap.size) → wpList P ops Q rest (a.put o.dst v') w') : wpList P ops Q (o :: rest) a w := by
 rcases A with _ | ad
 ·have hm : m = 0 := by
   rcases Nat.eq_zero_or_pos m with h0 | h0
   ·exact h0
   ·obtain ⟨_, _, e, _⟩ := hq.spot h0
    cases e
  subst hm
  have hn : news = [] := List.eq_nil_of_length_eq_zero (by have := hq.len; omega)
  subst hn
  have hrun := run_app_nil (P := P) (ty := o.type) ht hi hown c
  refine wpList_plain hgd fun K hK => ?_
  unfold Oper.wp
  simp only [execOp, ho, resolve, invoke, builtin, Sem.run_bind, Sem.run_pure, Result.andThen_ok, List.map_toArray, List.map_cons, List.map_nil, hs, hx, hrun]
  exact hK _ _ (h v w (by simpa using hown) ⟨rfl, rfl, rfl, Nat.le_refl _, fun _ _ _ => rfl⟩ (.inl rfl))
 ·refine wpList_append_own_at w hgd s x t ho base e i z size bytes ht hi hz hsize hby hzs hsz v n xs hs hown ad m c news hx hq.len ?_ h1 h63 hbytes hbase fun v' w' h2 h3 _ h5 => h v' w' h2 h3 h5
  intro j u hu
  have hj : 0 < m := by
   rcases Nat.eq_zero_or_pos m with h0 | h0
   ·subst h0
    have hn : news = [] := List.eq_nil_of_length_eq_zero (by have := hq.len; omega)
    subst hn
    simp at hu
   ·exact h0
  obtain ⟨b, off, e, _, hc⟩ := hq.spot hj
  injection e with e
  subst e
  rw [add_spot]
  exact hc j u hu
end Go.Proofs.YtgmijnnhanpocaaGreatDoor
