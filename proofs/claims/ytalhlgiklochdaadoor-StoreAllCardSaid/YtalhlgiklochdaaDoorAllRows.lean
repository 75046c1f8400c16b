/-
  The argument of StoreAll: a list of operations.
  A list of rows as a statement holds it beside a store: it abides when the store turns; its first row goes.
  The statements' own way through a store: are the rows that it tells just those?
-/
import Derived.Test.YtalhlgiklochdaaDoorRowArgs
import Derived.Test.YtalhlgiklochdaaDoorBegun4
import Derived.Test.YtalhlgiklochdaaDoorRowsAny
import Derived.Test.YtalhlgiklochdaaDoorStoreSet
import Derived.Test.YtalhlgiklochdaaDoorStoreIter
import Derived.Stop.RegionWithIn
namespace Go.Proofs.YtalhlgiklochdaaDoor
open Go.ChangeShapes Go.WideShapes Go.ChangeAt Go.RowKit
theorem cellsOp : Tryd.prog.cellsOf 60 = 4 := by kernel_rfl
/-- An operation that came in. -/
structure OpIn where
  kind : Int
  num : Int
  r : RowIn
structure OpIn.Ok (W : World) (B : Nat) (x : OpIn) : Prop where
  k : -9223372036854775808 ≤ x.kind ∧ x.kind ≤ 9223372036854775807
  m : -9223372036854775808 ≤ x.num ∧ x.num ≤ 9223372036854775807
  row : x.r.Ok W B
def OpIn.vals (x : OpIn) : List Value := [.int .i64 x.kind, .int .i64 x.num, .slice x.r.A x.r.n x.r.c, .bool x.r.wrap]
theorem OpIn.Ok.below {W W' : World} {B : Nat} {x : OpIn} (h : x.Ok W B) (hb : Below B W W') : x.Ok W' B := ⟨h.k, h.m, h.row.below hb⟩
section
variable {H : Type} {enc : TypeId × Value → H} {w W : World} {base : Nat} {sp : Nat → Bool} {held : Bool}
set_option maxRecDepth 100000 in
theorem op_parts {fuel : Nat} {cs : List Value} {x : DataW H × List MemPlace} (h : DataW.trod enc Tryd.prog W base sp held fuel 60 cs = some x) :
    ∃ o : OpIn, cs = o.vals ∧ o.Ok W W.heap.size := by
  obtain ⟨xs, m, rfl, rfl, hl, hn, hf⟩ := DataW.trod_struct Tryd.underlying60 h
  rw [cellsOp] at hl
  match cs, hl with
  | [c0, c1, c2, c3], _ =>
    have f0 : DataW.trod enc Tryd.prog W base sp held m 3 [c0] = xs[0]? := by have := hf 0 _ rfl; simpa [cellsI] using this
    have f1 : DataW.trod enc Tryd.prog W base sp held m 3 [c1] = xs[1]? := by have := hf 1 _ rfl; simpa [cellsI] using this
    have f2 : DataW.trod enc Tryd.prog W base sp held m 31 [c2, c3] = xs[2]? := by have := hf 2 _ rfl; simpa [cellsRow] using this
    match xs, hn with
    | [x0, x1, x2], _ =>
      simp only [List.getElem?_cons_zero, List.getElem?_cons_succ] at f0 f1 f2
      obtain ⟨z0, e0, _, w0⟩ := DataW.trod_int Tryd.underlying3 f0
      obtain ⟨z1, e1, _, w1⟩ := DataW.trod_int Tryd.underlying3 f1
      obtain ⟨r, e2, hr⟩ := row_parts f2
      simp at e0 e1
      simp [RowIn.vals] at e2
      exact ⟨⟨z0, z1, r⟩, by rw [e0, e1, e2.1, e2.2]; rfl, wf_i64 w0, wf_i64 w1, hr⟩
set_option maxRecDepth 100000 in
/-- A slice of operations that came in. -/
theorem open_ops {v : Value} {d : DataW H} {p : List MemPlace} (hok : Value.okWide Tryd.prog W .any base 56 v) (h : DataW.Trod enc Tryd.prog W 0 (fun _ => true) true 56 v d p) :
    ∃ (A : Option Addr) (n c : Nat) (l : List OpIn), v = .slice A n c ∧ n ≤ c ∧ c ≤ maxLen ∧ (∀ o ∈ l, o.Ok W W.heap.size) ∧ Sq W W.heap.size 4 n A (l.flatMap OpIn.vals) := by
  obtain ⟨a0, len, cap, rfl⟩ := okWide_slice Tryd.underlying56 hok
  obtain ⟨fuel, hf⟩ := h
  rcases DataW.trod_slice Tryd.underlying56 hf with ⟨hcs, _⟩ | ⟨a, len', cap', elems, rest, m, _, hcs, _, _, hl, hm, hlen, hel, _, _⟩
  · simp only [Value.cells, List.cons.injEq, Value.slice.injEq, and_true] at hcs
    obtain ⟨rfl, rfl, rfl⟩ := hcs
    exact ⟨none, 0, 0, [], rfl, Nat.le_refl _, Nat.zero_le _, (fun r h => by cases h), Sq.nothing _ _ _ _⟩
  · simp only [Value.cells, List.cons.injEq, Value.slice.injEq, and_true] at hcs
    obtain ⟨rfl, rfl, rfl⟩ := hcs
    have each : ∀ i, i < len → ∃ t : OpIn, t.Ok W W.heap.size ∧ ∀ (k : Nat) (u : Value), t.vals[k]? = some u → W.cell? ((a.add (i * 4)).add k) = some u := by
      intro i hi
      have h1 := hel i hi
      rw [List.getElem?_eq_getElem (by omega), cellsOp, Option.bind_eq_some_iff] at h1
      obtain ⟨cs, hc, ht⟩ := h1
      obtain ⟨r, rfl, hr⟩ := op_parts ht
      obtain ⟨_, _, hcell⟩ := World.cells?_some hc
      refine ⟨r, hr, fun k u hu => ?_⟩
      have hk : k < 4 := by have := (List.getElem?_eq_some_iff.1 hu).1; simpa [OpIn.vals] using this
      rw [hcell k hk]
      exact hu
    obtain ⟨l, hll, hp⟩ := exists_list each
    exact ⟨some a, len, cap, l, rfl, hl, hm, fun r hr => by obtain ⟨i, hi, rfl⟩ := List.mem_iff_getElem.1 hr; exact (hp i hi).1, sq_of_each OpIn.vals 4 (fun _ => rfl) (by omega) hll fun i hi k u hu => (hp i hi).2 k u hu⟩
end
/-- One operation out of the slice. -/
theorem op_at {W : World} {B n k : Nat} {A : Option Addr} {l : List OpIn} {o : OpIn} (hq : Sq W B 4 n A (l.flatMap OpIn.vals)) (ho : l[k]? = some o) (hk : k < n) :
    ∃ b off, A = some ⟨b, off, none⟩ ∧ b < B ∧ W.cell? ⟨b, off + k * 4, none⟩ = some (.int .i64 o.kind) ∧ W.cell? ⟨b, off + k * 4 + 1, none⟩ = some (.int .i64 o.num) ∧ W.cell? ⟨b, off + k * 4 + 2, none⟩ = some (.slice o.r.A o.r.n o.r.c) ∧ W.cell? ⟨b, off + k * 4 + 3, none⟩ = some (.bool o.r.wrap) := by
  obtain ⟨b, off, e, hb, hc⟩ := hq.spot (by omega)
  have g := fun j u (hu : o.vals[j]? = some u) => hc (k * 4 + j) u (flatMap_get OpIn.vals 4 (fun _ => rfl) l k o ho j u hu)
  exact ⟨b, off, e, hb, by have := g 0 _ rfl; simpa using this, by have := g 1 _ rfl; rw [Nat.add_assoc]; exact this, by have := g 2 _ rfl; rw [Nat.add_assoc]; exact this, by have := g 3 _ rfl; rw [Nat.add_assoc]; exact this⟩
end Go.Proofs.YtalhlgiklochdaaDoor
namespace Go.Proofs.YtalhlgiklochdaaDoor.storeAll
open Go.ChangeShapes Go.WideShapes Go.ChangeAt Go.RowKit

def rowsOf (xs : List RowIn) : List PRow := xs.map fun x => (x.wrap, x.l)
/-- The rows that should be there, as the statement holds them. -/
structure Ls (w0 : World) (v : Value) (xs : List RowIn) (W : World) : Prop where
  old : Below w0.heap.size w0 W
  own : RwAt W w0.heap.size v xs.length (xs.flatMap RowIn.vals)
  each : ∀ x ∈ xs, HasC W 0 (.slice x.A x.n x.c) x.l ∧ (∀ c ∈ x.l, -2147483648 ≤ c.1 ∧ c.1 ≤ 2147483647) ∧ mayL x.l = true
namespace Ls
variable {w0 W W' : World} {v v' : Value} {xs : List RowIn}
theorem hasC_turned {M : Nat → Prop} {v : Value} {l : List Cel} (hx : HasC W 0 v l) (ht : Turned M W W') (h2 : ∀ j, M j → ¬ Typed W 45 j) : HasC W' 0 v l := by
  refine ⟨hx.1, ?_⟩
  rcases hx.2 with e | ⟨g, cap, cur, e, e2, e3, r⟩
  · exact .inl e
  · exact .inr ⟨g, cap, cur, e, e2, (ht.block g (Array.getElem?_eq_some_iff.1 e3).1 (fun m => h2 g m ⟨_, _, e3⟩)).trans e3, r⟩
theorem turned {M : Nat → Prop} (h : Ls w0 v xs W) (ht : Turned M W W') (h0 : ∀ j, M j → w0.heap.size ≤ j) (h1 : ∀ j, M j → ¬ Typed W 31 j) (h2 : ∀ j, M j → ¬ Typed W 45 j) : Ls w0 v xs W' :=
  ⟨h.old.trans (ht.toBelow h.old.size fun k hk m => by have := h0 k m; omega), h.own.kept fun b hb => ht.block b (h.own.lt b hb).2 (fun m => h1 b m (h.own.type b hb).2), fun x hx => ⟨hasC_turned (h.each x hx).1 ht h2, (h.each x hx).2⟩⟩
theorem laid (h : Ls w0 v xs W) (hb : Below W.heap.size W W') : Ls w0 v xs W' := h.turned (M := fun _ => False) (Turned.ofBelow hb _) (fun _ h => h.elim) (fun _ h => h.elim) (fun _ h => h.elim)
theorem snoc {x : RowIn} (h : Ls w0 v xs W) (hg : W.grownBy W' v.ownBlock) (ho : RwAt W' w0.heap.size v' (xs.length + 1) (xs.flatMap RowIn.vals ++ x.vals)) (hx : HasC W 0 (.slice x.A x.n x.c) x.l) (hs : ∀ c ∈ x.l, -2147483648 ≤ c.1 ∧ c.1 ≤ 2147483647) (hm : mayL x.l = true) : Ls w0 v' (xs ++ [x]) W' := by
  have ht := Turned.ofGrown hg
  have hc : ∀ j, v.ownBlock = some j → ¬ Typed W 45 j := fun j e hty => (h.own.type j e).2.apart hty (by decide) rfl
  refine ⟨h.old.trans (ht.toBelow h.old.size fun k hk m => by have := (h.own.type k m).1; omega), ?_, fun y hy => ?_⟩
  · rw [List.length_append, List.flatMap_append]
    simpa [List.flatMap_cons] using ho
  · rcases List.mem_append.1 hy with hy | hy
    · exact ⟨hasC_turned (h.each y hy).1 ht hc, (h.each y hy).2⟩
    · rw [List.mem_singleton.1 hy]
      exact ⟨hasC_turned hx ht hc, hs, hm⟩
end Ls
theorem vals_drop (xs : List RowIn) (k : Nat) : (xs.drop k).flatMap RowIn.vals = (xs.flatMap RowIn.vals).drop (k * 2) := by
  induction k generalizing xs with
  | zero => simp
  | succ k ih =>
    cases xs with
    | nil => simp
    | cons x xs =>
      rw [List.drop_succ_cons, ih, List.flatMap_cons, show (k + 1) * 2 = k * 2 + 1 + 1 by omega]
      rfl

/-- What a store owns is no row and no cell, and lies where the store lies or beyond. -/
theorem owns_else {W : World} {g : Nat} {v : Value} {ps : List Pg} {lim gone : Nat} (h : StoreAt W g g v ps lim gone) {j : Nat} (m : Owns g v ps j) : g ≤ j ∧ ¬ Typed W 31 j ∧ ¬ Typed W 45 j := by
  refine ⟨(h.raw.own_ge j m).1, ?_⟩
  rcases m with m | m | ⟨q, hq, m⟩
  · rw [m]
    exact ⟨fun t => h.raw.typed.apart t (by decide) rfl, fun t => h.raw.typed.apart t (by decide) rfl⟩
  · exact ⟨fun t => (h.raw.slTyped j m).apart t (by decide) rfl, fun t => (h.raw.slTyped j m).apart t (by decide) rfl⟩
  · rw [← m]
    exact ⟨fun t => (h.raw.page q hq).typed.apart t (by decide) rfl, fun t => (h.raw.page q hq).typed.apart t (by decide) rfl⟩
/-- A store turns: the list abides. -/
theorem Ls.store {w0 W W' : World} {vw : Value} {xs : List RowIn} {g : Nat} {v : Value} {ps : List Pg} {lim gone : Nat} (h : Ls w0 vw xs W) (hs : StoreAt W g g v ps lim gone) (hg : w0.heap.size ≤ g) (ht : Turned (Owns g v ps) W W') : Ls w0 vw xs W' :=
  h.turned ht (fun _ m => Nat.le_trans hg (owns_else hs m).1) (fun _ m => (owns_else hs m).2.1) (fun _ m => (owns_else hs m).2.2)
/-- The list's block of rows turns, or grows: the store abides. -/
theorem store_rows {W W' : World} {vw : Value} {base n : Nat} {ys : List Value} {g : Nat} {v : Value} {ps : List Pg} {lim gone : Nat} (h : StoreAt W g g v ps lim gone) (hr : RwAt W base vw n ys) (hg : W.grownBy W' vw.ownBlock) : StoreAt W' g g v ps lim gone :=
  h.turned (Turned.ofGrown hg) (fun k hk m => (owns_else h hk).2.1 (hr.type k m).2) (fun j m t => (hr.type j m).2.apart t (by decide) rfl)
/-- The first row goes. -/
theorem Ls.tail {w0 W : World} {b off n cap : Nat} {x : RowIn} {xs : List RowIn} (h : Ls w0 (.slice (some ⟨b, off, none⟩) n cap) (x :: xs) W) (hn : n = xs.length + 1) : Ls w0 (.slice (some ⟨b, off + 1 * 2, none⟩) (n - 1) (cap - 1)) xs W := by
  refine ⟨h.old, ?_, fun y hy => h.each y (List.mem_cons_of_mem _ hy)⟩
  have ho := h.own
  rw [List.length_cons, ← hn] at ho
  have hc := ho.cut (k := 1) (by omega)
  rw [show xs.length = n - 1 by omega]
  rw [← vals_drop, List.drop_succ_cons, List.drop_zero] at hc
  exact hc
end Go.Proofs.YtalhlgiklochdaaDoor.storeAll
namespace Go.Proofs.YtalhlgiklochdaaDoor
open Go.ChangeShapes Go.WideShapes Go.ChangeAt Go.RowKit
attribute [local go_sem] Oper.semAt_some

theorem boxed_keep {W : World} {g : Nat} {e : TypeId} {x : Value} (h : Boxed W g e x) {l : Nat} {o o' : Obj} (ho : W.heap[l]? = some o) (hc : o.isCells = false) : Boxed (W.putObj l o') g e x :=
  (World.putObj_heap_other (fun e' => by
    have hb : W.heap[g]? = _ := h
    rw [e', ho] at hb
    injection hb with hb
    subst hb
    cases hc)).trans h
/-- What abides while the rows are held against each other: the boxes of the list, of the answer, of the count. -/
structure AllS (w0 : World) (g3 g4 g5 : Nat) (sv : Value) (k : Int) (W : World) : Prop where
  old : Below w0.heap.size w0 W
  b3 : Boxed W g3 47 sv
  b4 : Boxed W g4 4 (.bool false)
  b5 : Boxed W g5 3 (.int .i64 k)
namespace AllS
variable {w0 W W' : World} {g3 g4 g5 : Nat} {sv : Value} {k k' : Int}
theorem laid (h : AllS w0 g3 g4 g5 sv k W) (hb : Laid W W') : AllS w0 g3 g4 g5 sv k W' := ⟨h.old.trans (hb.mono h.old.size), (hb.block _ h.b3.lt).trans h.b3, (hb.block _ h.b4.lt).trans h.b4, (hb.block _ h.b5.lt).trans h.b5⟩
theorem put (h : AllS w0 g3 g4 g5 sv k W) {l : Nat} {o o' : Obj} (hl : w0.heap.size ≤ l) (ho : W.heap[l]? = some o) (hc : o.isCells = false) : AllS w0 g3 g4 g5 sv k (W.putObj l o') :=
  ⟨h.old.trans ((Turned.put W l o').toBelow h.old.size (fun j hj e => by omega)), boxed_keep h.b3 ho hc, boxed_keep h.b4 ho hc, boxed_keep h.b5 ho hc⟩
theorem set (h : AllS w0 g3 g4 g5 sv k W) (h3 : g3 ≠ g5) (h4 : g4 ≠ g5) (h5 : w0.heap.size ≤ g5) (k' : Int) : AllS w0 g3 g4 g5 sv k' (W.setCell ⟨g5, 0, none⟩ (.int .i64 k')) :=
  ⟨h.old.trans ((Turned.ofCell g5 0 W _).toBelow h.old.size (fun j hj e => by omega)), (Below.heap_setCell _ _ _ _ (by exact h3)).trans h.b3, (Below.heap_setCell _ _ _ _ (by exact h4)).trans h.b4, Boxed.set (.int .i64 k') h.b5⟩
end AllS
theorem int_alone {W : World} {g : Nat} {x : Value} (h : Boxed W g 3 x) : ∀ j, j = g → ∀ e, e ≠ 3 → ¬ Typed W e j := fun j hj e he ht => by
  subst hj
  exact (show Typed W 3 j from ⟨_, _, h⟩).apart ht (fun x => he x.symm) rfl

set_option maxRecDepth 100000 in
set_option maxHeartbeats 6400000 in
theorem allRows_walk {gs : Nat} {v : Value} {ps : List Pg} {lim gone : Nat} (A : Option Addr) (n c : Nat) (xs : List RowIn) (w : World) (hs : Spans w) (h : StoreAt w gs gs v ps lim gone) (hN : n ≤ 1000) (hx : xs.length = n)
    (hR : allRows ps = xs.map fun x => (x.wrap, x.l)) (hv : RwAt w 0 (.slice A n c) n (xs.flatMap RowIn.vals)) (he : ∀ x ∈ xs, HasC w 0 (.slice x.A x.n x.c) x.l ∧ x.l.length ≤ 1000000) :
    Calls Tryd.prog 47 #[ptr gs, .slice A n c] w fun e w' => e = .returned (.bool true) ∧ Below w.heap.size w w' := by
  have S := Lib.hid hs
  have ST := Lib.hid h
  have XL := Lib.hid hx
  have HR := Lib.hid hR
  have RV := Lib.hid hv
  have HE := Lib.hid he
  have RLN := Lib.hid (show (allRows ps).length = n by rw [hR, List.length_map, hx])
  have NP := Lib.hid (show ps.length ≤ 1000001 by have h1 := h.kept.last_lt; rw [RLN.out] at h1; omega)
  obtain ⟨g3, hg3⟩ : ∃ g3, w.heap.size = g3 := ⟨_, rfl⟩
  have G3 := Lib.hid hg3
  clear hs h hx hR hv he
  refine (callsIn_wide (n := 3)).1 (callsIn_of_wp_marks Tryd.func47 rfl trivial ?_ rfl)
  simp only [Tryd.ntmps47, List.size_toArray, List.length_cons, List.length_nil, Nat.reduceAdd, Nat.reduceSub, Array.replicate_succ, Array.replicate_zero, List.push_toArray, List.append_toArray, List.nil_append, List.cons_append]
  refine wpIn_wide.2 ?_
  have ba := (Below.refl w.heap.size w).alloc (Nat.le_refl _) (.cells #[.slice A n c] 47)
  have bb := ba.alloc ba.size (.cells #[.bool false] 4)
  have bc := bb.alloc bb.size (.cells #[.int .i64 0] 3)
  have z1 : (w.alloc (.cells #[.slice A n c] 47)).heap.size = g3 + 1 := by simp [hg3]
  have z2 : ((w.alloc (.cells #[.slice A n c] 47)).alloc (.cells #[.bool false] 4)).heap.size = g3 + 2 := by simp [hg3]
  have AS := Lib.hid (show AllS w g3 (g3 + 1) (g3 + 2) (.slice A n c) 0 (((w.alloc (.cells #[.slice A n c] 47)).alloc (.cells #[.bool false] 4)).alloc (.cells #[.int .i64 0] 3)) from
    ⟨bc, ((Boxed.new w 47 (.slice A n c)).alloc _).alloc _ |> fun h => by rw [hg3] at h; exact h, (Boxed.new (w.alloc (.cells #[.slice A n c] 47)) 4 (.bool false)).alloc _ |> fun h => by rw [z1] at h; exact h, Boxed.new ((w.alloc (.cells #[.slice A n c] 47)).alloc (.cells #[.bool false] 4)) 3 (.int .i64 0) |> fun h => by rw [z2] at h; exact h⟩)
  clear ba bb bc z1 z2
  have fnn := seq_not_nil
  go_wp2_with fail
  generalize ((w.alloc (.cells #[.slice A n c] 47)).alloc (.cells #[.bool false] 4)).alloc (.cells #[.int .i64 0] 3) = w1 at AS ⊢
  have ST1 := Lib.hid (ST.out.below AS.out.old)
  refine (all_walk' ST1.out.raw NP.out).mono ?_
  rintro e w2 ⟨B1, u1, rfl, _, _, _, b2⟩
  have AS2 := Lib.hid (AS.out.laid (b2.mono (Nat.le_refl _)))
  have ST2 := Lib.hid (ST1.out.below b2)
  clear b2 AS ST1
  go_wp2_with fail
  refine (all_walk' ST2.out.raw NP.out).mono ?_
  rintro e w3 ⟨B2, u2, rfl, _, x3, o3, b3⟩
  have AS3 := Lib.hid (AS2.out.laid b3)
  have SR := Lib.hid (Src2.of_all (S.out.below AS2.out.old S.out.size) ST2.out.raw x3 o3 b3)
  clear x3 o3 b3 AS2 ST2
  go_wp2_with fail
  have TL := Lib.hid (all1_tells (Kp := KpS B2 u2 ps) (S := w3.heap.size) SR.out (Nat.le_refl _) (fun A B hk hs => ⟨hk.2 hs, hk.1⟩) NP.out (by rw [RLN.out]; omega))
  rw [RLN.out] at TL
  have SG := Lib.hid (show 0 < w3.heap.size from (S.out.below AS3.out.old S.out.size).size)
  have OZ := Lib.hid (show w.heap.size ≤ w3.heap.size from AS3.out.old.size)
  clear SR
  refine wp_over (Fit := FitR w3.heap.size (allRows ps)) (Kp := KpS B2 u2 ps) (N := n) (gf := 69) (lb := #[.pointer (some ⟨B2, 0, none⟩)]) rfl (enters_of Tryd.func69 (by kernel_rfl) rfl) TL.out KpS.trans (fun A B _ h => KpS.laid h) (fun W l o o' hl ho hc => KpS.put SG.out hl ho hc) (fun k x W h => by obtain ⟨v, r, rfl, _⟩ := h; rfl)
    (fun k W => Hid (AllS w g3 (g3 + 1) (g3 + 2) (.slice A n c) (k : Int) W)) (fun _ _ _ => False)
    (fun k A B h hb => Lib.hid (h.out.laid hb)) (fun k W l o o' hl ho hc h => Lib.hid (h.out.put (Nat.le_trans OZ.out hl) ho hc))
    (fun _ _ _ _ h _ => h) (fun _ _ _ _ _ _ _ _ _ h => h) AS3 ?round ?done (fun _ _ _ _ _ _ h _ => h.elim)
  case round =>
    rintro l2 k2 x W hk2 hl2 ⟨o, ho, hoc⟩ hi ⟨v2, r, rfl, hr, hv2⟩
    obtain ⟨x, hx⟩ : ∃ x, xs[k2]? = some x := ⟨_, List.getElem?_eq_getElem (by rw [XL.out]; exact hk2)⟩
    have hrx : r = (x.wrap, x.l) := by
      rw [HR.out, List.getElem?_map, hx] at hr
      simpa using hr.symm
    subst hrx
    obtain ⟨A2, c2, rfl, _⟩ := HasC.shape hv2
    obtain ⟨hxi, hxe⟩ := List.getElem?_eq_some_iff.1 hx
    have hxx := HE.out x (List.mem_of_getElem? hx)
    have bb : Laid W (W.alloc (.cells #[.slice A2 x.l.length c2, .bool x.wrap] 31)) := (Below.refl _ _).alloc (Nat.le_refl _) _
    gi_wp2
    intro o1
    have hlt2 : l2 < W.heap.size := (Array.getElem?_eq_some_iff.1 ho).1
    have ho' := (bb.block l2 hlt2).trans ho
    have H2 := Lib.hid ((hi.out.laid bb).put (o' := o1) (Nat.le_trans OZ.out hl2) ho' hoc)
    have RQ : RowAt ((W.alloc (.cells #[.slice A2 x.l.length c2, .bool x.wrap] 31)).putObj l2 o1) W.heap.size (.slice A2 x.l.length c2) x.wrap := (World.putObj_heap_other (by omega)).trans (heap_alloc_new W _)
    have hvq := ownsRow_putObj (World.ownsRow.alloc hv2 (.cells #[.slice A2 x.l.length c2, .bool x.wrap] 31)) o1 ho' hoc
    have VQ := Lib.hid (HasC.sq hvq)
    have q0 : ((W.alloc (.cells #[.slice A2 x.l.length c2, .bool x.wrap] 31)).putObj l2 o1).cell? ⟨W.heap.size, 0, none⟩ = some (.slice A2 x.l.length c2) := RQ.get 0
    have q1 : ((W.alloc (.cells #[.slice A2 x.l.length c2, .bool x.wrap] 31)).putObj l2 o1).cell? ⟨W.heap.size, 1, none⟩ = some (.bool x.wrap) := RQ.get 1
    clear hi ho ho' bb hvq hv2 RQ
    generalize (W.alloc (.cells #[.slice A2 x.l.length c2, .bool x.wrap] 31)).putObj l2 o1 = W2 at H2 VQ q0 q1 ⊢
    have c3 := H2.out.b3.cell
    have c5 := H2.out.b5.cell
    have f5 := H2.out.b5.frozen
    have XQ := Lib.hid (HasC.sq (HasC.keep hxx.1 (fun k hk => H2.out.old.block k (HasC.lt hxx.1 k hk).2)))
    have rv2 := RV.out.kept (w' := W2) (fun k hk => H2.out.old.block k (RV.out.lt k hk).2)
    obtain ⟨b, off, cap, e1, hcap, _, _, r0⟩ := rv2.cell (flatMap_get RowIn.vals 2 (fun _ => rfl) xs k2 x hx 0 _ rfl)
    obtain ⟨b', off', cap', e2, _, _, _, r1⟩ := rv2.cell (flatMap_get RowIn.vals 2 (fun _ => rfl) xs k2 x hx 1 _ rfl)
    rw [e1] at e2
    injection e2 with e2 _ e4
    injection e2 with e2
    injection e2 with e2 e2'
    subst e2 e2' e4
    injection e1 with e1 _ e3
    subst e1 e3
    have s0 : W2.cell? ⟨b, off + k2 * 2, none⟩ = some (.slice x.A x.n x.c) := r0
    have s1 : W2.cell? ⟨b, off + k2 * 2 + 1, none⟩ = some (.bool x.wrap) := r1
    clear r0 r1 rv2
    have hxn : x.n ≤ 1000000 := by
      obtain ⟨A', c', e, _⟩ := HasC.shape hxx.1
      injection e with _ e
      rw [e]; exact hxx.2
    have kk : (k2 : Int).toNat = k2 := Int.toNat_natCast k2
    have kn : ¬ ((n : Int) ≤ (k2 : Int)) := by omega
    have hx3 : x.l.length ≤ 1000000 := hxx.2
    have EW := Lib.hid (fun (w' : World) (h : Below W2.heap.size W2 w') => show Calls Tryd.prog 29 #[rowV A2 x.l.length c2 x.wrap, rowV x.A x.n x.c x.wrap] w' fun e w5 => e = .returned (.bool true) ∧ Below w'.heap.size w' w5 from by
      have h1 := eqRow_walk A2 x.A x.l.length c2 x.n x.c x.wrap x.wrap x.l x.l w' (by omega) (by omega) ((VQ.out.below h).up h.size) ((XQ.out.below h).up h.size)
      rwa [show (x.wrap == x.wrap && eqL x.l x.l) = true by rw [eqL_all rfl rfl rfl]; simp] at h1)
    have D2 := Lib.hid (show Laid W2 W2.drew from (Below.refl _ _).drew)
    clear hxx hx3 hxn VQ XQ
    gi_wp2
    have kd : decide (n ≤ k2) = false := by simp; omega
    refine Code.wpIn_mono (Q := fun e a W5 => e = .normal ∧ a = { tmps := #[ptr gs, .slice (some ⟨b, off, none⟩) n c, undef, .pointer (some ⟨g3, 0, none⟩), .pointer (some ⟨g3 + 1, 0, none⟩), .pointer (some ⟨g3 + 1 + 1, 0, none⟩), .int .i64 k2, .pointer (some ⟨W.heap.size, 0, none⟩), ptr gs, .func (.func 69) #[] #[.pointer (some ⟨B1, 0, none⟩)], .bool false, ptr gs, .func (.func 69) #[] #[.pointer (some ⟨B2, 0, none⟩)], .int .i64 k2, .agg #[.slice A2 x.l.length c2, .bool x.wrap], .int .i64 k2, .int .i64 k2, .bool false, .bool false, .int .i64 k2, .slice (some ⟨b, off, none⟩) n c, .int .i64 n, .bool false, .bool false, .bool false, .agg #[.slice A2 x.l.length c2, .bool x.wrap], .slice (some ⟨b, off, none⟩) n c, .int .i64 k2, .pointer (some ⟨b, off + k2 * 2, none⟩), .agg #[.slice x.A x.n x.c, .bool x.wrap], .bool true, .bool false, .bool false, undef, undef, undef, undef, undef, undef], defers := [] } ∧ Hid (AllS w g3 (g3 + 1) (g3 + 2) (.slice (some ⟨b, off, none⟩) n c) (k2 : Int) W5) ∧ Hid (Laid W2 W5)) ?_ ?_
    · rintro e a W5 ⟨rfl, rfl, H5, K5⟩
      clear c3 c5 f5 q0 q1 s0 s1 EW
      have c5 := H5.out.b5.cell
      have f5 := H5.out.b5.frozen
      have hw : IntKind.i64.wrap ((k2 : Int) + 1) = (k2 : Int) + 1 := IntWalk.i64_in _ (by omega)
      gi_wp2
      refine ⟨?_, KpS.trans (KpS.laid K5.out) (KpS.turned (Turned.ofCell (g3 + 1 + 1) 0 W5 _) (int_alone H5.out.b5) (fun j e => by rw [e]; omega)), Lib.hid ?_⟩
      · have k1 : KeepsFrom w3.heap.size W5 (W5.setCell ⟨g3 + 1 + 1, 0, none⟩ (.int .i64 ((k2 : Int) + 1))) := (KeepsOthers.setCell _ _ _).from _
        have k0 : KeepsFrom w3.heap.size W2 W5 := ⟨K5.out.size, fun k o _ ho _ => (K5.out.block k (Array.getElem?_eq_some_iff.1 ho).1).trans ho⟩
        exact k0.trans k1
      · exact H5.out.set (by omega) (by omega) (by have := G3.out; omega) _
    · gi_region_with (refine ⟨trivial, ?_⟩; gi_at_call 29; refine (CallsIn.inRound l2 (callsIn_wide.2 (EW.out _ D2.out))).mono ?_; rintro e w5 ⟨rfl, b5⟩; (have H5 := Lib.hid (H2.out.laid (D2.out.trans b5))); (have K5 := Lib.hid (show Laid W2 w5 from D2.out.trans b5)); clear b5 EW)
      all_goals exact ⟨rfl, rfl, H5, K5⟩
  case done =>
    rintro D W hD hi hdef
    have HE := Lib.hid (And.intro hi.out hdef)
    have c3 := hi.out.b3.cell
    have c4 := hi.out.b4.cell
    have f4 := hi.out.b4.frozen
    have c5 := hi.out.b5.cell
    clear hi hdef TL SG
    have hnn : ((n : Int) == (n : Int)) = true := by simp
    go_wp2
    have hdD : (W.setCell ⟨g3 + 1, 0, none⟩ (.bool true)).heap[D]? = some (.deferred (some [])) := (Below.heap_setCell _ _ _ _ (by
      intro e
      have h1 := HE.out.2
      rw [e] at h1
      have h2 : W.heap[g3 + 1]? = _ := HE.out.1.b4
      rw [h2] at h1
      cases h1)).trans HE.out.2
    have hb4 : Boxed ((W.setCell ⟨g3 + 1, 0, none⟩ (.bool true)).putObj D (.deferred none)) (g3 + 1) 4 (.bool true) := boxed_keep (Boxed.set (.bool true) HE.out.1.b4) hdD rfl
    refine ⟨by simp, .inl ⟨_, _, rfl, run_takeDeferred hdD, ?_⟩⟩
    have o1 := HE.out.1.old.trans ((Turned.ofCell (g3 + 1) 0 W (.bool true)).toBelow HE.out.1.old.size (fun j hj e => by have := G3.out; omega))
    have o2 := o1.trans ((Turned.put _ D (.deferred none)).toBelow o1.size (fun j hj e => by have := OZ.out; omega))
    have c4' := hb4.cell
    clear HE hdD hb4 o1 c3 c4 f4 c5
    generalize (W.setCell ⟨g3 + 1, 0, none⟩ (.bool true)).putObj D (.deferred none) = We at c4' o2 ⊢
    refine ⟨_, ?_, rfl, o2⟩
    simp [results, go_sem, c4']
end Go.Proofs.YtalhlgiklochdaaDoor
