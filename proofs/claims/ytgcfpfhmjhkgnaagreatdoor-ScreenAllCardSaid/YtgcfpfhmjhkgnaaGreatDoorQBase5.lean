import Derived.Test.YtgcfpfhmjhkgnaaGreatDoorQStore3
namespace Go.Proofs.YtgcfpfhmjhkgnaaGreatDoor
open Go.ChangeShapes Go.WideShapes Go.ChangeAt Go.RowKit
structure RowsIn (W : World) (base : Nat) (v : Value) (xs : List RowIn) : Prop where
 own : W.ownsRow base 24 2 v xs.length (xs.flatMap RowIn.vals)
 each : ∀ x ∈ xs, HasC W 0 (.slice x.A x.n x.c) x.l ∧ ∀ c ∈ x.l, -2147483648 ≤ c.1 ∧ c.1 ≤ 2147483647
namespace RowsIn
variable {W W' : World} {base : Nat} {v v' : Value} {xs : List RowIn}
theorem nothing (W : World) (base : Nat) : RowsIn W base (.slice none 0 0) [] := ⟨World.ownsRow_nil W base _ _, fun _ h => by cases h⟩
theorem typed (h : RowsIn W base v xs) : ∀ k, v.ownBlock = some k → Typed W 24 k := by
 intro k hk
 rcases h.own.2 with ⟨e, _⟩ | ⟨g, cap, cur, e, _, e3, _⟩
 ·rw [e] at hk; cases hk
 ·rw [e] at hk
  injection hk with hk
  subst hk
  exact ⟨_, _, e3⟩
theorem turned {M : Nat → Prop} (h : RowsIn W base v xs) (ht : Turned M W W') (hv : ∀ k, v.ownBlock = some k → ¬ M k) (hc : ∀ k, M k → ¬ Typed W 33 k) : RowsIn W' base v xs := by
 refine ⟨⟨h.own.1, ?_⟩, fun x hx => ⟨?_, (h.each x hx).2⟩⟩
 ·rcases h.own.2 with e | ⟨g, cap, cur, e, e2, e3, r⟩
  ·exact .inl e
  ·exact .inr ⟨g, cap, cur, e, e2, (ht.block g (Array.getElem?_eq_some_iff.1 e3).1 (hv g (by rw [e]; rfl))).trans e3, r⟩
 ·have hx' := (h.each x hx).1
  refine ⟨hx'.1, ?_⟩
  rcases hx'.2 with e | ⟨g, cap, cur, e, e2, e3, r⟩
  ·exact .inl e
  ·exact .inr ⟨g, cap, cur, e, e2, (ht.block g (Array.getElem?_eq_some_iff.1 e3).1 (fun m => hc g m ⟨_, _, e3⟩)).trans e3, r⟩
theorem below (h : RowsIn W base v xs) (hb : Below W.heap.size W W') : RowsIn W' base v xs := h.turned (M := fun _ => False) (Turned.ofBelow hb _) (fun _ _ h => h) (fun _ h => h.elim)
theorem snoc {x : RowIn} (h : RowsIn W base v xs) (hg : W.grownBy W' v.ownBlock) (ho : W'.ownsRow base 24 2 v' (xs.length + 1) (xs.flatMap RowIn.vals ++ x.vals)) (hx : HasC W 0 (.slice x.A x.n x.c) x.l) (hs : ∀ c ∈ x.l, -2147483648 ≤ c.1 ∧ c.1 ≤ 2147483647) : RowsIn W' base v' (xs ++ [x]) := by
 have ht := Turned.ofGrown hg
 have hc : ∀ k, v.ownBlock = some k → ¬ Typed W 33 k := fun k hk hty => (h.typed k hk).apart hty (by decide) rfl
 have one : ∀ y : RowIn, HasC W 0 (.slice y.A y.n y.c) y.l → HasC W' 0 (.slice y.A y.n y.c) y.l := fun y hy => by
  refine ⟨hy.1, ?_⟩
  rcases hy.2 with e | ⟨g, cap, cur, e, e2, e3, r⟩
  ·exact .inl e
  ·exact .inr ⟨g, cap, cur, e, e2, (ht.block g (Array.getElem?_eq_some_iff.1 e3).1 (fun m => hc g m ⟨_, _, e3⟩)).trans e3, r⟩
 refine ⟨?_, fun y hy => ?_⟩
 ·rw [List.length_append, List.flatMap_append]
  simpa [List.flatMap_cons] using ho
 ·rcases List.mem_append.1 hy with hy | hy
  ·exact ⟨one y (h.each y hy).1, (h.each y hy).2⟩
  ·rw [List.mem_singleton.1 hy]
   exact ⟨one x hx, hs⟩
theorem shape (h : RowsIn W base v xs) : ∃ A c, v = .slice A xs.length c ∧ xs.length ≤ c := by
 rcases h.own.2 with ⟨rfl, h0⟩ | ⟨g, cap, cur, rfl, _, _, hc, _⟩
 ·rw [h0]; exact ⟨_, _, rfl, Nat.le_refl _⟩
 ·exact ⟨_, _, rfl, hc⟩
theorem get {k : Nat} {x : RowIn} (h : RowsIn W base v xs) (hx : xs[k]? = some x) : ∃ g c, v = .slice (some ⟨g, 0, none⟩) xs.length c ∧ xs.length ≤ c ∧ base ≤ g ∧ g < W.heap.size ∧ W.cell? ⟨g, k * 2, none⟩ = some (.slice x.A x.n x.c) ∧ W.cell? ⟨g, k * 2 + 1, none⟩ = some (.bool x.wrap) := by
 have hk := (List.getElem?_eq_some_iff.1 hx).1
 obtain ⟨g, c, e, h1, h2, h3, hc⟩ := own_at h.own (by omega)
 exact ⟨g, c, e, h1, h2, h3, hc (k * 2) _ (by have := flatMap_get RowIn.vals 2 (fun _ => rfl) xs k x hx 0 _ rfl; simpa using this), hc (k * 2 + 1) _ (flatMap_get RowIn.vals 2 (fun _ => rfl) xs k x hx 1 _ rfl)⟩
theorem lt (h : RowsIn W base v xs) : ∀ k, v.ownBlock = some k → base ≤ k ∧ k < W.heap.size := fun k e => World.ownsRow.lt h.own k e
end RowsIn
theorem vals_one (x : RowIn) : ∀ u ∈ x.vals, u.oneCell' = true := by
 intro u hu
 unfold RowIn.vals at hu
 simp at hu
 rcases hu with rfl | rfl <;> rfl
def RwAt (w : World) (base : Nat) (v : Value) (n : Nat) (xs : List Value) : Prop :=
 xs.length = n * 2 ∧ ((v = .slice none 0 0 ∧ n = 0) ∨ ∃ b off cap cur, v = .slice (some ⟨b, off, none⟩) n cap ∧ base ≤ b ∧ w.heap[b]? = some (.cells cur 24 (0, 0)) ∧ n ≤ cap ∧ cap ≤ maxLen ∧ off + cap * 2 ≤ cur.size ∧ ∀ j u, xs[j]? = some u → cur[off + j]? = some u)
namespace RwAt
variable {w w' : World} {base : Nat} {v : Value} {n : Nat} {xs : List Value}
theorem nothing (w : World) (base : Nat) : RwAt w base (.slice none 0 0) 0 [] := ⟨rfl, .inl ⟨rfl, rfl⟩⟩
theorem type (h : RwAt w base v n xs) : ∀ k, v.ownBlock = some k → base ≤ k ∧ Typed w 24 k := by
 intro k hk
 rcases h.2 with ⟨rfl, _⟩ | ⟨b, off, cap, cur, rfl, hb, hg, _⟩
 ·cases hk
 ·injection hk with hk
  subst hk
  exact ⟨hb, cur, _, hg⟩
theorem lt (h : RwAt w base v n xs) : ∀ k, v.ownBlock = some k → base ≤ k ∧ k < w.heap.size := fun k hk =>
 let ⟨h1, _, _, h2⟩ := h.type k hk; ⟨h1, (Array.getElem?_eq_some_iff.1 h2).1⟩
theorem kept (h : RwAt w base v n xs) (k : ∀ b, v.ownBlock = some b → w'.heap[b]? = w.heap[b]?) : RwAt w' base v n xs := by
 refine ⟨h.1, ?_⟩
 rcases h.2 with h' | ⟨b, off, cap, cur, rfl, hb, hg, r⟩
 ·exact .inl h'
 ·exact .inr ⟨b, off, cap, cur, rfl, hb, (k b rfl).trans hg, r⟩
theorem shape (h : RwAt w base v n xs) : ∃ A c, v = .slice A n c ∧ n ≤ c := by
 rcases h.2 with ⟨rfl, h0⟩ | ⟨b, off, cap, cur, rfl, _, _, hc, _⟩
 ·rw [h0]; exact ⟨_, _, rfl, Nat.le_refl _⟩
 ·exact ⟨_, _, rfl, hc⟩
theorem cell (h : RwAt w base v n xs) {j : Nat} {u : Value} (hu : xs[j]? = some u) : ∃ b off cap, v = .slice (some ⟨b, off, none⟩) n cap ∧ n ≤ cap ∧ base ≤ b ∧ b < w.heap.size ∧ w.cell? ⟨b, off + j, none⟩ = some u := by
 rcases h.2 with ⟨rfl, h0⟩ | ⟨b, off, cap, cur, rfl, hb, hg, hc, _, _, hx⟩
 ·have := (List.getElem?_eq_some_iff.1 hu).1
  have := h.1
  omega
 ·exact ⟨b, off, cap, rfl, hc, hb, (Array.getElem?_eq_some_iff.1 hg).1, (cell_of_row w b _ _ _ (0, 0) hg).trans (hx j u hu)⟩
theorem cut {b off cap k : Nat} (h : RwAt w base (.slice (some ⟨b, off, none⟩) n cap) n xs) (hk : k ≤ n) : RwAt w base (.slice (some ⟨b, off + k * 2, none⟩) (n - k) (cap - k)) (n - k) (xs.drop (k * 2)) := by
 refine ⟨by rw [List.length_drop, h.1]; omega, .inr ?_⟩
 rcases h.2 with ⟨e, _⟩ | ⟨b', off1, cap', cur, e1, hb, hg, hc, hm, hs, hx⟩
 ·cases e
 ·injection e1 with e1 _ e3
  injection e1 with e1
  injection e1 with e1 e2
  subst e1 e2 e3
  refine ⟨b, off + k * 2, cap - k, cur, rfl, hb, hg, by omega, by omega, by omega, fun j u hu => ?_⟩
  rw [List.getElem?_drop] at hu
  rw [Nat.add_assoc]
  exact hx _ _ hu
end RwAt
def begL : List Chain.Line := [
 (some 14, .move (.tmp 2), none, 0),
 (some 15, .call { callee := .builtin .len, args := #[.tmp 14], argTypes := #[54] }, none, 1),
 (some 16, .binOp .eql 3 (.tmp 15) (.const (.int .i64 0)) 3, none, 2),
 (some 17, .move (.tmp 16), none, 3),
 (some 18, .move (.tmp 1), some (3, true), 4),
 (some 19, .call { callee := .value (.func 136), args := #[.tmp 18], argTypes := #[160] }, some (3, true), 5),
 (some 20, .binOp .eql 3 (.tmp 19) (.const (.int .i64 0)) 3, some (3, true), 6),
 (some 21, .pick (.tmp 17) (.tmp 20) (.const (.bool false)), none, 7),
 (some 22, .move (.tmp 21), none, 8),
 (some 23, .move (.tmp 3), some (8, true), 9),
 (some 24, .call { callee := .builtin .len, args := #[.tmp 23], argTypes := #[54] }, some (8, true), 10),
 (some 25, .binOp .eql 3 (.tmp 24) (.const (.int .i64 1)) 3, some (8, true), 11),
 (some 26, .pick (.tmp 22) (.tmp 25) (.const (.bool false)), none, 12),
 (some 27, .move (.tmp 26), none, 13),
 (some 28, .move (.tmp 3), some (13, true), 14),
 (some 29, .indexAddr 54 (.tmp 28) (.const (.int .i64 0)), some (13, true), 15),
 (some 30, .load 21 (.tmp 29), some (13, true), 16),
 (some 31, .binOp .eql 21 (.tmp 30) (.const (.int .i32 233)) 21, some (13, true), 17),
 (some 32, .pick (.tmp 27) (.tmp 31) (.const (.bool false)), none, 18),
 (some 33, .move (.tmp 32), none, 19),
 (some 34, .move (.tmp 4), some (19, true), 20),
 (some 35, .call { callee := .builtin .len, args := #[.tmp 34], argTypes := #[54] }, some (19, true), 21),
 (some 36, .binOp .eql 3 (.tmp 35) (.const (.int .i64 3)) 3, some (19, true), 22),
 (some 37, .pick (.tmp 33) (.tmp 36) (.const (.bool false)), none, 23),
 (some 38, .move (.tmp 37), none, 24),
 (some 39, .move (.tmp 4), some (24, true), 25),
 (some 40, .indexAddr 54 (.tmp 39) (.const (.int .i64 1)), some (24, true), 26),
 (some 41, .load 21 (.tmp 40), some (24, true), 27),
 (some 42, .binOp .eql 21 (.tmp 41) (.const (.int .i32 65533)) 21, some (24, true), 28),
 (some 43, .pick (.tmp 38) (.tmp 42) (.const (.bool false)), none, 29),
 (some 44, .move (.tmp 43), none, 30),
 (some 45, .move (.tmp 4), some (30, true), 31),
 (some 46, .call { callee := .value (.func 137), args := #[.tmp 45], argTypes := #[54] }, some (30, true), 32),
 (some 47, .binOp .eql 9 (.tmp 46) (.const (.string { data := #[97, 239, 191, 189, 228, 184, 173] })) 9, some (30, true), 33),
 (some 48, .pick (.tmp 44) (.tmp 47) (.const (.bool false)), none, 34),
 (some 49, .move (.tmp 48), none, 35),
 (some 50, .call { callee := .value (.func 70), args := #[.const (.int .i32 20013)], argTypes := #[21] }, some (35, true), 36),
 (some 51, .binOp .eql 3 (.tmp 50) (.const (.int .i64 2)) 3, some (35, true), 37),
 (some 52, .pick (.tmp 49) (.tmp 51) (.const (.bool false)), none, 38),
 (some 53, .move (.tmp 52), none, 39),
 (some 54, .call { callee := .value (.func 70), args := #[.const (.int .i32 97)], argTypes := #[21] }, some (39, true), 40),
 (some 55, .binOp .eql 3 (.tmp 54) (.const (.int .i64 1)) 3, some (39, true), 41),
 (some 56, .pick (.tmp 53) (.tmp 55) (.const (.bool false)), none, 42),
 (some 57, .move (.tmp 56), none, 43),
 (some 58, .call { callee := .value (.func 70), args := #[.const (.int .i32 7)], argTypes := #[21] }, some (43, true), 44),
 (some 59, .binOp .eql 3 (.tmp 58) (.const (.int .i64 0)) 3, some (43, true), 45),
 (some 60, .pick (.tmp 57) (.tmp 59) (.const (.bool false)), none, 46),
 (some 61, .move (.tmp 60), none, 47),
 (some 62, .move (.tmp 5), some (47, true), 48),
 (some 63, .call { callee := .builtin .len, args := #[.tmp 62], argTypes := #[22] }, some (47, true), 49),
 (some 64, .binOp .eql 3 (.tmp 63) (.const (.int .i64 2)) 3, some (47, true), 50),
 (some 65, .pick (.tmp 61) (.tmp 64) (.const (.bool false)), none, 51),
 (some 66, .move (.tmp 65), none, 52),
 (some 67, .move (.tmp 5), some (52, true), 53),
 (some 68, .indexAddr 22 (.tmp 67) (.const (.int .i64 0)), some (52, true), 54),
 (some 69, .fieldAddr 33 (.tmp 68) 1, some (52, true), 55),
 (some 70, .load 3 (.tmp 69), some (52, true), 56),
 (some 71, .binOp .eql 3 (.tmp 70) (.const (.int .i64 2)) 3, some (52, true), 57),
 (some 72, .pick (.tmp 66) (.tmp 71) (.const (.bool false)), none, 58),
 (some 73, .move (.tmp 72), none, 59),
 (some 74, .move (.tmp 5), some (59, true), 60),
 (some 75, .indexAddr 22 (.tmp 74) (.const (.int .i64 1)), some (59, true), 61),
 (some 76, .fieldAddr 33 (.tmp 75) 2, some (59, true), 62),
 (some 77, .load 3 (.tmp 76), some (59, true), 63),
 (some 78, .binOp .eql 3 (.tmp 77) (.const (.int .i64 3)) 3, some (59, true), 64),
 (some 79, .pick (.tmp 73) (.tmp 78) (.const (.bool false)), none, 65),
 (some 80, .move (.tmp 79), none, 66),
 (some 81, .move (.tmp 5), some (66, true), 67),
 (some 82, .indexAddr 22 (.tmp 81) (.const (.int .i64 1)), some (66, true), 68),
 (some 83, .load 33 (.tmp 82), some (66, true), 69),
 (some 84, .call { callee := .value (.func 64), args := #[.tmp 83], argTypes := #[33] }, some (66, true), 70),
 (some 85, .pick (.tmp 80) (.tmp 84) (.const (.bool false)), none, 71),
 (some 86, .move (.tmp 85), none, 72),
 (some 87, .call { callee := .value (.func 63), args := #[], argTypes := #[] }, some (72, true), 73),
 (some 88, .call { callee := .value (.func 103), args := #[.tmp 87], argTypes := #[33] }, some (72, true), 74),
 (some 89, .pick (.tmp 86) (.tmp 88) (.const (.bool false)), none, 75),
 (some 90, .move (.tmp 89), none, 76),
 (some 91, .call { callee := .value (.func 105), args := #[], argTypes := #[] }, some (76, true), 77),
 (some 92, .call { callee := .value (.func 65), args := #[.tmp 91], argTypes := #[33] }, some (76, true), 78),
 (some 93, .pick (.tmp 90) (.tmp 92) (.const (.bool false)), none, 79),
 (some 94, .move (.tmp 93), none, 80),
 (some 95, .move (.tmp 5), some (80, true), 81),
 (some 96, .call { callee := .value (.func 138), args := #[.tmp 95], argTypes := #[22] }, some (80, true), 82),
 (some 97, .binOp .eql 9 (.tmp 96) (.const (.string { data := #[228, 184, 173] })) 9, some (80, true), 83),
 (some 98, .pick (.tmp 94) (.tmp 97) (.const (.bool false)), none, 84),
 (some 99, .move (.tmp 98), none, 85),
 (some 100, .move (.tmp 5), some (85, true), 86),
 (some 101, .indexAddr 22 (.tmp 100) (.const (.int .i64 0)), some (85, true), 87),
 (some 102, .load 33 (.tmp 101), some (85, true), 88),
 (some 103, .call { callee := .value (.func 63), args := #[], argTypes := #[] }, some (85, true), 86),
 (some 104, .buildSlice 22 2 #[(0, .tmp 102), (1, .tmp 103)], some (85, true), 90),
 (some 105, .call { callee := .value (.func 62), args := #[.tmp 104], argTypes := #[22] }, some (85, true), 91),
 (some 106, .call { callee := .builtin .len, args := #[.tmp 105], argTypes := #[22] }, some (85, true), 92),
 (some 107, .binOp .eql 3 (.tmp 106) (.const (.int .i64 1)) 3, some (85, true), 93),
 (some 108, .pick (.tmp 99) (.tmp 107) (.const (.bool false)), none, 94),
 (some 109, .move (.tmp 108), none, 95),
 (some 110, .move (.tmp 5), some (95, true), 96),
 (some 111, .slice 22 (.tmp 110) none (some (.const (.int .i64 1))) none, some (95, true), 97),
 (some 112, .call { callee := .value (.func 139), args := #[.tmp 111], argTypes := #[22] }, some (95, true), 98),
 (some 113, .pick (.tmp 109) (.tmp 112) (.const (.bool false)), none, 99),
 (some 0, .assign (.tmp 113), none, 100)]
structure BF (N gb gl gc cb cl cc ca : Nat) (Aa : Option Addr) (a : Act) : Prop where
 size : a.tmps.size = 114
 defers : a.defers = []
 s1 : Chain.At a 1 (.pointer (some ⟨N, 0, none⟩))
 s2 : Chain.At a 2 (.slice Aa 0 ca)
 s3 : Chain.At a 3 (.slice (some ⟨gb, 0, none⟩) 1 cb)
 s4 : Chain.At a 4 (.slice (some ⟨gl, 0, none⟩) 3 cl)
 s5 : Chain.At a 5 (.slice (some ⟨gc, 0, none⟩) 2 cc)
variable {ops : Array Oper} {w0 : World} {gb gl gc cb cl cc ca : Nat} {Aa : Option Addr}
theorem BF.next {N : Nat} {a a' : Act} {d : Nat} {v : Value} (h : BF N gb gl gc cb cl cc ca Aa a) (n : Chain.Next a a' d v) (hd : 5 < d := by decide) : BF N gb gl gc cb cl cc ca Aa a' := ⟨n.size.trans h.size, n.defers.trans h.defers, n.keep 1 _ (by omega) h.s1, n.keep 2 _ (by omega) h.s2, n.keep 3 _ (by omega) h.s3, n.keep 4 _ (by omega) h.s4, n.keep 5 _ (by omega) h.s5⟩
theorem BF.lt {N : Nat} {a : Act} {d : Nat} (h : BF N gb gl gc cb cl cc ca Aa a) (hd : d < 114 := by decide) : d < a.tmps.size := by rw [h.size]; exact hd
set_option maxRecDepth 8000 in
theorem begun_c0 {Q : Exit → Act → World → Prop} (R : Chain.Reg ops begL 101) (a : Act) (w : World) (F : BF w0.heap.size gb gl gc cb cl cc ca Aa a) (hB : BB w0 gb gl gc w)
  (h : ∀ a w, BF w0.heap.size gb gl gc cb cl cc ca Aa a → Chain.At a 22 (.bool true) → BB w0 gb gl gc w → wpAnyH Tryz.prog .any ops Q (BB w0 gb gl gc) 92 (Chain.done 101 9) a w) : wpAnyH Tryz.prog .any ops Q (BB w0 gb gl gc) 101 (Chain.done 101 0) a w := by
 refine Chain.vl R 0 (.slice Aa 0 ca) rfl hB (fun _ => Chain.ev_move F.s2.ev) F.lt fun a' N => ?_
 have F := F.next N
 have f14 := N.got
 clear N
 refine Chain.vl R 1 (.int .i64 0) rfl hB (fun _ => Chain.ev_len Tryz.underlying54 f14.ev) F.lt fun a' N => ?_
 have F := F.next N
 have f15 := N.got
 clear N
 refine Chain.vl R 2 (.bool true) rfl hB (fun _ => Chain.ev_eql_int f15.ev rfl rfl) F.lt fun a' N => ?_
 have F := F.next N
 have f16 := N.got
 clear N
 refine Chain.vl R 3 (.bool true) rfl hB (fun _ => Chain.ev_move f16.ev) F.lt fun a' N => ?_
 have F := F.next N
 have f17 := N.got
 clear N
 refine Chain.value R (k := 4) (v := .pointer (some ⟨w0.heap.size, 0, none⟩)) rfl (by kernel_rfl) (by decide) (R.opened (j := 3) rfl f17) hB (fun _ => Chain.ev_move F.s1.ev) F.lt fun a' N => ?_
 have F := F.next N
 have f17 := N.keep 17 _ (by decide) f17
 have f18 := N.got
 clear N
 refine Chain.call R (k := 5) (args := #[.pointer (some ⟨w0.heap.size, 0, none⟩)]) rfl (by kernel_rfl) (by decide) (R.opened (j := 3) rfl f17) (by simp [f18.ev]) (by kernel_rfl) (hB.waits) F.lt ?_
 rintro e w' ⟨rfl, rfl⟩
 refine ⟨_, rfl, hB, fun a' N => ?_⟩
 have F := F.next N
 have f17 := N.keep 17 _ (by decide) f17
 have f19 := N.got
 clear N
 refine Chain.value R (k := 6) (v := .bool true) rfl (by kernel_rfl) (by decide) (R.opened (j := 3) rfl f17) hB (fun _ => Chain.ev_eql_int f19.ev rfl rfl) F.lt fun a' N => ?_
 have F := F.next N
 have f17 := N.keep 17 _ (by decide) f17
 have f20 := N.got
 clear N
 refine Chain.vl R 7 (.bool true) rfl hB (fun _ => Chain.ev_pick f17.ev f20.ev) F.lt fun a' N => ?_
 have F := F.next N
 have f21 := N.got
 clear N
 refine Chain.vl R 8 (.bool true) rfl hB (fun _ => Chain.ev_move f21.ev) F.lt fun a' N => ?_
 have F := F.next N
 have f22 := N.got
 clear N
 exact h _ _ F f22 hB
set_option maxRecDepth 8000 in
theorem begun_c1 {Q : Exit → Act → World → Prop} (R : Chain.Reg ops begL 101) (a : Act) (w : World) (F : BF w0.heap.size gb gl gc cb cl cc ca Aa a) (f22 : Chain.At a 22 (.bool true)) (hB : BB w0 gb gl gc w)
  (h : ∀ a w, BF w0.heap.size gb gl gc cb cl cc ca Aa a → Chain.At a 27 (.bool true) → BB w0 gb gl gc w → wpAnyH Tryz.prog .any ops Q (BB w0 gb gl gc) 87 (Chain.done 101 14) a w) : wpAnyH Tryz.prog .any ops Q (BB w0 gb gl gc) 92 (Chain.done 101 9) a w := by
 refine Chain.value R (k := 9) (v := .slice (some ⟨gb, 0, none⟩) 1 cb) rfl (by kernel_rfl) (by decide) (R.opened (j := 8) rfl f22) hB (fun _ => Chain.ev_move F.s3.ev) F.lt fun a' N => ?_
 have F := F.next N
 have f22 := N.keep 22 _ (by decide) f22
 have f23 := N.got
 clear N
 refine Chain.value R (k := 10) (v := .int .i64 1) rfl (by kernel_rfl) (by decide) (R.opened (j := 8) rfl f22) hB (fun _ => Chain.ev_len Tryz.underlying54 f23.ev) F.lt fun a' N => ?_
 have F := F.next N
 have f22 := N.keep 22 _ (by decide) f22
 have f24 := N.got
 clear N
 refine Chain.value R (k := 11) (v := .bool true) rfl (by kernel_rfl) (by decide) (R.opened (j := 8) rfl f22) hB (fun _ => Chain.ev_eql_int f24.ev rfl rfl) F.lt fun a' N => ?_
 have F := F.next N
 have f22 := N.keep 22 _ (by decide) f22
 have f25 := N.got
 clear N
 refine Chain.vl R 12 (.bool true) rfl hB (fun _ => Chain.ev_pick f22.ev f25.ev) F.lt fun a' N => ?_
 have F := F.next N
 have f26 := N.got
 clear N
 refine Chain.vl R 13 (.bool true) rfl hB (fun _ => Chain.ev_move f26.ev) F.lt fun a' N => ?_
 have F := F.next N
 have f27 := N.got
 clear N
 exact h _ _ F f27 hB
set_option maxRecDepth 8000 in
theorem begun_c2 {Q : Exit → Act → World → Prop} (R : Chain.Reg ops begL 101) (a : Act) (w : World) (F : BF w0.heap.size gb gl gc cb cl cc ca Aa a) (f27 : Chain.At a 27 (.bool true)) (hB : BB w0 gb gl gc w)
  (h : ∀ a w, BF w0.heap.size gb gl gc cb cl cc ca Aa a → Chain.At a 33 (.bool true) → BB w0 gb gl gc w → wpAnyH Tryz.prog .any ops Q (BB w0 gb gl gc) 81 (Chain.done 101 20) a w) : wpAnyH Tryz.prog .any ops Q (BB w0 gb gl gc) 87 (Chain.done 101 14) a w := by
 refine Chain.value R (k := 14) (v := .slice (some ⟨gb, 0, none⟩) 1 cb) rfl (by kernel_rfl) (by decide) (R.opened (j := 13) rfl f27) hB (fun _ => Chain.ev_move F.s3.ev) F.lt fun a' N => ?_
 have F := F.next N
 have f27 := N.keep 27 _ (by decide) f27
 have f28 := N.got
 clear N
 refine Chain.value R (k := 15) (v := .pointer (some ⟨gb, 0, none⟩)) rfl (by kernel_rfl) (by decide) (R.opened (j := 13) rfl f27) hB (fun _ => by have e := f28; unfold Chain.At at e; go_simp) F.lt fun a' N => ?_
 have F := F.next N
 have f27 := N.keep 27 _ (by decide) f27
 have f29 := N.got
 clear N
 refine Chain.value R (k := 16) (v := .int .i32 233) rfl (by kernel_rfl) (by decide) (R.opened (j := 13) rfl f27) hB (fun _ => by have e := f29; unfold Chain.At at e; have c0 := hB.beg.b0; go_simp) F.lt fun a' N => ?_
 have F := F.next N
 have f27 := N.keep 27 _ (by decide) f27
 have f30 := N.got
 clear N
 refine Chain.value R (k := 17) (v := .bool true) rfl (by kernel_rfl) (by decide) (R.opened (j := 13) rfl f27) hB (fun _ => Chain.ev_eql_int f30.ev rfl rfl) F.lt fun a' N => ?_
 have F := F.next N
 have f27 := N.keep 27 _ (by decide) f27
 have f31 := N.got
 clear N
 refine Chain.vl R 18 (.bool true) rfl hB (fun _ => Chain.ev_pick f27.ev f31.ev) F.lt fun a' N => ?_
 have F := F.next N
 have f32 := N.got
 clear N
 refine Chain.vl R 19 (.bool true) rfl hB (fun _ => Chain.ev_move f32.ev) F.lt fun a' N => ?_
 have F := F.next N
 have f33 := N.got
 clear N
 exact h _ _ F f33 hB
set_option maxRecDepth 8000 in
theorem begun_c3 {Q : Exit → Act → World → Prop} (R : Chain.Reg ops begL 101) (a : Act) (w : World) (F : BF w0.heap.size gb gl gc cb cl cc ca Aa a) (f33 : Chain.At a 33 (.bool true)) (hB : BB w0 gb gl gc w)
  (h : ∀ a w, BF w0.heap.size gb gl gc cb cl cc ca Aa a → Chain.At a 38 (.bool true) → BB w0 gb gl gc w → wpAnyH Tryz.prog .any ops Q (BB w0 gb gl gc) 76 (Chain.done 101 25) a w) : wpAnyH Tryz.prog .any ops Q (BB w0 gb gl gc) 81 (Chain.done 101 20) a w := by
 refine Chain.value R (k := 20) (v := .slice (some ⟨gl, 0, none⟩) 3 cl) rfl (by kernel_rfl) (by decide) (R.opened (j := 19) rfl f33) hB (fun _ => Chain.ev_move F.s4.ev) F.lt fun a' N => ?_
 have F := F.next N
 have f33 := N.keep 33 _ (by decide) f33
 have f34 := N.got
 clear N
 refine Chain.value R (k := 21) (v := .int .i64 3) rfl (by kernel_rfl) (by decide) (R.opened (j := 19) rfl f33) hB (fun _ => Chain.ev_len Tryz.underlying54 f34.ev) F.lt fun a' N => ?_
 have F := F.next N
 have f33 := N.keep 33 _ (by decide) f33
 have f35 := N.got
 clear N
 refine Chain.value R (k := 22) (v := .bool true) rfl (by kernel_rfl) (by decide) (R.opened (j := 19) rfl f33) hB (fun _ => Chain.ev_eql_int f35.ev rfl rfl) F.lt fun a' N => ?_
 have F := F.next N
 have f33 := N.keep 33 _ (by decide) f33
 have f36 := N.got
 clear N
 refine Chain.vl R 23 (.bool true) rfl hB (fun _ => Chain.ev_pick f33.ev f36.ev) F.lt fun a' N => ?_
 have F := F.next N
 have f37 := N.got
 clear N
 refine Chain.vl R 24 (.bool true) rfl hB (fun _ => Chain.ev_move f37.ev) F.lt fun a' N => ?_
 have F := F.next N
 have f38 := N.got
 clear N
 exact h _ _ F f38 hB
set_option maxRecDepth 8000 in
theorem begun_c4 {Q : Exit → Act → World → Prop} (R : Chain.Reg ops begL 101) (a : Act) (w : World) (F : BF w0.heap.size gb gl gc cb cl cc ca Aa a) (f38 : Chain.At a 38 (.bool true)) (hB : BB w0 gb gl gc w)
  (h : ∀ a w, BF w0.heap.size gb gl gc cb cl cc ca Aa a → Chain.At a 44 (.bool true) → BB w0 gb gl gc w → wpAnyH Tryz.prog .any ops Q (BB w0 gb gl gc) 70 (Chain.done 101 31) a w) : wpAnyH Tryz.prog .any ops Q (BB w0 gb gl gc) 76 (Chain.done 101 25) a w := by
 refine Chain.value R (k := 25) (v := .slice (some ⟨gl, 0, none⟩) 3 cl) rfl (by kernel_rfl) (by decide) (R.opened (j := 24) rfl f38) hB (fun _ => Chain.ev_move F.s4.ev) F.lt fun a' N => ?_
 have F := F.next N
 have f38 := N.keep 38 _ (by decide) f38
 have f39 := N.got
 clear N
 refine Chain.value R (k := 26) (v := .pointer (some ⟨gl, 1, none⟩)) rfl (by kernel_rfl) (by decide) (R.opened (j := 24) rfl f38) hB (fun _ => by have e := f39; unfold Chain.At at e; go_simp) F.lt fun a' N => ?_
 have F := F.next N
 have f38 := N.keep 38 _ (by decide) f38
 have f40 := N.got
 clear N
 refine Chain.value R (k := 27) (v := .int .i32 65533) rfl (by kernel_rfl) (by decide) (R.opened (j := 24) rfl f38) hB (fun _ => by have e := f40; unfold Chain.At at e; have c0 := hB.beg.l 1 _ rfl; go_simp) F.lt fun a' N => ?_
 have F := F.next N
 have f38 := N.keep 38 _ (by decide) f38
 have f41 := N.got
 clear N
 refine Chain.value R (k := 28) (v := .bool true) rfl (by kernel_rfl) (by decide) (R.opened (j := 24) rfl f38) hB (fun _ => Chain.ev_eql_int f41.ev rfl rfl) F.lt fun a' N => ?_
 have F := F.next N
 have f38 := N.keep 38 _ (by decide) f38
 have f42 := N.got
 clear N
 refine Chain.vl R 29 (.bool true) rfl hB (fun _ => Chain.ev_pick f38.ev f42.ev) F.lt fun a' N => ?_
 have F := F.next N
 have f43 := N.got
 clear N
 refine Chain.vl R 30 (.bool true) rfl hB (fun _ => Chain.ev_move f43.ev) F.lt fun a' N => ?_
 have F := F.next N
 have f44 := N.got
 clear N
 exact h _ _ F f44 hB
set_option maxRecDepth 8000 in
theorem begun_c5 {Q : Exit → Act → World → Prop} (R : Chain.Reg ops begL 101) (a : Act) (w : World) (F : BF w0.heap.size gb gl gc cb cl cc ca Aa a) (f44 : Chain.At a 44 (.bool true)) (hB : BB w0 gb gl gc w)
  (h : ∀ a w, BF w0.heap.size gb gl gc cb cl cc ca Aa a → Chain.At a 49 (.bool true) → BB w0 gb gl gc w → wpAnyH Tryz.prog .any ops Q (BB w0 gb gl gc) 65 (Chain.done 101 36) a w) : wpAnyH Tryz.prog .any ops Q (BB w0 gb gl gc) 70 (Chain.done 101 31) a w := by
 refine Chain.value R (k := 31) (v := .slice (some ⟨gl, 0, none⟩) 3 cl) rfl (by kernel_rfl) (by decide) (R.opened (j := 30) rfl f44) hB (fun _ => Chain.ev_move F.s4.ev) F.lt fun a' N => ?_
 have F := F.next N
 have f44 := N.keep 44 _ (by decide) f44
 have f45 := N.got
 clear N
 refine Chain.call R (k := 32) (args := #[.slice (some ⟨gl, 0, none⟩) 3 cl]) rfl (by kernel_rfl) (by decide) (R.opened (j := 30) rfl f44) (by simp [f45.ev]) (by kernel_rfl) (hB.write _) F.lt ?_
 rintro e w' ⟨rfl, rfl⟩
 refine ⟨_, rfl, hB, fun a' N => ?_⟩
 have F := F.next N
 have f44 := N.keep 44 _ (by decide) f44
 have f46 := N.got
 clear N
 refine Chain.value R (k := 33) (v := .bool true) rfl (by kernel_rfl) (by decide) (R.opened (j := 30) rfl f44) hB (fun _ => Chain.ev_eql_str f46.ev rfl rfl) F.lt fun a' N => ?_
 have F := F.next N
 have f44 := N.keep 44 _ (by decide) f44
 have f47 := N.got
 clear N
 refine Chain.vl R 34 (.bool true) rfl hB (fun _ => Chain.ev_pick f44.ev f47.ev) F.lt fun a' N => ?_
 have F := F.next N
 have f48 := N.got
 clear N
 refine Chain.vl R 35 (.bool true) rfl hB (fun _ => Chain.ev_move f48.ev) F.lt fun a' N => ?_
 have F := F.next N
 have f49 := N.got
 clear N
 exact h _ _ F f49 hB
set_option maxRecDepth 8000 in
theorem begun_c6 {Q : Exit → Act → World → Prop} (R : Chain.Reg ops begL 101) (a : Act) (w : World) (F : BF w0.heap.size gb gl gc cb cl cc ca Aa a) (f49 : Chain.At a 49 (.bool true)) (hB : BB w0 gb gl gc w)
  (h : ∀ a w, BF w0.heap.size gb gl gc cb cl cc ca Aa a → Chain.At a 53 (.bool true) → BB w0 gb gl gc w → wpAnyH Tryz.prog .any ops Q (BB w0 gb gl gc) 61 (Chain.done 101 40) a w) : wpAnyH Tryz.prog .any ops Q (BB w0 gb gl gc) 65 (Chain.done 101 36) a w := by
 refine Chain.call R (k := 36) (args := #[.int .i32 20013]) rfl (by kernel_rfl) (by decide) (R.opened (j := 35) rfl f49) (by simp [Act.eval]) (by kernel_rfl) (hB.of2) F.lt ?_
 rintro e w' ⟨rfl, rfl⟩
 refine ⟨_, rfl, hB, fun a' N => ?_⟩
 have F := F.next N
 have f49 := N.keep 49 _ (by decide) f49
 have f50 := N.got
 clear N
 refine Chain.value R (k := 37) (v := .bool true) rfl (by kernel_rfl) (by decide) (R.opened (j := 35) rfl f49) hB (fun _ => Chain.ev_eql_int f50.ev rfl rfl) F.lt fun a' N => ?_
 have F := F.next N
 have f49 := N.keep 49 _ (by decide) f49
 have f51 := N.got
 clear N
 refine Chain.vl R 38 (.bool true) rfl hB (fun _ => Chain.ev_pick f49.ev f51.ev) F.lt fun a' N => ?_
 have F := F.next N
 have f52 := N.got
 clear N
 refine Chain.vl R 39 (.bool true) rfl hB (fun _ => Chain.ev_move f52.ev) F.lt fun a' N => ?_
 have F := F.next N
 have f53 := N.got
 clear N
 exact h _ _ F f53 hB
set_option maxRecDepth 8000 in
theorem begun_c7 {Q : Exit → Act → World → Prop} (R : Chain.Reg ops begL 101) (a : Act) (w : World) (F : BF w0.heap.size gb gl gc cb cl cc ca Aa a) (f53 : Chain.At a 53 (.bool true)) (hB : BB w0 gb gl gc w)
  (h : ∀ a w, BF w0.heap.size gb gl gc cb cl cc ca Aa a → Chain.At a 57 (.bool true) → BB w0 gb gl gc w → wpAnyH Tryz.prog .any ops Q (BB w0 gb gl gc) 57 (Chain.done 101 44) a w) : wpAnyH Tryz.prog .any ops Q (BB w0 gb gl gc) 61 (Chain.done 101 40) a w := by
 refine Chain.call R (k := 40) (args := #[.int .i32 97]) rfl (by kernel_rfl) (by decide) (R.opened (j := 39) rfl f53) (by simp [Act.eval]) (by kernel_rfl) (hB.of1) F.lt ?_
 rintro e w' ⟨rfl, rfl⟩
 refine ⟨_, rfl, hB, fun a' N => ?_⟩
 have F := F.next N
 have f53 := N.keep 53 _ (by decide) f53
 have f54 := N.got
 clear N
 refine Chain.value R (k := 41) (v := .bool true) rfl (by kernel_rfl) (by decide) (R.opened (j := 39) rfl f53) hB (fun _ => Chain.ev_eql_int f54.ev rfl rfl) F.lt fun a' N => ?_
 have F := F.next N
 have f53 := N.keep 53 _ (by decide) f53
 have f55 := N.got
 clear N
 refine Chain.vl R 42 (.bool true) rfl hB (fun _ => Chain.ev_pick f53.ev f55.ev) F.lt fun a' N => ?_
 have F := F.next N
 have f56 := N.got
 clear N
 refine Chain.vl R 43 (.bool true) rfl hB (fun _ => Chain.ev_move f56.ev) F.lt fun a' N => ?_
 have F := F.next N
 have f57 := N.got
 clear N
 exact h _ _ F f57 hB
set_option maxRecDepth 8000 in
theorem begun_c8 {Q : Exit → Act → World → Prop} (R : Chain.Reg ops begL 101) (a : Act) (w : World) (F : BF w0.heap.size gb gl gc cb cl cc ca Aa a) (f57 : Chain.At a 57 (.bool true)) (hB : BB w0 gb gl gc w)
  (h : ∀ a w, BF w0.heap.size gb gl gc cb cl cc ca Aa a → Chain.At a 61 (.bool true) → BB w0 gb gl gc w → wpAnyH Tryz.prog .any ops Q (BB w0 gb gl gc) 53 (Chain.done 101 48) a w) : wpAnyH Tryz.prog .any ops Q (BB w0 gb gl gc) 57 (Chain.done 101 44) a w := by
 refine Chain.call R (k := 44) (args := #[.int .i32 7]) rfl (by kernel_rfl) (by decide) (R.opened (j := 43) rfl f57) (by simp [Act.eval]) (by kernel_rfl) (hB.of0) F.lt ?_
 rintro e w' ⟨rfl, rfl⟩
 refine ⟨_, rfl, hB, fun a' N => ?_⟩
 have F := F.next N
 have f57 := N.keep 57 _ (by decide) f57
 have f58 := N.got
 clear N
 refine Chain.value R (k := 45) (v := .bool true) rfl (by kernel_rfl) (by decide) (R.opened (j := 43) rfl f57) hB (fun _ => Chain.ev_eql_int f58.ev rfl rfl) F.lt fun a' N => ?_
 have F := F.next N
 have f57 := N.keep 57 _ (by decide) f57
 have f59 := N.got
 clear N
 refine Chain.vl R 46 (.bool true) rfl hB (fun _ => Chain.ev_pick f57.ev f59.ev) F.lt fun a' N => ?_
 have F := F.next N
 have f60 := N.got
 clear N
 refine Chain.vl R 47 (.bool true) rfl hB (fun _ => Chain.ev_move f60.ev) F.lt fun a' N => ?_
 have F := F.next N
 have f61 := N.got
 clear N
 exact h _ _ F f61 hB
set_option maxRecDepth 8000 in
theorem begun_c9 {Q : Exit → Act → World → Prop} (R : Chain.Reg ops begL 101) (a : Act) (w : World) (F : BF w0.heap.size gb gl gc cb cl cc ca Aa a) (f61 : Chain.At a 61 (.bool true)) (hB : BB w0 gb gl gc w)
  (h : ∀ a w, BF w0.heap.size gb gl gc cb cl cc ca Aa a → Chain.At a 66 (.bool true) → BB w0 gb gl gc w → wpAnyH Tryz.prog .any ops Q (BB w0 gb gl gc) 48 (Chain.done 101 53) a w) : wpAnyH Tryz.prog .any ops Q (BB w0 gb gl gc) 53 (Chain.done 101 48) a w := by
 refine Chain.value R (k := 48) (v := .slice (some ⟨gc, 0, none⟩) 2 cc) rfl (by kernel_rfl) (by decide) (R.opened (j := 47) rfl f61) hB (fun _ => Chain.ev_move F.s5.ev) F.lt fun a' N => ?_
 have F := F.next N
 have f61 := N.keep 61 _ (by decide) f61
 have f62 := N.got
 clear N
 refine Chain.value R (k := 49) (v := .int .i64 2) rfl (by kernel_rfl) (by decide) (R.opened (j := 47) rfl f61) hB (fun _ => Chain.ev_len Tryz.underlying22 f62.ev) F.lt fun a' N => ?_
 have F := F.next N
 have f61 := N.keep 61 _ (by decide) f61
 have f63 := N.got
 clear N
 refine Chain.value R (k := 50) (v := .bool true) rfl (by kernel_rfl) (by decide) (R.opened (j := 47) rfl f61) hB (fun _ => Chain.ev_eql_int f63.ev rfl rfl) F.lt fun a' N => ?_
 have F := F.next N
 have f61 := N.keep 61 _ (by decide) f61
 have f64 := N.got
 clear N
 refine Chain.vl R 51 (.bool true) rfl hB (fun _ => Chain.ev_pick f61.ev f64.ev) F.lt fun a' N => ?_
 have F := F.next N
 have f65 := N.got
 clear N
 refine Chain.vl R 52 (.bool true) rfl hB (fun _ => Chain.ev_move f65.ev) F.lt fun a' N => ?_
 have F := F.next N
 have f66 := N.got
 clear N
 exact h _ _ F f66 hB
set_option maxRecDepth 8000 in
theorem begun_c10 {Q : Exit → Act → World → Prop} (R : Chain.Reg ops begL 101) (a : Act) (w : World) (F : BF w0.heap.size gb gl gc cb cl cc ca Aa a) (f66 : Chain.At a 66 (.bool true)) (hB : BB w0 gb gl gc w)
  (h : ∀ a w, BF w0.heap.size gb gl gc cb cl cc ca Aa a → Chain.At a 73 (.bool true) → BB w0 gb gl gc w → wpAnyH Tryz.prog .any ops Q (BB w0 gb gl gc) 41 (Chain.done 101 60) a w) : wpAnyH Tryz.prog .any ops Q (BB w0 gb gl gc) 48 (Chain.done 101 53) a w := by
 refine Chain.value R (k := 53) (v := .slice (some ⟨gc, 0, none⟩) 2 cc) rfl (by kernel_rfl) (by decide) (R.opened (j := 52) rfl f66) hB (fun _ => Chain.ev_move F.s5.ev) F.lt fun a' N => ?_
 have F := F.next N
 have f66 := N.keep 66 _ (by decide) f66
 have f67 := N.got
 clear N
 refine Chain.value R (k := 54) (v := .pointer (some ⟨gc, 0, none⟩)) rfl (by kernel_rfl) (by decide) (R.opened (j := 52) rfl f66) hB (fun _ => by have e := f67; unfold Chain.At at e; go_simp) F.lt fun a' N => ?_
 have F := F.next N
 have f66 := N.keep 66 _ (by decide) f66
 have f68 := N.got
 clear N
 refine Chain.value R (k := 55) (v := .pointer (some ⟨gc, 1, none⟩)) rfl (by kernel_rfl) (by decide) (R.opened (j := 52) rfl f66) hB (fun _ => by have e := f68; unfold Chain.At at e; go_simp) F.lt fun a' N => ?_
 have F := F.next N
 have f66 := N.keep 66 _ (by decide) f66
 have f69 := N.got
 clear N
 refine Chain.value R (k := 56) (v := .int .i64 2) rfl (by kernel_rfl) (by decide) (R.opened (j := 52) rfl f66) hB (fun _ => by have e := f69; unfold Chain.At at e; have c0 := hB.beg.c 1 _ rfl; go_simp) F.lt fun a' N => ?_
 have F := F.next N
 have f66 := N.keep 66 _ (by decide) f66
 have f70 := N.got
 clear N
 refine Chain.value R (k := 57) (v := .bool true) rfl (by kernel_rfl) (by decide) (R.opened (j := 52) rfl f66) hB (fun _ => Chain.ev_eql_int f70.ev rfl rfl) F.lt fun a' N => ?_
 have F := F.next N
 have f66 := N.keep 66 _ (by decide) f66
 have f71 := N.got
 clear N
 refine Chain.vl R 58 (.bool true) rfl hB (fun _ => Chain.ev_pick f66.ev f71.ev) F.lt fun a' N => ?_
 have F := F.next N
 have f72 := N.got
 clear N
 refine Chain.vl R 59 (.bool true) rfl hB (fun _ => Chain.ev_move f72.ev) F.lt fun a' N => ?_
 have F := F.next N
 have f73 := N.got
 clear N
 exact h _ _ F f73 hB
set_option maxRecDepth 8000 in
theorem begun_c11 {Q : Exit → Act → World → Prop} (R : Chain.Reg ops begL 101) (a : Act) (w : World) (F : BF w0.heap.size gb gl gc cb cl cc ca Aa a) (f73 : Chain.At a 73 (.bool true)) (hB : BB w0 gb gl gc w)
  (h : ∀ a w, BF w0.heap.size gb gl gc cb cl cc ca Aa a → Chain.At a 80 (.bool true) → BB w0 gb gl gc w → wpAnyH Tryz.prog .any ops Q (BB w0 gb gl gc) 34 (Chain.done 101 67) a w) : wpAnyH Tryz.prog .any ops Q (BB w0 gb gl gc) 41 (Chain.done 101 60) a w := by
 refine Chain.value R (k := 60) (v := .slice (some ⟨gc, 0, none⟩) 2 cc) rfl (by kernel_rfl) (by decide) (R.opened (j := 59) rfl f73) hB (fun _ => Chain.ev_move F.s5.ev) F.lt fun a' N => ?_
 have F := F.next N
 have f73 := N.keep 73 _ (by decide) f73
 have f74 := N.got
 clear N
 refine Chain.value R (k := 61) (v := .pointer (some ⟨gc, 3, none⟩)) rfl (by kernel_rfl) (by decide) (R.opened (j := 59) rfl f73) hB (fun _ => by have e := f74; unfold Chain.At at e; go_simp) F.lt fun a' N => ?_
 have F := F.next N
 have f73 := N.keep 73 _ (by decide) f73
 have f75 := N.got
 clear N
 refine Chain.value R (k := 62) (v := .pointer (some ⟨gc, 5, none⟩)) rfl (by kernel_rfl) (by decide) (R.opened (j := 59) rfl f73) hB (fun _ => by have e := f75; unfold Chain.At at e; go_simp) F.lt fun a' N => ?_
 have F := F.next N
 have f73 := N.keep 73 _ (by decide) f73
 have f76 := N.got
 clear N
 refine Chain.value R (k := 63) (v := .int .i64 3) rfl (by kernel_rfl) (by decide) (R.opened (j := 59) rfl f73) hB (fun _ => by have e := f76; unfold Chain.At at e; have c0 := hB.beg.c 5 _ rfl; go_simp) F.lt fun a' N => ?_
 have F := F.next N
 have f73 := N.keep 73 _ (by decide) f73
 have f77 := N.got
 clear N
 refine Chain.value R (k := 64) (v := .bool true) rfl (by kernel_rfl) (by decide) (R.opened (j := 59) rfl f73) hB (fun _ => Chain.ev_eql_int f77.ev rfl rfl) F.lt fun a' N => ?_
 have F := F.next N
 have f73 := N.keep 73 _ (by decide) f73
 have f78 := N.got
 clear N
 refine Chain.vl R 65 (.bool true) rfl hB (fun _ => Chain.ev_pick f73.ev f78.ev) F.lt fun a' N => ?_
 have F := F.next N
 have f79 := N.got
 clear N
 refine Chain.vl R 66 (.bool true) rfl hB (fun _ => Chain.ev_move f79.ev) F.lt fun a' N => ?_
 have F := F.next N
 have f80 := N.got
 clear N
 exact h _ _ F f80 hB
set_option maxRecDepth 8000 in
theorem begun_c12 {Q : Exit → Act → World → Prop} (R : Chain.Reg ops begL 101) (a : Act) (w : World) (F : BF w0.heap.size gb gl gc cb cl cc ca Aa a) (f80 : Chain.At a 80 (.bool true)) (hB : BB w0 gb gl gc w)
  (h : ∀ a w, BF w0.heap.size gb gl gc cb cl cc ca Aa a → Chain.At a 86 (.bool true) → BB w0 gb gl gc w → wpAnyH Tryz.prog .any ops Q (BB w0 gb gl gc) 28 (Chain.done 101 73) a w) : wpAnyH Tryz.prog .any ops Q (BB w0 gb gl gc) 34 (Chain.done 101 67) a w := by
 refine Chain.value R (k := 67) (v := .slice (some ⟨gc, 0, none⟩) 2 cc) rfl (by kernel_rfl) (by decide) (R.opened (j := 66) rfl f80) hB (fun _ => Chain.ev_move F.s5.ev) F.lt fun a' N => ?_
 have F := F.next N
 have f80 := N.keep 80 _ (by decide) f80
 have f81 := N.got
 clear N
 refine Chain.value R (k := 68) (v := .pointer (some ⟨gc, 3, none⟩)) rfl (by kernel_rfl) (by decide) (R.opened (j := 66) rfl f80) hB (fun _ => by have e := f81; unfold Chain.At at e; go_simp) F.lt fun a' N => ?_
 have F := F.next N
 have f80 := N.keep 80 _ (by decide) f80
 have f82 := N.got
 clear N
 refine Chain.value R (k := 69) (v := .agg #[.int .i32 0, .int .i64 0, .int .i64 3]) rfl (by kernel_rfl) (by decide) (R.opened (j := 66) rfl f80) hB (fun _ => by have e := f82; unfold Chain.At at e; have c0 := hB.beg.c 3 _ rfl; have c1 := hB.beg.c 4 _ rfl; have c2 := hB.beg.c 5 _ rfl; go_simp) F.lt fun a' N => ?_
 have F := F.next N
 have f80 := N.keep 80 _ (by decide) f80
 have f83 := N.got
 clear N
 refine Chain.call R (k := 70) (args := #[.agg #[.int .i32 0, .int .i64 0, .int .i64 3]]) rfl (by kernel_rfl) (by decide) (R.opened (j := 66) rfl f80) (by simp [f83.ev]) (by kernel_rfl) (hB.may) F.lt ?_
 rintro e w ⟨rfl, hB⟩
 refine ⟨_, rfl, hB, fun a' N => ?_⟩
 have F := F.next N
 have f80 := N.keep 80 _ (by decide) f80
 have f84 := N.got
 clear N
 refine Chain.vl R 71 (.bool true) rfl hB (fun _ => Chain.ev_pick f80.ev f84.ev) F.lt fun a' N => ?_
 have F := F.next N
 have f85 := N.got
 clear N
 refine Chain.vl R 72 (.bool true) rfl hB (fun _ => Chain.ev_move f85.ev) F.lt fun a' N => ?_
 have F := F.next N
 have f86 := N.got
 clear N
 exact h _ _ F f86 hB
set_option maxRecDepth 8000 in
theorem begun_c13 {Q : Exit → Act → World → Prop} (R : Chain.Reg ops begL 101) (a : Act) (w : World) (F : BF w0.heap.size gb gl gc cb cl cc ca Aa a) (f86 : Chain.At a 86 (.bool true)) (hB : BB w0 gb gl gc w)
  (h : ∀ a w, BF w0.heap.size gb gl gc cb cl cc ca Aa a → Chain.At a 90 (.bool true) → BB w0 gb gl gc w → wpAnyH Tryz.prog .any ops Q (BB w0 gb gl gc) 24 (Chain.done 101 77) a w) : wpAnyH Tryz.prog .any ops Q (BB w0 gb gl gc) 28 (Chain.done 101 73) a w := by
 refine Chain.call R (k := 73) (args := #[]) rfl (by kernel_rfl) (by decide) (R.opened (j := 72) rfl f86) (by simp) (by kernel_rfl) (hB.blank) F.lt ?_
 rintro e w ⟨rfl, hB⟩
 refine ⟨_, rfl, hB, fun a' N => ?_⟩
 have F := F.next N
 have f86 := N.keep 86 _ (by decide) f86
 have f87 := N.got
 clear N
 refine Chain.call R (k := 74) (args := #[.agg #[.int .i32 32, .int .i64 1, .int .i64 0]]) rfl (by kernel_rfl) (by decide) (R.opened (j := 72) rfl f86) (by simp [f87.ev]) (by kernel_rfl) (hB.isBlank) F.lt ?_
 rintro e w ⟨rfl, hB⟩
 refine ⟨_, rfl, hB, fun a' N => ?_⟩
 have F := F.next N
 have f86 := N.keep 86 _ (by decide) f86
 have f88 := N.got
 clear N
 refine Chain.vl R 75 (.bool true) rfl hB (fun _ => Chain.ev_pick f86.ev f88.ev) F.lt fun a' N => ?_
 have F := F.next N
 have f89 := N.got
 clear N
 refine Chain.vl R 76 (.bool true) rfl hB (fun _ => Chain.ev_move f89.ev) F.lt fun a' N => ?_
 have F := F.next N
 have f90 := N.got
 clear N
 exact h _ _ F f90 hB
set_option maxRecDepth 8000 in
theorem begun_c14 {Q : Exit → Act → World → Prop} (R : Chain.Reg ops begL 101) (a : Act) (w : World) (F : BF w0.heap.size gb gl gc cb cl cc ca Aa a) (f90 : Chain.At a 90 (.bool true)) (hB : BB w0 gb gl gc w)
  (h : ∀ a w, BF w0.heap.size gb gl gc cb cl cc ca Aa a → Chain.At a 94 (.bool true) → BB w0 gb gl gc w → wpAnyH Tryz.prog .any ops Q (BB w0 gb gl gc) 20 (Chain.done 101 81) a w) : wpAnyH Tryz.prog .any ops Q (BB w0 gb gl gc) 24 (Chain.done 101 77) a w := by
 refine Chain.call R (k := 77) (args := #[]) rfl (by kernel_rfl) (by decide) (R.opened (j := 76) rfl f90) (by simp) (by kernel_rfl) (hB.pad) F.lt ?_
 rintro e w ⟨rfl, hB⟩
 refine ⟨_, rfl, hB, fun a' N => ?_⟩
 have F := F.next N
 have f90 := N.keep 90 _ (by decide) f90
 have f91 := N.got
 clear N
 refine Chain.call R (k := 78) (args := #[.agg #[.int .i32 0, .int .i64 1, .int .i64 0]]) rfl (by kernel_rfl) (by decide) (R.opened (j := 76) rfl f90) (by simp [f91.ev]) (by kernel_rfl) (hB.isPad) F.lt ?_
 rintro e w ⟨rfl, hB⟩
 refine ⟨_, rfl, hB, fun a' N => ?_⟩
 have F := F.next N
 have f90 := N.keep 90 _ (by decide) f90
 have f92 := N.got
 clear N
 refine Chain.vl R 79 (.bool true) rfl hB (fun _ => Chain.ev_pick f90.ev f92.ev) F.lt fun a' N => ?_
 have F := F.next N
 have f93 := N.got
 clear N
 refine Chain.vl R 80 (.bool true) rfl hB (fun _ => Chain.ev_move f93.ev) F.lt fun a' N => ?_
 have F := F.next N
 have f94 := N.got
 clear N
 exact h _ _ F f94 hB
set_option maxRecDepth 8000 in
theorem begun_c15 {Q : Exit → Act → World → Prop} (R : Chain.Reg ops begL 101) (a : Act) (w : World) (F : BF w0.heap.size gb gl gc cb cl cc ca Aa a) (f94 : Chain.At a 94 (.bool true)) (hB : BB w0 gb gl gc w)
  (h : ∀ a w, BF w0.heap.size gb gl gc cb cl cc ca Aa a → Chain.At a 99 (.bool true) → BB w0 gb gl gc w → wpAnyH Tryz.prog .any ops Q (BB w0 gb gl gc) 15 (Chain.done 101 86) a w) : wpAnyH Tryz.prog .any ops Q (BB w0 gb gl gc) 20 (Chain.done 101 81) a w := by
 refine Chain.value R (k := 81) (v := .slice (some ⟨gc, 0, none⟩) 2 cc) rfl (by kernel_rfl) (by decide) (R.opened (j := 80) rfl f94) hB (fun _ => Chain.ev_move F.s5.ev) F.lt fun a' N => ?_
 have F := F.next N
 have f94 := N.keep 94 _ (by decide) f94
 have f95 := N.got
 clear N
 refine Chain.call R (k := 82) (args := #[.slice (some ⟨gc, 0, none⟩) 2 cc]) rfl (by kernel_rfl) (by decide) (R.opened (j := 80) rfl f94) (by simp [f95.ev]) (by kernel_rfl) (hB.text _) F.lt ?_
 rintro e w ⟨rfl, hB⟩
 refine ⟨_, rfl, hB, fun a' N => ?_⟩
 have F := F.next N
 have f94 := N.keep 94 _ (by decide) f94
 have f96 := N.got
 clear N
 refine Chain.value R (k := 83) (v := .bool true) rfl (by kernel_rfl) (by decide) (R.opened (j := 80) rfl f94) hB (fun _ => Chain.ev_eql_str f96.ev rfl rfl) F.lt fun a' N => ?_
 have F := F.next N
 have f94 := N.keep 94 _ (by decide) f94
 have f97 := N.got
 clear N
 refine Chain.vl R 84 (.bool true) rfl hB (fun _ => Chain.ev_pick f94.ev f97.ev) F.lt fun a' N => ?_
 have F := F.next N
 have f98 := N.got
 clear N
 refine Chain.vl R 85 (.bool true) rfl hB (fun _ => Chain.ev_move f98.ev) F.lt fun a' N => ?_
 have F := F.next N
 have f99 := N.got
 clear N
 exact h _ _ F f99 hB
set_option maxRecDepth 8000 in
theorem begun_c16 {Q : Exit → Act → World → Prop} (R : Chain.Reg ops begL 101) (hns : Region.noSelect ops = true) (hf : ∀ k, k = 86 ∨ k = 87 ∨ k = 88 → Region.free .any ops (Chain.done 101 k) k = true) (hQ : Ord.HQ Q) (a : Act) (w : World) (F : BF w0.heap.size gb gl gc cb cl cc ca Aa a) (f99 : Chain.At a 99 (.bool true)) (hB : BB w0 gb gl gc w)
  (h : ∀ a w, BF w0.heap.size gb gl gc cb cl cc ca Aa a → Chain.At a 109 (.bool true) → BB w0 gb gl gc w → wpAnyH Tryz.prog .any ops Q (BB w0 gb gl gc) 5 (Chain.done 101 96) a w) : wpAnyH Tryz.prog .any ops Q (BB w0 gb gl gc) 15 (Chain.done 101 86) a w := by
 refine Chain.take R (k := 86) (v := .slice (some ⟨gc, 0, none⟩) 2 cc) rfl (by kernel_rfl) (by decide) hns (hf 86 (by omega)) hQ (R.opened (j := 85) rfl f99) hB (fun w _ hB => Chain.ev_move F.s5.ev) F.lt fun a' N => ?_
 have F := F.next N
 have f99 := N.keep 99 _ (by decide) f99
 have f100 := N.got
 clear N
 refine Chain.take R (k := 87) (v := .pointer (some ⟨gc, 0, none⟩)) rfl (by kernel_rfl) (by decide) hns (hf 87 (by omega)) hQ (R.opened (j := 85) rfl f99) hB (fun w _ hB => by have e := f100; unfold Chain.At at e; go_simp) F.lt fun a' N => ?_
 have F := F.next N
 have f99 := N.keep 99 _ (by decide) f99
 have f101 := N.got
 clear N
 refine Chain.take R (k := 88) (v := .agg #[.int .i32 20013, .int .i64 2, .int .i64 3]) rfl (by kernel_rfl) (by decide) hns (hf 88 (by omega)) hQ (R.opened (j := 85) rfl f99) hB (fun w _ hB => by have e := f101; unfold Chain.At at e; have c0 := hB.beg.c 0 _ rfl; have c1 := hB.beg.c 1 _ rfl; have c2 := hB.beg.c 2 _ rfl; go_simp) F.lt fun a' N => ?_
 have F := F.next N
 have f99 := N.keep 99 _ (by decide) f99
 have f102 := N.got
 clear N
 refine Chain.call R (k := 89) (args := #[]) rfl (by kernel_rfl) (by decide) (R.opened (j := 85) rfl f99) (by simp) (by kernel_rfl) (hB.blank) F.lt ?_
 rintro e w ⟨rfl, hB⟩
 refine ⟨_, rfl, hB, fun a' N => ?_⟩
 have F := F.next N
 have f99 := N.keep 99 _ (by decide) f99
 have f102 := N.keep 102 _ (by decide) f102
 have f103 := N.got
 clear N
 refine Chain.value R (k := 90) (v := .slice (some ⟨w.heap.size, 0, none⟩) 2 2) (w1 := (w.alloc (.cells #[.int .i32 20013, .int .i64 2, .int .i64 3, .int .i32 32, .int .i64 1, .int .i64 0] 33))) rfl (by kernel_rfl) (by decide) (R.opened (j := 85) rfl f99) (hB.step ((Below.refl _ _).alloc (Nat.le_refl _) _)) (fun _ => by have e := f102; have e2 := f103; unfold Chain.At at e e2; go_simp) F.lt fun a' N => ?_
 have hB0 := hB
 have F := F.next N
 have f99 := N.keep 99 _ (by decide) f99
 have f104 := N.got
 clear N
 refine Chain.call R (k := 91) (args := #[.slice (some ⟨w.heap.size, 0, none⟩) 2 2]) rfl (by kernel_rfl) (by decide) (R.opened (j := 85) rfl f99) (by simp [f104.ev]) (by kernel_rfl) (hB0.trim) F.lt ?_
 rintro e w ⟨⟨At, ct, rfl⟩, hB⟩
 refine ⟨_, rfl, hB, fun a' N => ?_⟩
 have F := F.next N
 have f99 := N.keep 99 _ (by decide) f99
 have f105 := N.got
 clear N
 refine Chain.value R (k := 92) (v := .int .i64 1) rfl (by kernel_rfl) (by decide) (R.opened (j := 85) rfl f99) hB (fun _ => Chain.ev_len Tryz.underlying22 f105.ev) F.lt fun a' N => ?_
 have F := F.next N
 have f99 := N.keep 99 _ (by decide) f99
 have f106 := N.got
 clear N
 refine Chain.value R (k := 93) (v := .bool true) rfl (by kernel_rfl) (by decide) (R.opened (j := 85) rfl f99) hB (fun _ => Chain.ev_eql_int f106.ev rfl rfl) F.lt fun a' N => ?_
 have F := F.next N
 have f99 := N.keep 99 _ (by decide) f99
 have f107 := N.got
 clear N
 refine Chain.vl R 94 (.bool true) rfl hB (fun _ => Chain.ev_pick f99.ev f107.ev) F.lt fun a' N => ?_
 have F := F.next N
 have f108 := N.got
 clear N
 refine Chain.vl R 95 (.bool true) rfl hB (fun _ => Chain.ev_move f108.ev) F.lt fun a' N => ?_
 have F := F.next N
 have f109 := N.got
 clear N
 exact h _ _ F f109 hB
set_option maxRecDepth 8000 in
theorem begun_c17 {Q : Exit → Act → World → Prop} (R : Chain.Reg ops begL 101) (hcc : 2 ≤ cc) (a : Act) (w : World) (F : BF w0.heap.size gb gl gc cb cl cc ca Aa a) (f109 : Chain.At a 109 (.bool true)) (hB : BB w0 gb gl gc w)
  (h : ∀ a w, Chain.At a 0 (.bool true) → a.defers = [] → BB w0 gb gl gc w → Q .normal a w) : wpAnyH Tryz.prog .any ops Q (BB w0 gb gl gc) 5 (Chain.done 101 96) a w := by
 refine Chain.value R (k := 96) (v := .slice (some ⟨gc, 0, none⟩) 2 cc) rfl (by kernel_rfl) (by decide) (R.opened (j := 95) rfl f109) hB (fun _ => Chain.ev_move F.s5.ev) F.lt fun a' N => ?_
 have F := F.next N
 have f109 := N.keep 109 _ (by decide) f109
 have f110 := N.got
 clear N
 refine Chain.value R (k := 97) (v := .slice (some ⟨gc, 0, none⟩) 1 cc) rfl (by kernel_rfl) (by decide) (R.opened (j := 95) rfl f109) hB (fun _ => by have e := f110; unfold Chain.At at e; have s := fun w => slice_head w gc cc hcc; go_simp) F.lt fun a' N => ?_
 have F := F.next N
 have f109 := N.keep 109 _ (by decide) f109
 have f111 := N.got
 clear N
 refine Chain.call R (k := 98) (args := #[.slice (some ⟨gc, 0, none⟩) 1 cc]) rfl (by kernel_rfl) (by decide) (R.opened (j := 95) rfl f109) (by simp [f111.ev]) (by kernel_rfl) (hB.line _) F.lt ?_
 rintro e w ⟨rfl, hB⟩
 refine ⟨_, rfl, hB, fun a' N => ?_⟩
 have F := F.next N
 have f109 := N.keep 109 _ (by decide) f109
 have f112 := N.got
 clear N
 refine Chain.vl R 99 (.bool true) rfl hB (fun _ => Chain.ev_pick f109.ev f112.ev) F.lt fun a' N => ?_
 have F := F.next N
 have f113 := N.got
 clear N
 refine Chain.vl R 100 (.bool true) rfl hB (fun _ => Chain.ev_assign f113.ev) F.lt fun a' N => ?_
 have f0 := N.got
 exact Chain.finish R (by kernel_rfl) (h _ _ f0 (N.defers.trans F.defers) hB)
theorem begun_region {Q : Exit → Act → World → Prop} (R : Chain.Reg ops begL 101) (hns : Region.noSelect ops = true) (hf : ∀ k, k = 86 ∨ k = 87 ∨ k = 88 → Region.free .any ops (Chain.done 101 k) k = true) (hQ : Ord.HQ Q) (hcc : 2 ≤ cc) (a : Act) (w : World) (F : BF w0.heap.size gb gl gc cb cl cc ca Aa a) (hB : BB w0 gb gl gc w)
  (h : ∀ a w, Chain.At a 0 (.bool true) → a.defers = [] → BB w0 gb gl gc w → Q .normal a w) : (Code.region 6 ops true).wp Tryz.prog Q a w := by
 refine Chain.start R (by kernel_rfl) hB.drew ?_
 refine begun_c0 R _ _ F hB.drew fun a w F f hB => ?_
 refine begun_c1 R _ _ F f hB fun a w F f hB => ?_
 refine begun_c2 R _ _ F f hB fun a w F f hB => ?_
 refine begun_c3 R _ _ F f hB fun a w F f hB => ?_
 refine begun_c4 R _ _ F f hB fun a w F f hB => ?_
 refine begun_c5 R _ _ F f hB fun a w F f hB => ?_
 refine begun_c6 R _ _ F f hB fun a w F f hB => ?_
 refine begun_c7 R _ _ F f hB fun a w F f hB => ?_
 refine begun_c8 R _ _ F f hB fun a w F f hB => ?_
 refine begun_c9 R _ _ F f hB fun a w F f hB => ?_
 refine begun_c10 R _ _ F f hB fun a w F f hB => ?_
 refine begun_c11 R _ _ F f hB fun a w F f hB => ?_
 refine begun_c12 R _ _ F f hB fun a w F f hB => ?_
 refine begun_c13 R _ _ F f hB fun a w F f hB => ?_
 refine begun_c14 R _ _ F f hB fun a w F f hB => ?_
 refine begun_c15 R _ _ F f hB fun a w F f hB => ?_
 refine begun_c16 R hns hf hQ _ _ F f hB fun a w F f hB => ?_
 exact begun_c17 R hcc _ _ F f hB h
