import Derived.Test.YteemnmalikomgaaGreatDoorQSaBase0
import Derived.Laws.Cover4
import Derived.Carry
import Derived.ChangeOld
import Derived.Deep.QuietTactic
import Derived.BigQuiet
import Derived.Test.YteemnmalikomgaaGreatDoorCards
import Derived.Test.YteemnmalikomgaaGreatDoorTie
import Derived.ClosedOfChecked
set_option maxRecDepth 100000
set_option maxHeartbeats 800000
namespace Go.Proofs.YteemnmalikomgaaGreatDoor
open Go.ChangeShapes Go.WideShapes Go.ChangeAt Go.RowKit
theorem mayAttr_yes (a : Int) (h0 : 0 ≤ a) (h1 : a ≤ 255) (w : World) : Calls Tryz.prog 160 #[.int .i64 a] w fun e w' => e = .returned (.bool true) ∧ w = w' := by
 go_enter Tryz.func160, Tryz.ntmps160
 go_wp2
 go_ret
 exact ⟨rfl, rfl⟩
def hasB (r n a : Int) : Bool := (n == 1 || n == 2) && !(isB 0 r n a)
def flat : List (Int × Int × Int) → List Value
 | [] => []
 | c :: l => .int .i32 c.1 :: .int .i64 c.2.1 :: .int .i64 c.2.2 :: flat l
theorem flat_length (l : List (Int × Int × Int)) : (flat l).length = l.length * 3 := by
 induction l with
 | nil => rfl
 | cons c l ih => simp only [flat, List.length_cons, ih]; omega
def HasC (w : World) (base : Nat) (v : Value) (l : List (Int × Int × Int)) : Prop := w.ownsRow base 76 3 v l.length (flat l)
theorem may_half (a : Int) (h0 : 0 ≤ a) (h1 : a ≤ 255) (w : World) : Calls Tryz.prog 109 #[cellV 0 0 a] w fun e w' => e = .returned (.bool true) ∧ Below w.heap.size w w' := by
 go_enter Tryz.func109, Tryz.ntmps109
 go_wp2_with (go_at_call 160; refine (mayAttr_yes a h0 h1 _).mono ?_; rintro e w' ⟨rfl, rfl⟩)
 go_ret
 exact ⟨rfl, (Below.refl _ _).alloc (Nat.le_refl _) _⟩
structure Good (c : Int × Int × Int) : Prop where
 sign : -2147483648 ≤ c.1 ∧ c.1 ≤ 2147483647
 wide : wof c.1 = c.2.1
 two : c.2.1 = 1 ∨ c.2.1 = 2
 attr : 0 ≤ c.2.2 ∧ c.2.2 ≤ 255
theorem Good.has {c : Int × Int × Int} (h : Good c) : hasB c.1 c.2.1 c.2.2 = true := by
 have h0 : c.1 ≠ 0 := fun e => by
  have := h.wide; rw [e] at this
  rcases h.two with k | k <;> rw [k] at this <;> exact absurd this (by decide)
 have hb : (c.1 == 0) = false := by simpa using h0
 rcases h.two with k | k <;> simp [hasB, isB, hb, k]
theorem Sq.three {w : World} {B n : Nat} {A : Option Addr} {l : List (Int × Int × Int)} (h : Sq w B 3 n A (flat l)) {i : Nat} (hi : i < n) :
  ∃ b off, A = some ⟨b, off, none⟩ ∧ b < B ∧ ∃ c, l[i]? = some c ∧ w.cell? ⟨b, off + i * 3, none⟩ = some (.int .i32 c.1) ∧ w.cell? ⟨b, off + i * 3 + 1, none⟩ = some (.int .i64 c.2.1) ∧ w.cell? ⟨b, off + i * 3 + 2, none⟩ = some (.int .i64 c.2.2) := by
 obtain ⟨b, off, e, hb, hc⟩ := h.spot (by omega)
 have hl : i < l.length := by have := h.len; rw [flat_length] at this; omega
 have key : ∀ (l : List (Int × Int × Int)) (i : Nat) (hl : i < l.length), (flat l)[i * 3]? = some (.int .i32 (l[i]'hl).1) ∧ (flat l)[i * 3 + 1]? = some (.int .i64 (l[i]'hl).2.1) ∧ (flat l)[i * 3 + 2]? = some (.int .i64 (l[i]'hl).2.2) := by
  intro l
  induction l with
  | nil => intro i hl; simp at hl
  | cons c l ih =>
   intro i hl
   cases i with
   | zero => exact ⟨rfl, rfl, rfl⟩
   | succ i =>
    have := ih i (by simpa using hl)
    have e : (i + 1) * 3 = i * 3 + 1 + 1 + 1 := by omega
    rw [e]
    simpa [flat] using this
 obtain ⟨k0, k1, k2⟩ := key l i hl
 exact ⟨b, off, e, hb, l[i], List.getElem?_eq_getElem hl, hc _ _ k0, hc _ _ k1, hc _ _ k2⟩
theorem take_one {α : Type} {l : List α} {k : Nat} {c : α} (h : l[k]? = some c) : l.take (k + 1) = l.take k ++ [c] := by
 obtain ⟨hk, rfl⟩ := List.getElem?_eq_some_iff.1 h
 exact List.take_succ_eq_append_getElem hk
theorem infoCell : (Tryz.prog.info? 76).map (fun i => (i.zero, i.size, i.bytes)) = some (some (.agg #[.int .i32 0, .int .i64 0, .int .i64 0]), 3, 24) := by kernel_rfl
theorem add_at (b off j : Nat) : (⟨b, off, none⟩ : Addr).add j = ⟨b, off + j, none⟩ := by unfold Addr.add; split <;> simp_all
theorem flat_take (l : List (Int × Int × Int)) (k : Nat) : flat (l.take k) = (flat l).take (k * 3) := by
 induction l generalizing k with
 | nil => simp [flat]
 | cons c l ih =>
  cases k with
  | zero => simp [flat]
  | succ k =>
   have e : (k + 1) * 3 = k * 3 + 1 + 1 + 1 := by omega
   rw [e]
   simp [flat, ih]
theorem flat_one (l : List (Int × Int × Int)) : ∀ u ∈ flat l, u.oneCell' = true := by
 induction l with
 | nil => intro u hu; simp [flat] at hu
 | cons c l ih =>
  intro u hu
  simp only [flat, List.mem_cons] at hu
  rcases hu with rfl | rfl | rfl | hu
  ·rfl
  ·rfl
  ·rfl
  ·exact ih u hu
def theL : List Int := [97, 65533, 20013]
def theC : List (Int × Int × Int) := [(20013, 2, 3), (0, 0, 3)]
structure Beg (N gb gl gc : Nat) (w : World) : Prop where
 sp : Spans w
 rd : Rd w N st0
 b0 : w.cell? ⟨gb, 0, none⟩ = some (.int .i32 233)
 l : ∀ j u, (theL.map (Value.int .i32))[j]? = some u → w.cell? ⟨gl, j, none⟩ = some u
 c : ∀ j u, (flat theC)[j]? = some u → w.cell? ⟨gc, j, none⟩ = some u
 gb : gb < w.heap.size
 gl : gl < w.heap.size
 gc : gc < w.heap.size
theorem Beg.below {N gb gl gc : Nat} {w w' : World} (h : Beg N gb gl gc w) (hb : Below w.heap.size w w') : Beg N gb gl gc w' :=
 ⟨h.sp.below hb h.sp.size, ⟨(hb.block N h.rd.lt).trans h.rd.row, h.rd.ok⟩, (hb.cell (p := ⟨gb, 0, none⟩) h.gb).trans h.b0, fun j u hu => (hb.cell (p := ⟨gl, j, none⟩) h.gl).trans (h.l j u hu),
  fun j u hu => (hb.cell (p := ⟨gc, j, none⟩) h.gc).trans (h.c j u hu), Nat.lt_of_lt_of_le h.gb hb.size, Nat.lt_of_lt_of_le h.gl hb.size, Nat.lt_of_lt_of_le h.gc hb.size⟩
theorem add_zero (p : Addr) : p.add 0 = p := by unfold Addr.add; split <;> simp_all
structure BB (w0 : World) (gb gl gc : Nat) (w : World) : Prop where
 beg : Beg w0.heap.size gb gl gc w
 old : Below w0.heap.size w0 w
namespace BB
variable {w0 : World} {gb gl gc : Nat} {w w' : World}
theorem step (h : BB w0 gb gl gc w) (hb : Below w.heap.size w w') : BB w0 gb gl gc w' := ⟨h.beg.below hb, h.old.trans (hb.mono h.old.size)⟩
theorem may (h : BB w0 gb gl gc w) : Calls Tryz.prog 109 #[cellV 0 0 3] w fun e w' => e = .returned (.bool true) ∧ BB w0 gb gl gc w' := (may_half 3 (by omega) (by omega) w).mono fun _ _ ⟨e, b⟩ => ⟨e, h.step b⟩
end BB
theorem laidOut : laidOutB Tryz.prog = true := by kernel_rfl
theorem cellsCell : Tryz.prog.cellsOf 76 = 3 := by kernel_rfl
theorem cellsR : Tryz.prog.cellsOf 21 = 1 := by kernel_rfl
theorem cellsI : Tryz.prog.cellsOf 3 = 1 := by kernel_rfl
section
variable {H : Type} {enc : TypeId × Value → H} {W W' : World}
theorem wf_i32 {x : Int} (h : (Lit.int .i32 x).wf = true) : -2147483648 ≤ x ∧ x ≤ 2147483647 := by
 simpa [Lit.wf, IntKind.min, IntKind.max, IntKind.signed, IntKind.bits] using h
theorem exists_list {α : Type} {n : Nat} {P : Nat → α → Prop} (h : ∀ i, i < n → ∃ t, P i t) : ∃ l : List α, l.length = n ∧ ∀ (i : Nat) (hi : i < l.length), P i l[i] := by
 induction n with
 | zero => exact ⟨[], rfl, fun i hi => absurd hi (Nat.not_lt_zero i)⟩
 | succ n ih =>
  obtain ⟨l, hl, hp⟩ := ih fun i hi => h i (by omega)
  obtain ⟨t, ht⟩ := h n (by omega)
  refine ⟨l ++ [t], by simp [hl], fun i hi => ?_⟩
  by_cases hi' : i < l.length
  ·rw [List.getElem_append_left hi']; exact hp i hi'
  ·have e : i = l.length := by simp at hi; omega
   subst e
   simp [hl, ht]
theorem flat_at (l : List (Int × Int × Int)) : ∀ (j : Nat) (u : Value), (flat l)[j]? = some u → ∃ (i : Nat) (hi : i < l.length), (j = i * 3 ∧ u = .int .i32 l[i].1) ∨ (j = i * 3 + 1 ∧ u = .int .i64 l[i].2.1) ∨ (j = i * 3 + 2 ∧ u = .int .i64 l[i].2.2) := by
 induction l with
 | nil => intro j u h; simp [flat] at h
 | cons c l ih =>
  intro j u h
  match j, h with
  | 0, h => simp [flat] at h; exact ⟨0, by simp, .inl ⟨rfl, h.symm⟩⟩
  | 1, h => simp [flat] at h; exact ⟨0, by simp, .inr (.inl ⟨rfl, h.symm⟩)⟩
  | 2, h => simp [flat] at h; exact ⟨0, by simp, .inr (.inr ⟨rfl, h.symm⟩)⟩
  | j + 3, h =>
   obtain ⟨i, hi, hh⟩ := ih j u (by simpa [flat] using h)
   refine ⟨i + 1, by simpa using hi, ?_⟩
   simp only [List.getElem_cons_succ]
   rcases hh with ⟨e, k⟩ | ⟨e, k⟩ | ⟨e, k⟩
   ·exact .inl ⟨by omega, k⟩
   ·exact .inr (.inl ⟨by omega, k⟩)
   ·exact .inr (.inr ⟨by omega, k⟩)
theorem cell_parts {w : World} {base : Nat} {sp : Nat → Bool} {held : Bool} {fuel : Nat} {cs : List Value} {x : DataW H × List MemPlace}
  (h : DataW.trod enc Tryz.prog w base sp held fuel 76 cs = some x) : ∃ r n a, cs = [.int .i32 r, .int .i64 n, .int .i64 a] ∧ -2147483648 ≤ r ∧ r ≤ 2147483647 := by
 obtain ⟨xs, m, rfl, rfl, hl, hn, hf⟩ := DataW.trod_struct Tryz.underlying76 h
 rw [cellsCell] at hl
 match cs, hl with
 | [c0, c1, c2], _ =>
  have f0 : DataW.trod enc Tryz.prog w base sp held m 21 [c0] = xs[0]? := by have := hf 0 _ rfl; simpa [cellsR] using this
  have f1 : DataW.trod enc Tryz.prog w base sp held m 3 [c1] = xs[1]? := by have := hf 1 _ rfl; simpa [cellsI] using this
  have f2 : DataW.trod enc Tryz.prog w base sp held m 3 [c2] = xs[2]? := by have := hf 2 _ rfl; simpa [cellsI] using this
  match xs, hn with
  | [x0, x1, x2], _ =>
   simp only [List.getElem?_cons_zero, List.getElem?_cons_succ] at f0 f1 f2
   obtain ⟨z0, e0, _, wz⟩ := DataW.trod_int Tryz.underlying21 f0
   obtain ⟨z1, e1, _, _⟩ := DataW.trod_int Tryz.underlying3 f1
   obtain ⟨z2, e2, _, _⟩ := DataW.trod_int Tryz.underlying3 f2
   simp at e0 e1 e2
   have hz := wf_i32 wz
   exact ⟨z0, z1, z2, by rw [e0, e1, e2], hz.1, hz.2⟩
theorem trodAll_below (hb : Below W.heap.size W W') : ∀ {ts : List TypeId} {vs : List Value} {ds : List (DataW H)} {ps : List MemPlace}, (ts.all fun t => Tryz.prog.readableRec t && decide (t < Tryz.prog.types.size)) = true →
  DataW.TrodAll enc Tryz.prog W 0 (fun _ => true) true ts vs ds ps → DataW.TrodAll enc Tryz.prog W' 0 (fun b => decide (b < W.heap.size)) true ts vs ds ps := by
 intro ts
 induction ts with
 | nil =>
  intro vs ds ps _ h
  obtain ⟨rfl, rfl, rfl⟩ := trodAll_nil h
  exact trodAll_mk0
 | cons t ts ih =>
  intro vs ds ps ht h
  have hlt := DataW.TrodAll.lt h
  simp only [List.all_cons, Bool.and_eq_true, decide_eq_true_eq] at ht
  obtain ⟨v, vs', d, ds', p, q, rfl, rfl, rfl, h0, hr⟩ := trodAll_cons h
  exact trodAll_cons_mk (Below.trod laidOut ht.1.1 ht.1.2 h0 hb (fun x hx => hlt x (List.mem_append_left _ hx))) (ih ht.2 hr)
theorem close {s : ChangeSpec} {f : Func} {args : Array Value} {ds gs : List (DataW H)} {before : List MemPlace} (hv : s.vars = [])
  (hW : DataW.Whole enc Tryz.prog f.params.toList s.vars false W args.toList ds gs before) (hfn : (s.fn H (ds ++ [])).results = [.lit (.bool true)] ∧ (s.fn H (ds ++ [])).args = ds ∧ (s.fn H (ds ++ [])).vars = []) (hres : f.resultTypes = #[4])
  (hts : (f.params.toList.all fun t => Tryz.prog.readableRec t && decide (t < Tryz.prog.types.size)) = true) (hb : Below W.heap.size W W') :
  s.post enc Tryz.prog f false true false false W args (.bool true) W' := by
 have hW' := hW
 obtain ⟨p, q, hA, hV, rfl, _, _⟩ := hW
 rw [hv] at hV
 obtain ⟨rfl, rfl⟩ := trodVars_none hV
 obtain ⟨h1, h2, h3⟩ := hfn
 refine ⟨ds, [], p ++ [], [], p, [], hW', ?_, ?_, ?_, hb.frame _, fun h => by cases h⟩
 ·rw [h1, hres]
  exact trodAll_cons_mk (shut_bool Tryz.underlying4 _) trodAll_mk0
 ·rw [h2]
  exact trodAll_below hb hts hA
 ·rw [h3, hv]
  rfl
end
section
variable {H : Type} {enc : TypeId × Value → H} {W W' : World}
end
end Go.Proofs.YteemnmalikomgaaGreatDoor
namespace Go.Proofs.YteemnmalikomgaaGreatDoor
/-! How long a number is. -/
/-! Runs of alike things. -/
section
variable {C : Type} [DecidableEq C]
end
end Go.Proofs.YteemnmalikomgaaGreatDoor
namespace Go.Proofs.YteemnmalikomgaaGreatDoor
abbrev Cel := Int × Int × Int
/-! Which rows may be. -/
def mayB (c : Cel) : Bool := decide (0 ≤ c.2.2) && decide (c.2.2 ≤ 255) && (c == (0, 1, 0) || (c.2.1 == 0 && c.1 == 0) || (decide (0 < c.2.1) && c.2.1 == wof c.1))
def mayGo : Cel → List Cel → Bool
 | p, [] => !(p.2.1 == 2)
 | p, c :: l => mayB c && ((p.2.1 == 2) == (c.2.1 == 0)) && (!(c.2.1 == 0) || c.2.2 == p.2.2) && mayGo c l
def mayL (l : List Cel) : Bool := decide (l.length ≤ 300) && mayGo (32, 1, 0) l
end Go.Proofs.YteemnmalikomgaaGreatDoor
namespace Go.Proofs.YteemnmalikomgaaGreatDoor
section
variable {C : Type}
variable [DecidableEq C]
end
end Go.Proofs.YteemnmalikomgaaGreatDoor
namespace Go.Proofs.YteemnmalikomgaaGreatDoor
open Go.ChangeShapes Go.WideShapes Go.ChangeAt Go.RowKit
theorem mayB_out {r n a : Int} (h : a < 0 ∨ 255 < a) : mayB (r, n, a) = false := by
 unfold mayB
 rcases h with h | h
 ·simp [show ¬ 0 ≤ a by omega]
 ·simp [show ¬ a ≤ 255 by omega]
theorem mayB_half {r a : Int} (h0 : 0 ≤ a) (h1 : a ≤ 255) : mayB (r, 0, a) = (r == 0) := by
 unfold mayB
 simp [h0, h1]
theorem mayB_sign {r n a : Int} (h0 : 0 ≤ a) (h1 : a ≤ 255) (hn : n ≠ 0) : mayB (r, n, a) = ((wof r == n) || isB 0 r n a) := by
 have hw := wof_range r
 have e : (decide (0 < n) && n == wof r) = (wof r == n) := by
  rw [Bool.eq_iff_iff]
  simp only [Bool.and_eq_true, decide_eq_true_eq, beq_iff_eq]
  omega
 have e2 : ((r, n, a) == ((0 : Int), (1 : Int), (0 : Int))) = isB 0 r n a := by
  unfold isB
  rw [Bool.eq_iff_iff]
  simp only [Bool.and_eq_true, beq_iff_eq, Prod.mk.injEq, and_assoc]
 unfold mayB
 simp only [h0, h1, decide_true, Bool.true_and, e, e2, show (n == 0) = false by simpa using hn, Bool.false_and, Bool.or_false]
 exact Bool.or_comm _ _
theorem cellsSl : Tryz.prog.cellsOf 68 = 1 := by kernel_rfl
theorem flatMap_at {α : Type} (f : α → List Value) (s : Nat) (hs : ∀ x, (f x).length = s) : ∀ (l : List α) (j : Nat) (u : Value), (l.flatMap f)[j]? = some u → ∃ (i : Nat) (hi : i < l.length) (k : Nat), j = i * s + k ∧ (f l[i])[k]? = some u
 | [], j, u, h => by simp at h
 | x :: l, j, u, h => by
  rw [List.flatMap_cons, List.getElem?_append] at h
  split at h
  ·exact ⟨0, by simp, j, by omega, h⟩
  ·rename_i hj
   rw [hs] at h hj
   obtain ⟨i, hi, k, e, hk⟩ := flatMap_at f s hs l _ u h
   refine ⟨i + 1, by simpa using hi, k, ?_, hk⟩
   rw [Nat.succ_mul]
   omega
theorem flatMap_len {α : Type} (f : α → List Value) (s : Nat) (hs : ∀ x, (f x).length = s) : ∀ (l : List α), (l.flatMap f).length = l.length * s
 | [] => by simp
 | x :: l => by rw [List.flatMap_cons, List.length_append, hs, flatMap_len f s hs l, List.length_cons, Nat.succ_mul, Nat.add_comm]
theorem sq_of_each {α : Type} (f : α → List Value) (s : Nat) (hs : ∀ x, (f x).length = s) (hs0 : 0 < s) {W : World} {a : Addr} {l : List α} {len : Nat} (hl : l.length = len)
  (h : ∀ (i : Nat) (hi : i < l.length) (k : Nat) (u : Value), (f l[i])[k]? = some u → W.cell? ((a.add (i * s)).add k) = some u) : Sq W W.heap.size s len (some a) (l.flatMap f) := by
 refine ⟨?_, fun hn => ?_⟩
 ·rw [flatMap_len f s hs, hl]
 ·have hi0 : 0 < l.length := by omega
  obtain ⟨u0, hu0⟩ : ∃ u, (f (l[0]'hi0))[0]? = some u := ⟨_, List.getElem?_eq_getElem (by rw [hs]; exact hs0)⟩
  have h0 := h 0 hi0 0 u0 hu0
  obtain ⟨b, off, spot⟩ := a
  have hspot : spot = none := by
   have := World.cell?_spot h0
   revert this
   unfold Addr.add
   simp
  subst hspot
  have hb := World.block_lt_of_cell? W _ h0
  simp only [Nat.zero_mul, add_at] at hb
  refine ⟨b, off, rfl, hb, fun j u hu => ?_⟩
  obtain ⟨i, hi, k, rfl, hk⟩ := flatMap_at f s hs l j u hu
  have := h i hi k u hk
  simp only [add_at] at this
  rw [← Nat.add_assoc]
  exact this
section
variable {H : Type} {enc : TypeId × Value → H} {w W : World} {base : Nat} {sp : Nat → Bool} {held : Bool}
theorem slice_parts {fuel : Nat} {cs : List Value} {x : DataW H × List MemPlace} (hf : DataW.trod enc Tryz.prog W base sp held fuel 68 cs = some x) :
  ∃ A n c l, cs = [.slice A n c] ∧ n ≤ c ∧ c ≤ maxLen ∧ (∀ c ∈ l, -2147483648 ≤ c.1 ∧ c.1 ≤ 2147483647) ∧ Sq W W.heap.size 3 n A (flat l) := by
 rcases DataW.trod_slice Tryz.underlying68 hf with ⟨hcs, _⟩ | ⟨a, len, cap, elems, rest, m, _, hcs, _, _, hl, hm, hlen, hel, _, _⟩
 ·exact ⟨none, 0, 0, [], hcs, Nat.le_refl _, Nat.zero_le _, (fun r h => by cases h), Sq.nothing _ _ _ _⟩
 ·have each : ∀ i, i < len → ∃ t : Int × Int × Int, (-2147483648 ≤ t.1 ∧ t.1 ≤ 2147483647) ∧ W.cell? ((a.add (i * 3)).add 0) = some (.int .i32 t.1) ∧ W.cell? ((a.add (i * 3)).add 1) = some (.int .i64 t.2.1) ∧ W.cell? ((a.add (i * 3)).add 2) = some (.int .i64 t.2.2) := by
   intro i hi
   have h1 := hel i hi
   rw [List.getElem?_eq_getElem (by omega), cellsCell, Option.bind_eq_some_iff] at h1
   obtain ⟨cs, hc, ht⟩ := h1
   obtain ⟨r, n, b, rfl, hr0, hr1⟩ := cell_parts ht
   obtain ⟨_, _, hcell⟩ := World.cells?_some hc
   exact ⟨(r, n, b), ⟨hr0, hr1⟩, hcell 0 (by omega), hcell 1 (by omega), hcell 2 (by omega)⟩
  obtain ⟨l, hll, hp⟩ := exists_list each
  refine ⟨some a, len, cap, l, hcs, hl, hm, fun t ht => ?_, ⟨by rw [flat_length, hll], fun hn => ?_⟩⟩
  ·obtain ⟨i, hi, rfl⟩ := List.mem_iff_getElem.1 ht
   exact (hp i hi).1
  ·have h0 := (hp 0 (by omega)).2.1
   obtain ⟨b, off, spot⟩ := a
   have hspot : spot = none := by
    have := World.cell?_spot h0
    revert this
    unfold Addr.add
    simp
   subst hspot
   have hb := World.block_lt_of_cell? W _ h0
   simp only [Nat.zero_mul, add_at] at hb
   refine ⟨b, off, rfl, hb, fun j u hu => ?_⟩
   obtain ⟨i, hi, hh⟩ := flat_at l j u hu
   have k := (hp i hi).2
   simp only [add_at] at k
   rcases hh with ⟨rfl, rfl⟩ | ⟨rfl, rfl⟩ | ⟨rfl, rfl⟩
   ·exact k.1
   ·rw [← Nat.add_assoc]; exact k.2.1
   ·rw [← Nat.add_assoc]; exact k.2.2
structure RowIn where
 A : Option Addr
 n : Nat
 c : Nat
 wrap : Bool
 l : List Cel
structure RowIn.Ok (W : World) (B : Nat) (x : RowIn) : Prop where
 le : x.n ≤ x.c
 cap : x.c ≤ maxLen
 signs : ∀ c ∈ x.l, -2147483648 ≤ c.1 ∧ c.1 ≤ 2147483647
 sq : Sq W B 3 x.n x.A (flat x.l)
def RowIn.vals (x : RowIn) : List Value := [.slice x.A x.n x.c, .bool x.wrap]
theorem RowIn.Ok.below {W W' : World} {B : Nat} {x : RowIn} (h : x.Ok W B) (hb : Below B W W') : x.Ok W' B := ⟨h.le, h.cap, h.signs, h.sq.below hb⟩
theorem RowIn.Ok.up {W : World} {B B' : Nat} {x : RowIn} (h : x.Ok W B) (hb : B ≤ B') : x.Ok W B' := ⟨h.le, h.cap, h.signs, h.sq.up hb⟩
end
theorem flatMap_get {α : Type} (f : α → List Value) (s : Nat) (hs : ∀ x, (f x).length = s) : ∀ (l : List α) (k : Nat) (x : α), l[k]? = some x → ∀ (j : Nat) (u : Value), (f x)[j]? = some u → (l.flatMap f)[k * s + j]? = some u
 | [], k, x, h, _, _, _ => by simp at h
 | y :: l, 0, x, h, j, u, hu => by
  simp at h
  subst h
  rw [List.flatMap_cons, Nat.zero_mul, Nat.zero_add, List.getElem?_append_left (List.getElem?_eq_some_iff.1 hu).1]
  exact hu
 | y :: l, k + 1, x, h, j, u, hu => by
  have ih := flatMap_get f s hs l k x (by simpa using h) j u hu
  rw [List.flatMap_cons, List.getElem?_append_right (by rw [hs, Nat.succ_mul]; omega), hs, show (k + 1) * s + j - s = k * s + j by rw [Nat.succ_mul]; omega]
  exact ih
theorem cellsSpot : Tryz.prog.cellsOf 58 = 3 := by kernel_rfl
section
variable {H : Type} {enc : TypeId × Value → H} {W : World} {base : Nat} {sp : Nat → Bool}
theorem spot_parts {fuel : Nat} {cs : List Value} {x : DataW H × List MemPlace} (h : DataW.trod enc Tryz.prog W base sp true fuel 58 cs = some x) : ∃ e : Int × Int × Int, cs = [.int .i64 e.1, .int .i64 e.2.1, .int .i64 e.2.2] := by
 obtain ⟨xs, m, rfl, rfl, hl, hn, hf⟩ := DataW.trod_struct Tryz.underlying58 h
 rw [cellsSpot] at hl
 match cs, hl with
 | [c0, c1, c2], _ =>
  have f0 : DataW.trod enc Tryz.prog W base sp true m 3 [c0] = xs[0]? := by have := hf 0 _ rfl; simpa [cellsI] using this
  have f1 : DataW.trod enc Tryz.prog W base sp true m 3 [c1] = xs[1]? := by have := hf 1 _ rfl; simpa [cellsI] using this
  have f2 : DataW.trod enc Tryz.prog W base sp true m 3 [c2] = xs[2]? := by have := hf 2 _ rfl; simpa [cellsI] using this
  match xs, hn with
  | [x0, x1, x2], _ =>
   simp only [List.getElem?_cons_zero, List.getElem?_cons_succ] at f0 f1 f2
   obtain ⟨z0, e0, _, w0⟩ := DataW.trod_int Tryz.underlying3 f0
   obtain ⟨z1, e1, _, w1⟩ := DataW.trod_int Tryz.underlying3 f1
   obtain ⟨z2, e2, _, w2⟩ := DataW.trod_int Tryz.underlying3 f2
   simp at e0 e1 e2
   exact ⟨(z0, z1, z2), by rw [e0, e1, e2]⟩
theorem open_onespot {v : Value} {d : DataW H} {p : List MemPlace} (hok : Value.okWide Tryz.prog W .any base 58 v) (h : DataW.Trod enc Tryz.prog W 0 (fun _ => true) true 58 v d p) :
  ∃ x : Int × Int × Int, v = .agg #[.int .i64 x.1, .int .i64 x.2.1, .int .i64 x.2.2] := by
 obtain ⟨cs, rfl, _⟩ := okWide_struct Tryz.underlying58 hok
 obtain ⟨fuel, hf⟩ := h
 obtain ⟨r, e⟩ := spot_parts hf
 refine ⟨r, ?_⟩
 simp only [Value.cells] at e
 rw [← Array.toArray_toList (xs := cs), e]
end
theorem ownNone : ownKnob Tryz.prog.godebug = none := by kernel_rfl
def spanCells : Array Value := #[.int .i32 (-2147483648), .int .i32 31, .int .i64 0, .int .i32 127, .int .i32 159, .int .i64 0, .int .i32 768, .int .i32 879, .int .i64 0, .int .i32 4352, .int .i32 4447, .int .i64 2, .int .i32 8203, .int .i32 8207, .int .i64 0, .int .i32 11904, .int .i32 12350, .int .i64 2, .int .i32 12353, .int .i32 13311, .int .i64 2, .int .i32 13312, .int .i32 19903, .int .i64 2, .int .i32 19968, .int .i32 40959, .int .i64 2, .int .i32 40960, .int .i32 42191, .int .i64 2, .int .i32 44032, .int .i32 55203, .int .i64 2, .int .i32 55296, .int .i32 57343, .int .i64 0, .int .i32 63744, .int .i32 64255, .int .i64 2, .int .i32 65024, .int .i32 65039, .int .i64 0, .int .i32 65072, .int .i32 65135, .int .i64 2, .int .i32 65280, .int .i32 65376, .int .i64 2, .int .i32 65504, .int .i32 65510, .int .i64 2, .int .i32 127744, .int .i32 128591, .int .i64 2, .int .i32 129280, .int .i32 129535, .int .i64 2, .int .i32 131072, .int .i32 262141, .int .i64 2, .int .i32 1114112, .int .i32 2147483647, .int .i64 0]
noncomputable def laidWorld (os : Os) : World :=
 {World.holding Tryz.prog os ⟨#[], #[], []⟩ with heap := (World.holding Tryz.prog os ⟨#[], #[], []⟩).heap.modify 0 fun
   | .cells _ t frozen => .cells spanCells t frozen
   | o => o }
namespace Sum
theorem and_mk {a b : Bool} (h1 : a = true) (h2 : b = true) : (a && b) = true := by rw [h1, h2]; rfl
theorem tables : laidOutB Tryz.checked.prog = true ∧ mapsRowed Tryz.checked.prog = true ∧ Tryz.checked.prog.plainKeys = true :=
 Go.ClosedOfChecked.closed_of_checked Tryz.checked (by kernel_rfl) (by kernel_rfl) (by kernel_rfl)
theorem mayEnter : Tryz.checked.prog.mayEnter = true := by kernel_rfl
theorem lifts : (Rows.findAllRow.lifted == Tryz.checked.prog.liftsFinal) = true := by kernel_rfl
theorem make : (Tryz.checked.prog.make == some Rows.findAllRow.make) = true := by kernel_rfl
end Sum
