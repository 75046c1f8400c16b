/-
  Bytes as a text, nil or not; the statements' own copy of a row. A statement that draws its order, gone through operation by operation in whatever order is convenient: quiet ones first, calls and appends one behind the other. (Over any program.) A region that draws its order: an operation that yields nothing, as the next one; two operations of which either may be the next one. A region that draws its order inside a round of a range over a function: it may be gone through by the rules for a region outside. A region that draws its order, gone through once, in every world of a class: what it reads stays there, and what it calls may make memory. The reference's Width answers what width.Of answers, for every sign.
-/
import Derived.Test.YtgmijnnhanpocaaGreatDoorQNStore0
import Derived.Test.YtgmijnnhanpocaaGreatDoorQNBase2
import Derived.Laws.IdiomStrings
import Derived.Deep.RegionLaw
import Derived.Test.YtgmijnnhanpocaaGreatDoorQNBase1
import Derived.RangeFuncCalls
import Derived.OrdersIn
import Derived.BigQuiet
import Derived.Test.YtgmijnnhanpocaaGreatDoorQNBase0
import Derived.Outline
namespace Go.Proofs.YtgmijnnhanpocaaGreatDoor
open Go.ChangeShapes Go.WideShapes Go.ChangeAt Go.RowKit
theorem HasB.sq {w : World} {base n c : Nat} {A : Option Addr} {l : List Int} (h : HasB w base (.slice A n c) l) : Sq w w.heap.size 1 n A (l.map (Value.int .u8)) := by
 obtain ⟨A', c', e⟩ := HasB.shape h
 injection e with e1 e2 e3
 subst e1 e2 e3
 exact Sq.own h
theorem run_app {P : Program} (w : World) (t ty : TypeId) (base : Nat) (e : TypeId) (i : TypeInfo) (z : Value) (size bytes : Nat) (ht : P.underlying t = some (.slice e)) (hi : P.info? e = some i) (hz : i.zero = some z)
  (hsize : i.size = size) (hby : i.bytes = bytes) (hzs : z.cells.size = size) (hsz : 0 < size) (v : Value) (n : Nat) (xs : List Value) (hown : w.ownsRow base e size v n xs)
  (A : Option Addr) (m c : Nat) (news : List Value) (B : Nat) (hq : Sq w B size m A news) (h1 : ∀ u ∈ news, u.oneCell' = true) (h63 : n + m ≤ maxLen) (hbytes : (n + m) * bytes ≤ 140737488355328) (hbase : base ≤ w.heap.size) :
  ∃ A' c' w', (Builtin.append_ #[t, t] ty #[v, .slice A m c]).run P w = .ok (.slice A' (n + m) c') w' ∧ w'.ownsRow base e size (.slice A' (n + m) c') (n + m) (xs ++ news) ∧ w.grownBy w' v.ownBlock ∧ ((Value.slice A' (n + m) c').ownBlock = v.ownBlock ∨ (Value.slice A' (n + m) c').ownBlock = some w.heap.size) := by
 have shape : ∀ {w' : World} {v' : Value} {k : Nat} {ys : List Value}, w'.ownsRow base e size v' k ys → ∃ A' c', v' = .slice A' k c' := fun h => by
  rcases h.2 with ⟨rfl, h0⟩ | ⟨g, cap, cur, rfl, _⟩
  ·rw [h0]; exact ⟨_, _, rfl⟩
  ·exact ⟨_, _, rfl⟩
 rcases A with _ | ad
 ·have hm : m = 0 := by
   rcases Nat.eq_zero_or_pos m with h0 | h0
   ·exact h0
   ·obtain ⟨_, _, e, _⟩ := hq.spot h0
    cases e
  subst hm
  have hn : news = [] := List.eq_nil_of_length_eq_zero (by have := hq.len; omega)
  subst hn
  have hrun := run_app_nil (P := P) (ty := ty) ht hi hown c
  obtain ⟨A', c', rfl⟩ := shape hown
  refine ⟨A', c', w, hrun, by simpa using hown, ⟨rfl, rfl, rfl, Nat.le_refl _, fun _ _ _ => rfl⟩, .inl rfl⟩
 ·obtain ⟨v', w', hr, h2, h3, _, h5⟩ := run_append_own_at (P := P) w base t ty e i z size bytes ht hi hz hsize hby hzs hsz v n xs hown ad m c news hq.len (fun j u hu => by
   have hj : 0 < m := by
    rcases Nat.eq_zero_or_pos m with h0 | h0
    ·subst h0
     have hn : news = [] := List.eq_nil_of_length_eq_zero (by have := hq.len; omega)
     subst hn
     simp at hu
    ·exact h0
   obtain ⟨b, off, e, _, hc⟩ := hq.spot hj
   injection e with e
   subst e
   rw [add_spot]
   exact hc j u hu) h1 h63 hbytes hbase
  obtain ⟨A', c', rfl⟩ := shape h2
  exact ⟨A', c', w', hr, h2, h3, h5⟩
theorem step_app {P : Program} {w : World} {ops : Array Oper} {o : Oper} {a : Act} {K : Act → World → Prop} {Q : Exit → Act → World → Prop} {E : Prop} (hgd : o.guard = none) (s x : Operand) (t : TypeId)
  (ho : o.op = .call { callee := .builtin .append, args := #[s, x], argTypes := #[t, t] })
  (base : Nat) (e : TypeId) (i : TypeInfo) (z : Value) (size bytes : Nat) (ht : P.underlying t = some (.slice e)) (hi : P.info? e = some i) (hz : i.zero = some z)
  (hsize : i.size = size) (hby : i.bytes = bytes) (hzs : z.cells.size = size) (hsz : 0 < size) (v : Value) (n : Nat) (xs : List Value) (hs : a.eval s = v) (hown : w.ownsRow base e size v n xs)
  (A : Option Addr) (m c : Nat) (news : List Value) (hx : a.eval x = .slice A m c) (B : Nat) (hq : Sq w B size m A news) (h1 : ∀ u ∈ news, u.oneCell' = true) (h63 : n + m ≤ maxLen) (hbytes : (n + m) * bytes ≤ 140737488355328) (hbase : base ≤ w.heap.size)
  (h : ∀ A' c' w', w'.ownsRow base e size (.slice A' (n + m) c') (n + m) (xs ++ news) → w.grownBy w' v.ownBlock → ((Value.slice A' (n + m) c').ownBlock = v.ownBlock ∨ (Value.slice A' (n + m) c').ownBlock = some w.heap.size) → K (a.put o.dst (.slice A' (n + m) c')) w') :
  if Region.wanted o (yielded ops a.tmps) = true then Oper.wp P o a w K Q else E := by
 have hw : Region.wanted o (yielded ops a.tmps) = true := by simp [Region.wanted, hgd]
 rw [if_pos hw]
 obtain ⟨A', c', w', hr, h2, h3, h4⟩ := run_app (P := P) w t o.type base e i z size bytes ht hi hz hsize hby hzs hsz v n xs hown A m c news B hq h1 h63 hbytes hbase
 unfold Oper.wp execOp
 simp only [ho, resolve, invoke, builtin, Sem.run_bind, Sem.run_pure, Result.andThen_ok, List.map_toArray, List.map_cons, List.map_nil, hs, hx, hr]
 exact h A' c' w' h2 h3 h4
def cut310 (l : List Cel) : List Cel := l.take 310
def RowPost (wrap : Bool) (l : List Cel) (w : World) (e : Ending) (w' : World) : Prop := ∃ v, e = .returned (.agg #[v, .bool wrap]) ∧ HasC w' w.heap.size v (cut310 l) ∧ Below w.heap.size w w'
set_option maxRecDepth 100000 in
set_option maxHeartbeats 3200000 in
theorem lawRow_walk (A : Option Addr) (n c : Nat) (wrap : Bool) (l : List Cel) (w : World) (hq : Sq w w.heap.size 3 n A (flat l)) (hc : n ≤ c) (hc2 : c ≤ maxLen) :
  Calls Tryz.prog 35 #[rowV A n c wrap] w fun e w' => RowPost wrap l w e w' := by
 obtain ⟨i0, hi, hz0, hz1, hz2⟩ := info_parts infoCell
 unfold maxLen at hc2
 have hln : l.length = n := by have := hq.len; rw [flat_length] at this; omega
 obtain ⟨m, hm⟩ : ∃ m : Nat, min (n : Int) 310 = (m : Int) := ⟨min n 310, by omega⟩
 have hm1 : m ≤ n := by omega
 have hm2 : m ≤ 310 := by omega
 have hm3 : m ≤ c := by omega
 have TK := Lib.hid (show l.take m = cut310 l by
  unfold cut310
  by_cases h : n ≤ 310
  ·rw [List.take_of_length_le (by omega), List.take_of_length_le (by omega)]
  ·congr 1; omega)
 have q := sq_take hq hm1
 have QM := Lib.hid q
 have ML := Lib.hid (show (l.take m).length = m by rw [List.length_take]; omega)
 clear hln hq q
 go_enter Tryz.func35, Tryz.ntmps35
 have B2 := Lib.hid (((Below.refl w.heap.size w).alloc (Nat.le_refl _) (.cells #[.slice A n c, .bool wrap] 48)).alloc (by simp) (.cells #[.slice none 0 0, .bool false] 48))
 have hb0 : ((w.alloc (.cells #[.slice A n c, .bool wrap] 48)).alloc (.cells #[.slice none 0 0, .bool false] 48)).heap[w.heap.size]? = some (.cells #[.slice A n c, .bool wrap] 48 (0, 0)) := (Below.heap_alloc _ _ _ (by simp)).trans (heap_alloc_new w _)
 have hb1 : ((w.alloc (.cells #[.slice A n c, .bool wrap] 48)).alloc (.cells #[.slice none 0 0, .bool false] 48)).heap[w.heap.size + 1]? = some (.cells #[.slice none 0 0, .bool false] 48 (0, 0)) := by
  have h := heap_alloc_new (w.alloc (.cells #[.slice A n c, .bool wrap] 48)) (.cells #[.slice none 0 0, .bool false] 48)
  rw [World.size_alloc] at h
  exact h
 have H0 := Lib.hid hb0
 have H1 := Lib.hid hb1
 have HS := Lib.hid (show ((w.alloc (.cells #[.slice A n c, .bool wrap] 48)).alloc (.cells #[.slice none 0 0, .bool false] 48)).heap.size = w.heap.size + 2 by simp)
 clear hb0 hb1
 go_wp2_with fail
 go_region_law (
  refine step_app rfl _ _ 46 rfl (w.heap.size + 2) 50 i0 (.agg #[.int .i32 0, .int .i64 0, .int .i64 0]) 3 24 Tryz.underlying46 hi hz0 hz1 hz2 rfl (by decide) (.slice none 0 0) 0 [] rfl (World.ownsRow_nil _ _ _ _) A m c (flat (l.take m)) rfl w.heap.size (QM.out.below (by first | exact B2.out | exact B2.out.drew | exact B2.out.drew.drew)) (flat_one _) (by unfold maxLen; omega) (by omega) (by first | exact Nat.le_of_eq HS.out.symm | simp) ?_
  intro A' c' w3 hown hg _
  have B3 := Lib.hid ((show Below w.heap.size w w3 from ⟨hg.os.trans B2.out.os, hg.tape.trans B2.out.tape, hg.output.trans B2.out.output, Nat.le_trans B2.out.size hg.size, fun k hk => (hg.block k (by simp; omega) (by simp [Value.ownBlock])).trans (B2.out.block k hk)⟩))
  have k0 : w3.cell? ⟨w.heap.size, 1, none⟩ = some (.bool wrap) := by rw [cell_of_row _ _ _ _ _ (0, 0) ((hg.block _ (by simp; omega) (by simp [Value.ownBlock])).trans H0.out)]; rfl
  have T0 := Lib.hid (show RowAt w3 (w.heap.size + 1) (.slice none 0 0) false from (hg.block _ (by simp) (by simp [Value.ownBlock])).trans H1.out)
  have t0 : w3.cell? ⟨w.heap.size + 1, 0, none⟩ = some (.slice none 0 0) := T0.out.get 0
  have t1 : w3.cell? ⟨w.heap.size + 1, 1, none⟩ = some (.bool false) := T0.out.get 1
  have f0 := T0.out.free 0
  have f1 := T0.out.free 1
  have OW := Lib.hid (show HasC w3 (w.heap.size + 2) (.slice A' (0 + m) c') (l.take m) by unfold HasC; rw [ML.out]; simpa using hown)
  rw [Nat.zero_add] at OW
  rw [Nat.zero_add]
  clear hown hg)
 all_goals
  have RF := RowAt.put2 T0.out (.slice A' m c') wrap
  have BF := (B3.out.setCell (p := ⟨w.heap.size + 1, 0, none⟩) (Nat.le_succ _) (.slice A' m c')).setCell (p := ⟨w.heap.size + 1, 1, none⟩) (Nat.le_succ _) (.bool wrap)
  have OF := HasC.keep (w' := (w3.setCell ⟨w.heap.size + 1, 0, none⟩ (.slice A' m c')).setCell ⟨w.heap.size + 1, 1, none⟩ (.bool wrap)) OW.out (fun j e => by
   have h := (HasC.lt OW.out j e).1
   rw [Below.heap_setCell _ _ _ _ (by show j ≠ w.heap.size + 1; omega), Below.heap_setCell _ _ _ _ (by show j ≠ w.heap.size + 1; omega)])
  go_wp2
  generalize (w3.setCell ⟨w.heap.size + 1, 0, none⟩ (.slice A' m c')).setCell ⟨w.heap.size + 1, 1, none⟩ (.bool wrap) = wz at RF BF OF ⊢
  have e0 := RF.get 0
  have e1 := RF.get 1
  exact bodyPost_ret (v := .agg #[.slice A' m c', .bool wrap]) (by simp [results, Tryz.results35, go_sem, e0, e1]) rfl ⟨.slice A' m c', rfl, by rw [← TK.out]; exact HasC.mono OF (by omega), BF⟩
end Go.Proofs.YtgmijnnhanpocaaGreatDoor
namespace Go.Proofs.YtgmijnnhanpocaaGreatDoor
open Go.ChangeShapes Go.WideShapes Go.ChangeAt Go.RowKit
namespace Ord
open Chain (exec_shape next enters run_enters)
abbrev Line := Option Tmp × Op × Option (Nat × Bool) × List Nat
def preds (l : List Edge) : List Nat := l.filterMap fun e => if Region.binds .any e then some e.on else none
def line (o : Oper) : Line := (o.dst, o.op, o.guard, preds o.after.toList)
def look (ops : Array Oper) : List Line := ops.toList.map line
def up (bs : List Bool) (L : List Line) : List Nat := (List.range L.length).filter fun j => !(bs.getD j true) && (L[j]?).elim false fun x => x.2.2.2.all fun p => bs.getD p false
section
variable {P : Program} {ops : Array Oper} {Q : Exit → Act → World → Prop} {S : World → Prop} {L : List Line}
theorem mem_up (hL : look ops = L) (bs : List Bool) (i : Nat) : i ∈ Region.ready .any ops bs.toArray ↔ i ∈ up bs L := by
  subst hL
  unfold up
  rw [mem_ready, List.mem_filter, List.mem_range]
  have hl : (look ops)[i]? = (ops[i]?).map line := by unfold look; simp
  rw [hl]
  constructor
  · rintro ⟨h1, o, ho, he⟩
    refine ⟨by unfold look; simpa using (Array.getElem?_eq_some_iff.1 ho).1, ?_⟩
    rw [ho]
    simp only [Option.map_some, Option.elim_some, Bool.and_eq_true, Bool.not_eq_true', List.all_eq_true]
    refine ⟨by simpa [Array.getD_eq_getD_getElem?] using h1, fun p hp => ?_⟩
    simp only [line, preds, List.mem_filterMap] at hp
    obtain ⟨e, hm, h⟩ := hp
    by_cases hb : Region.binds .any e = true
    · rw [if_pos hb] at h
      injection h with h
      subst h
      have := he e (by simpa using hm) hb
      simpa [Array.getD_eq_getD_getElem?] using this
    · rw [if_neg hb] at h; cases h
  · rintro ⟨_, h⟩
    cases ho : ops[i]? with
    | none => rw [ho] at h; simp at h
    | some o =>
      rw [ho] at h
      simp only [Option.map_some, Option.elim_some, Bool.and_eq_true, Bool.not_eq_true', List.all_eq_true] at h
      refine ⟨by simpa [Array.getD_eq_getD_getElem?] using h.1, o, rfl, fun e he hb => ?_⟩
      have := h.2 e.on (by
        simp only [line, preds, List.mem_filterMap]
        exact ⟨e, by simpa using he, by rw [if_pos hb]⟩)
      simpa [Array.getD_eq_getD_getElem?] using this
def looksL (L : List Line) (x : Line) : List Tmp :=
  (x.2.1.operands.toList.filterMap fun | .tmp t => some t | _ => none) ++
  (match x.2.2.1 with
   | some (g, _) => ((L[g]?).bind (·.1)).toList
   | none => [])
def apartL (L : List Line) (x y : Line) : Bool :=
  (match x.1 with
   | some d => !(looksL L y).contains d && y.1 != some d
   | none => true) &&
  (match y.1 with
   | some d => !(looksL L x).contains d
   | none => true)
def freeL (bs : List Bool) (L : List Line) (i : Nat) : Bool :=
  match L[i]? with
  | none => false
  | some x => (List.range L.length).all fun j => j == i || bs.getD j true || match L[j]? with
      | some y => y.2.2.2.contains i || apartL L x y
      | none => true
theorem looks_line (hL : look ops = L) (o : Oper) : o.looksAt ops = looksL L (line o) := by
  subst hL
  unfold Oper.looksAt looksL line
  simp only
  congr 1
  cases o.guard with
  | none => rfl
  | some p =>
    obtain ⟨g, b⟩ := p
    simp only
    have hl : (look ops)[g]? = (ops[g]?).map line := by unfold look; simp
    rw [hl]
    cases ops[g]? with
    | none => rfl
    | some o' => rfl
theorem apart_line (hL : look ops = L) (x y : Oper) : x.apart ops y = apartL L (line x) (line y) := by
  unfold Oper.apart apartL
  rw [looks_line hL, looks_line hL]
  rfl
theorem free_of (hL : look ops = L) (bs : List Bool) (i : Nat) (h : freeL bs L i = true) : Region.free .any ops bs.toArray i = true := by
  unfold freeL at h
  unfold Region.free
  have hl : ∀ j : Nat, L[j]? = (ops[j]?).map line := fun j => by subst hL; unfold look; simp
  have hsz : L.length = ops.size := by subst hL; unfold look; simp
  cases ho : ops[i]? with
  | none => rw [hl, ho] at h; simp at h
  | some oi =>
    rw [hl, ho] at h
    simp only [Option.map_some, List.all_eq_true] at h ⊢
    intro j hj
    have hj2 := h j (by rw [hsz]; exact hj)
    simp only [Bool.or_eq_true] at hj2 ⊢
    rcases hj2 with (h1 | h1) | h1
    · exact .inl (.inl h1)
    · exact .inl (.inr (by simpa [Array.getD_eq_getD_getElem?] using h1))
    · right
      rw [hl] at h1
      cases hoj : ops[j]? with
      | none => rfl
      | some oj =>
        rw [hoj] at h1
        simp only [Option.map_some, Bool.or_eq_true] at h1 ⊢
        rcases h1 with h1 | h1
        · left
          simp only [line, preds, List.contains_iff_mem, List.mem_filterMap] at h1
          obtain ⟨e, he, h2⟩ := h1
          rw [Array.any_eq_true']
          by_cases hb : Region.binds .any e = true
          · rw [if_pos hb] at h2
            injection h2 with h2
            exact ⟨e, by simpa using he, by simp [hb, h2]⟩
          · rw [if_neg hb] at h2; cases h2
        · right
          rw [apart_line hL]; exact h1
structure Reg (ops : Array Oper) (L : List Line) : Prop where
  look : look ops = L
  noSelect : Region.noSelect ops = true
theorem line_get (hL : look ops = L) {k : Nat} {d : Option Tmp} {op : Op} {g : Option (Nat × Bool)} {m : List Nat} (h : L[k]? = some (d, op, g, m)) : ∃ o, ops[k]? = some o ∧ o.dst = d ∧ o.op = op ∧ o.guard = g := by
  subst hL
  unfold look at h
  simp only [List.getElem?_map, Option.map_eq_some_iff, Array.getElem?_toList, line, Prod.mk.injEq] at h
  obtain ⟨o, ho, h1, h2, h3, _⟩ := h
  exact ⟨o, ho, h1, h2, h3⟩
theorem Reg.opened (R : Reg ops L) {a : Act} {j t : Nat} {b : Bool} {op : Op} {g : Option (Nat × Bool)} {m : List Nat} (h : L[j]? = some (some t, op, g, m)) (hat : Chain.At a t (.bool b)) : Chain.Open ops a (some (j, b)) := by
  obtain ⟨o, ho, h1, _, _⟩ := line_get R.look h
  exact ⟨t, by rw [ho]; exact h1, hat⟩
def Shut (ops : Array Oper) (a : Act) : Option (Nat × Bool) → Prop
  | none => False
  | some (j, b) => ∃ t v, ((ops[j]?).bind (·.dst)) = some t ∧ Chain.At a t v ∧ v ≠ .bool b
theorem Shut.wanted {a : Act} {o : Oper} (h : Shut ops a o.guard) : Region.wanted o (yielded ops a.tmps) = false := by
  unfold Region.wanted
  cases hg : o.guard with
  | none => rw [hg] at h; exact h.elim
  | some p =>
    obtain ⟨j, b⟩ := p
    rw [hg] at h
    obtain ⟨t, v, ht, hat, hv⟩ := h
    simp only
    cases hy : yielded ops a.tmps j with
    | none => rfl
    | some c =>
      unfold yielded at hy
      rw [ht] at hy
      unfold Chain.At at hat
      simp only [Option.bind_some, hat] at hy
      split at hy
      · rename_i b' e
        injection e with e
        injection hy with hy
        subst e hy
        cases hc : (some b' == some b)
        · rfl
        · exact absurd (by simp at hc; rw [hc]) hv
      · cases hy
theorem Reg.shut (R : Reg ops L) {a : Act} {j t : Nat} {b : Bool} {v : Value} {op : Op} {g : Option (Nat × Bool)} {m : List Nat} (h : L[j]? = some (some t, op, g, m)) (hat : Chain.At a t v) (hv : v ≠ .bool b) : Shut ops a (some (j, b)) := by
  obtain ⟨o, ho, h1, _, _⟩ := line_get R.look h
  exact ⟨t, v, by rw [ho]; exact h1, hat, hv⟩
theorem ne_not {b c : Bool} (h : (b == c) = false) : (Value.bool b) ≠ .bool c := fun e => by injection e with e; subst e; simp at h
theorem ne_undef (c : Bool) : undef ≠ Value.bool c := fun e => by unfold undef at e; cases e
def upto (k n : Nat) : List Bool := List.replicate k true ++ List.replicate (n - k) false
def okT (bs : List Bool) (L : List Line) (k : Nat) (bs' : List Bool) : Bool := (up bs L).contains k && freeL bs L k && bs.set k true == bs'
def okF (bs : List Bool) (L : List Line) (k : Nat) (bs' : List Bool) : Bool := up bs L == [k] && bs.set k true == bs'
theorem forced {bs bs' : List Bool} {i fuel : Nat} {a : Act} {w : World} (R : Reg ops L) (hok : okF bs L i bs' = true) (h : wpOp P ops Q i (fun a' w' => S w' ∧ wpAnyH P .any ops Q S fuel bs'.toArray a' w') a w) : wpAnyH P .any ops Q S (fuel + 1) bs.toArray a w := by
  simp only [okF, Bool.and_eq_true, beq_iff_eq] at hok
  obtain ⟨hr, hb⟩ := hok
  subst hb
  refine ⟨fun h0 => ?_, fun j hj => ?_⟩
  · have := (mem_up R.look bs i).2 (by rw [hr]; simp)
    rw [h0] at this
    cases this
  · have hj' := (mem_up R.look bs j).1 hj
    rw [hr] at hj'
    obtain rfl : j = i := by simpa using hj'
    rw [List.setIfInBounds_toArray]
    exact h
theorem take {bs bs' : List Bool} {k fuel d : Nat} {m : List Nat} {op : Op} {g : Option (Nat × Bool)} {v : Value} {a : Act} {w : World} (R : Reg ops L) (hs : L[k]? = some (some d, op, g, m)) (hok : okT bs L k bs' = true) (hQ : ∀ c a w d v, Q (.panic c) (Act.put a (some d) v) w → Q (.panic c) a w)
    (hg : Chain.Open ops a g) (hS : S w) (hv : ∀ w ty, S w → (execOp a.eval ⟨some d, op, ty, "", #[], none⟩).run P w = .ok (.value v) w) (hd : d < a.tmps.size)
    (h : ∀ a', Chain.Next a a' d v → wpAnyH P .any ops Q S fuel bs'.toArray a' w) : wpAnyH P .any ops Q S (fuel + 1) bs.toArray a w := by
  simp only [okT, Bool.and_eq_true, beq_iff_eq] at hok
  obtain ⟨⟨hr, hf⟩, hb⟩ := hok
  subst hb
  obtain ⟨o, ho, e1, e2, e3⟩ := line_get R.look hs
  subst e2 e3
  have hr' : (Region.ready .any ops bs.toArray).contains k = true := by
    have := (mem_up R.look bs k).2 (by simpa using hr)
    simpa using this
  refine wpAnyH_take (oi := o) (v := v) ho R.noSelect (free_of R.look bs k hf) hr' (fun c a w => by rw [e1]; exact hQ c a w d v) (.inl ⟨hg.wanted, fun w hw => ?_⟩) hS ?_
  · rw [exec_shape, e1]; exact hv w _ hw
  · rw [List.setIfInBounds_toArray, e1]; exact h _ (next hd v)
theorem skip {bs bs' : List Bool} {k fuel d : Nat} {m : List Nat} {op : Op} {g : Option (Nat × Bool)} {a : Act} {w : World} (R : Reg ops L) (hs : L[k]? = some (some d, op, g, m)) (hok : okT bs L k bs' = true) (hQ : ∀ c a w d v, Q (.panic c) (Act.put a (some d) v) w → Q (.panic c) a w)
    (hg : Shut ops a g) (hS : S w) (hd : d < a.tmps.size)
    (h : ∀ a', Chain.Next a a' d undef → wpAnyH P .any ops Q S fuel bs'.toArray a' w) : wpAnyH P .any ops Q S (fuel + 1) bs.toArray a w := by
  simp only [okT, Bool.and_eq_true, beq_iff_eq] at hok
  obtain ⟨⟨hr, hf⟩, hb⟩ := hok
  subst hb
  obtain ⟨o, ho, e1, e2, e3⟩ := line_get R.look hs
  subst e2 e3
  have hr' : (Region.ready .any ops bs.toArray).contains k = true := by
    have := (mem_up R.look bs k).2 (by simpa using hr)
    simpa using this
  refine wpAnyH_take (oi := o) (v := undef) ho R.noSelect (free_of R.look bs k hf) hr' (fun c a w => by rw [e1]; exact hQ c a w d undef) (.inr ⟨hg.wanted, rfl⟩) hS ?_
  rw [List.setIfInBounds_toArray, e1]; exact h _ (next hd undef)
theorem value {bs bs' : List Bool} {k fuel d : Nat} {m : List Nat} {op : Op} {g : Option (Nat × Bool)} {v : Value} {a : Act} {w w1 : World} (R : Reg ops L) (hs : L[k]? = some (some d, op, g, m)) (hok : okF bs L k bs' = true)
    (hg : Chain.Open ops a g) (hS : S w1) (hv : ∀ ty, (execOp a.eval ⟨some d, op, ty, "", #[], none⟩).run P w = .ok (.value v) w1) (hd : d < a.tmps.size)
    (h : ∀ a', Chain.Next a a' d v → wpAnyH P .any ops Q S fuel bs'.toArray a' w1) : wpAnyH P .any ops Q S (fuel + 1) bs.toArray a w := by
  obtain ⟨o, ho, e1, e2, e3⟩ := line_get R.look hs
  subst e2 e3
  refine forced R hok (wpOp_step ho fun K hK => ?_)
  rw [if_pos hg.wanted]
  unfold Oper.wp
  rw [exec_shape, e1, hv]
  simp only [Oper.upon, e1]
  exact hK _ _ ⟨hS, h _ (next hd v)⟩
theorem call {bs bs' : List Bool} {k fuel d f : Nat} {m : List Nat} {xs : Array Operand} {ts : Array TypeId} {args : Array Value} {g : Option (Nat × Bool)} {a : Act} {w : World} {Post : Ending → World → Prop} (R : Reg ops L)
    (hs : L[k]? = some (some d, .call { callee := .value (.func f), args := xs, argTypes := ts }, g, m)) (hok : okF bs L k bs' = true)
    (hg : Chain.Open ops a g) (ha : xs.map a.eval = args) (hf : enters P f = true) (hc : Calls P f args w Post) (hd : d < a.tmps.size)
    (h : ∀ e w', Post e w' → ∃ v, e = .returned v ∧ S w' ∧ ∀ a', Chain.Next a a' d v → wpAnyH P .any ops Q S fuel bs'.toArray a' w') : wpAnyH P .any ops Q S (fuel + 1) bs.toArray a w := by
  obtain ⟨o, ho, e1, e2, e3⟩ := line_get R.look hs
  subst e3
  refine forced R hok (wpOp_step ho fun K hK => ?_)
  rw [if_pos hg.wanted]
  unfold Oper.wp
  have he : (execOp a.eval o).run P w = .ok (.enter f args) w := by
    rw [exec_shape, e1, e2]
    subst ha
    simp [execOp, resolve, invoke, Act.eval, Deferred.ofValue, run_enters hf]
  rw [he, Oper.upon_enter]
  refine hc.mono fun e w' hp => ?_
  obtain ⟨v, rfl, hS, hw⟩ := h e w' hp
  rw [e1]
  exact hK _ _ ⟨hS, hw _ (next hd v)⟩
theorem append {bs bs' : List Bool} {k fuel d : Nat} {l : List Nat} {g : Option (Nat × Bool)} {a : Act} {w : World} (R : Reg ops L) (s x : Operand) (t : TypeId)
    (hsl : L[k]? = some (some d, .call { callee := .builtin .append, args := #[s, x], argTypes := #[t, t] }, g, l)) (hok : okF bs L k bs' = true) (hg : Chain.Open ops a g) (hd : d < a.tmps.size)
    (base : Nat) (e : TypeId) (i : TypeInfo) (z : Value) (size bytes : Nat) (ht : P.underlying t = some (.slice e)) (hi : P.info? e = some i) (hz : i.zero = some z)
    (hsize : i.size = size) (hby : i.bytes = bytes) (hzs : z.cells.size = size) (hsz : 0 < size) (v : Value) (n : Nat) (xs : List Value) (hs : a.eval s = v) (hown : w.ownsRow base e size v n xs)
    (A : Option Addr) (m c : Nat) (news : List Value) (hx : a.eval x = .slice A m c) (B : Nat) (hq : Sq w B size m A news) (h1 : ∀ u ∈ news, u.oneCell' = true) (h63 : n + m ≤ maxLen) (hbytes : (n + m) * bytes ≤ 140737488355328) (hbase : base ≤ w.heap.size)
    (h : ∀ A' c' w', w'.ownsRow base e size (.slice A' (n + m) c') (n + m) (xs ++ news) → w.grownBy w' v.ownBlock → ((Value.slice A' (n + m) c').ownBlock = v.ownBlock ∨ (Value.slice A' (n + m) c').ownBlock = some w.heap.size) → S w' ∧ ∀ a', Chain.Next a a' d (.slice A' (n + m) c') → wpAnyH P .any ops Q S fuel bs'.toArray a' w') : wpAnyH P .any ops Q S (fuel + 1) bs.toArray a w := by
  obtain ⟨o, ho, e1, e2, e3⟩ := line_get R.look hsl
  subst e3
  refine forced R hok (wpOp_step ho fun K hK => ?_)
  rw [if_pos hg.wanted]
  obtain ⟨A', c', w', hrun, h2, h3, h4⟩ := run_app (P := P) w t o.type base e i z size bytes ht hi hz hsize hby hzs hsz v n xs hown A m c news B hq h1 h63 hbytes hbase
  unfold Oper.wp execOp
  simp only [e2, resolve, invoke, builtin, Sem.run_bind, Sem.run_pure, Result.andThen_ok, List.map_toArray, List.map_cons, List.map_nil, hs, hx, hrun]
  simp only [Oper.upon, e1]
  obtain ⟨hS, hw⟩ := h A' c' w' h2 h3 h4
  exact hK _ _ ⟨hS, hw _ (next hd _)⟩
theorem frame_list {l : List Value} {n : Nat} (h : l.length = n) : l = (List.range n).map fun i => l.getD i undef := by
  subst h
  apply List.ext_getElem?
  intro i
  by_cases hi : i < l.length
  · simp [hi, List.getD]
  · simp [hi]
theorem frame_out {a : Act} {n : Nat} (hz : a.tmps.size = n) (hd : a.defers = []) : a = ⟨((List.range n).map fun i => a.tmps.toList.getD i undef).toArray, []⟩ := by
  obtain ⟨⟨l⟩, d⟩ := a
  simp only at hd hz
  subst hd
  congr 1
  exact congrArg List.toArray (frame_list (by simpa using hz))
theorem at_get {a : Act} {t : Nat} {v : Value} (h : Chain.At a t v) : a.tmps.toList.getD t undef = v := by
  unfold Chain.At at h
  rw [List.getD, Array.getElem?_toList, h]
  rfl
theorem ev_pick_yes {ρ : Operand → Value} {d : Option Tmp} {ty : TypeId} {w : World} {c x y : Operand} {v : Value} (hc : ρ c = .bool true) (h : ρ x = v) : (execOp ρ ⟨d, .pick c x y, ty, "", #[], none⟩).run P w = .ok (.value v) w := by simp [execOp, h, hc, asBool]
theorem ev_pick_no {ρ : Operand → Value} {d : Option Tmp} {ty : TypeId} {w : World} {c x y : Operand} {v : Value} (hc : ρ c = .bool false) (h : ρ y = v) : (execOp ρ ⟨d, .pick c x y, ty, "", #[], none⟩).run P w = .ok (.value v) w := by simp [execOp, h, hc, asBool]
theorem finish {bs : List Bool} {fuel : Nat} {a : Act} {w : World} (R : Reg ops L) (hr : up bs L = []) (h : Q .normal a w) : wpAnyH P .any ops Q S fuel bs.toArray a w := by
  refine wpAnyH_done (List.eq_nil_iff_forall_not_mem.2 fun i hi => ?_) h fuel
  have := (mem_up R.look bs i).1 hi
  rw [hr] at this
  cases this
theorem start {n id : Nat} {a : Act} {w : World} (hn : ops.size = n) (hm : P.follows .mixedOrders = true) (hS : S w.drew) (h : wpAnyH P .any ops Q S n (List.replicate n false).toArray a w.drew) : (Code.region id ops true).wp P Q a w := by
  refine wp_region_held_drew (S := S) hm hS fun _ => ?_
  rw [hn]
  simpa using h
end
end Ord
end Go.Proofs.YtgmijnnhanpocaaGreatDoor
namespace Go.Proofs.YtgmijnnhanpocaaGreatDoor.Ord
open Go.ChangeShapes Go.WideShapes Go.ChangeAt Go.RowKit
section
variable {P : Program} {ops : Array Oper} {L : List Line} {Q : Exit → Act → World → Prop} {S : World → Prop}
theorem effect {bs bs' : List Bool} {k fuel : Nat} {m : List Nat} {op : Op} {g : Option (Nat × Bool)} {a : Act} {w w1 : World} (R : Reg ops L) (hs : L[k]? = some (none, op, g, m)) (hok : okF bs L k bs' = true)
  (hg : Chain.Open ops a g) (hS : S w1) (hv : ∀ ty, (execOp a.eval ⟨none, op, ty, "", #[], none⟩).run P w = .ok .skip w1)
  (h : wpAnyH P .any ops Q S fuel bs'.toArray a w1) : wpAnyH P .any ops Q S (fuel + 1) bs.toArray a w := by
 obtain ⟨o, ho, e1, e2, e3⟩ := line_get R.look hs
 subst e2 e3
 refine forced R hok (wpOp_step ho fun K hK => ?_)
 rw [if_pos hg.wanted]
 unfold Oper.wp
 rw [Chain.exec_shape, e1, hv]
 simp only [Oper.upon, e1]
 exact hK _ _ ⟨hS, h⟩
def Step (P : Program) (ops : Array Oper) (Q : Exit → Act → World → Prop) (S : World → Prop) (fuel k : Nat) (bs' : List Bool) (a : Act) (w : World) : Prop := wpOp P ops Q k (fun a' w' => S w' ∧ wpAnyH P .any ops Q S fuel bs'.toArray a' w') a w
theorem either {bs bs1 bs2 : List Bool} {i j fuel : Nat} {a : Act} {w : World} (R : Reg ops L) (hr : (up bs L == [i, j] && bs.set i true == bs1 && bs.set j true == bs2) = true) (h1 : Step P ops Q S fuel i bs1 a w) (h2 : Step P ops Q S fuel j bs2 a w) : wpAnyH P .any ops Q S (fuel + 1) bs.toArray a w := by
 simp only [Bool.and_eq_true, beq_iff_eq] at hr
 obtain ⟨⟨hr, hb1⟩, hb2⟩ := hr
 subst hb1 hb2
 refine ⟨fun h0 => ?_, fun t ht => ?_⟩
 ·have := (mem_up R.look bs i).2 (by rw [hr]; simp)
  rw [h0] at this
  cases this
 ·have ht' := (mem_up R.look bs t).1 ht
  rw [hr] at ht'
  have ht2 : t = i ∨ t = j := by simpa using ht'
  rw [List.setIfInBounds_toArray]
  rcases ht2 with rfl | rfl
  ·exact h1
  ·exact h2
theorem step_value {bs' : List Bool} {k fuel d : Nat} {m : List Nat} {op : Op} {g : Option (Nat × Bool)} {v : Value} {a : Act} {w w1 : World} (R : Reg ops L) (hs : L[k]? = some (some d, op, g, m))
  (hg : Chain.Open ops a g) (hS : S w1) (hv : ∀ ty, (execOp a.eval ⟨some d, op, ty, "", #[], none⟩).run P w = .ok (.value v) w1) (hd : d < a.tmps.size)
  (h : ∀ a', Chain.Next a a' d v → wpAnyH P .any ops Q S fuel bs'.toArray a' w1) : Step P ops Q S fuel k bs' a w := by
 obtain ⟨o, ho, e1, e2, e3⟩ := line_get R.look hs
 subst e2 e3
 refine wpOp_step ho fun K hK => ?_
 rw [if_pos hg.wanted]
 unfold Oper.wp
 rw [Chain.exec_shape, e1, hv]
 simp only [Oper.upon, e1]
 exact hK _ _ ⟨hS, h _ (Chain.next hd v)⟩
theorem step_call {bs' : List Bool} {k fuel d f : Nat} {m : List Nat} {xs : Array Operand} {ts : Array TypeId} {args : Array Value} {g : Option (Nat × Bool)} {a : Act} {w : World} {Post : Ending → World → Prop} (R : Reg ops L)
  (hs : L[k]? = some (some d, .call { callee := .value (.func f), args := xs, argTypes := ts }, g, m))
  (hg : Chain.Open ops a g) (ha : xs.map a.eval = args) (hf : Chain.enters P f = true) (hc : Calls P f args w Post) (hd : d < a.tmps.size)
  (h : ∀ e w', Post e w' → ∃ v, e = .returned v ∧ S w' ∧ ∀ a', Chain.Next a a' d v → wpAnyH P .any ops Q S fuel bs'.toArray a' w') : Step P ops Q S fuel k bs' a w := by
 obtain ⟨o, ho, e1, e2, e3⟩ := line_get R.look hs
 subst e3
 refine wpOp_step ho fun K hK => ?_
 rw [if_pos hg.wanted]
 unfold Oper.wp
 have he : (execOp a.eval o).run P w = .ok (.enter f args) w := by
  rw [Chain.exec_shape, e1, e2]
  subst ha
  simp [execOp, resolve, invoke, Act.eval, Deferred.ofValue, Chain.run_enters hf]
 rw [he, Oper.upon_enter]
 refine hc.mono fun e w' hp => ?_
 obtain ⟨v, rfl, hS, hw⟩ := h e w' hp
 rw [e1]
 exact hK _ _ ⟨hS, hw _ (Chain.next hd v)⟩
end
end Go.Proofs.YtgmijnnhanpocaaGreatDoor.Ord
namespace Go.Proofs.YtgmijnnhanpocaaGreatDoor.Ord
open Go.ChangeShapes Go.WideShapes Go.ChangeAt Go.RowKit
section
variable {P : Program} {ops : Array Oper} {S : World → Prop}
def notDefer (o : Oper) : Bool := match o.op with | .defer _ => false | _ => true
theorem wp_in {Q : Exit → Act → World → Prop} {o : Oper} {a : Act} {w : World} {K : Act → World → Prop} (l k : Nat) (hd : notDefer o = true) (h : o.wp P a w K Q) : o.wpIn (Fence.wide.inRound l) k P a w K Q := by
 have hd' : ∀ c, o.op ≠ .defer c := fun c e => by unfold notDefer at hd; rw [e] at hd; cases hd
 refine ⟨fun f _ => trivial, ?_⟩
 rw [Oper.semAt_eq _ _ _ hd']
 unfold Oper.wp at h
 generalize (execOp a.eval o).run P w = r at h
 cases r with
 | ok nx w' =>
  cases nx with
  | value v => exact h
  | skip => exact h
  | defer d => exact h
  | enter f args => exact ⟨fun e => (by cases e), CallsIn.inRound l (callsIn_wide.2 h)⟩
  | row r args => exact ⟨fun e => (by cases e), fun c cs _ => let ⟨v, w2, q, s⟩ := h c cs; ⟨v, w2, q, (stepsIn_wide (P := P)).2 s⟩⟩
  | round _ _ _ _ _ => exact h.elim
  | _ => exact h.elim
 | halt x w' =>
  cases x with
  | panic v => exact h
  | _ => exact h.elim
theorem wpIn_to {F : Fence} {n : Nat} {R : Act → World → Prop} {Q : Exit → Act → World → Prop} {o : Oper} {a : Act} {w : World} {K : Act → World → Prop} (hh : o.wpIn F n P a w K (fun e a w => e = .normal ∧ R a w)) : o.wpIn F n P a w K Q := by
 unfold Oper.wpIn at *
 refine ⟨hh.1, ?_⟩
 have hh := hh.2
 generalize (o.semAt F.round a.eval).run P w = r at *
 cases r with
 | ok x w' =>
  cases x <;> simp only [Oper.uponIn] at hh ⊢ <;>
   first
    | exact hh
    | exact ⟨hh.1, CallsIn.mono hh.2 (fun e w'' he => by cases e <;> first | exact he | (cases he.1) | (obtain ⟨_, _, h0, _⟩ := he; cases h0))⟩
    | exact ⟨hh.1, RoundIn.mono hh.2 (fun e w'' he => by cases e <;> first | exact he | (cases he.1) | (obtain ⟨_, _, h0, _⟩ := he; cases h0))⟩
 | halt x w' => cases x <;> simp only [Oper.uponIn] at hh ⊢ <;> first | exact hh | cases hh.1
theorem any_in {l k : Nat} {R : Act → World → Prop} {Q : Exit → Act → World → Prop} (hp : ∀ o ∈ ops, notDefer o = true) (hQ : ∀ a w, R a w → Q .normal a w) :
  ∀ (fuel : Nat) (listed : Array Bool) (a : Act) (w : World), wpAny P .any ops (fun e a w => e = .normal ∧ R a w) fuel listed a w → wpAnyIn (Fence.wide.inRound l) k P .any ops Q fuel listed a w
 | 0, _, _, _, h => ⟨h.1, hQ _ _ h.2.2⟩
 | fuel + 1, listed, a, w, h => ⟨fun hr => hQ _ _ (h.1 hr).2, fun i hi => by
  have hs := h.2 i hi
  unfold wpOp at hs
  unfold wpOpIn
  cases ho : ops[i]? with
  | none =>
   rw [ho] at hs
   exact any_in hp hQ fuel _ a w hs
  | some o =>
   rw [ho] at hs
   simp only at hs ⊢
   have hm := hp o (Array.mem_of_getElem? ho)
   split
   ·rename_i hw
    rw [if_pos hw] at hs
    rcases hs with hs | ⟨_, _, _, hx, _⟩
    ·exact wpIn_to (wp_in l k hm (Oper.wp_mono (fun a w h => any_in hp hQ fuel _ a w h) hs))
    ·cases hx
   ·rename_i hw
    rw [if_neg hw] at hs
    exact ⟨fun _ _ => trivial, any_in hp hQ fuel _ _ w hs⟩⟩
theorem start_in {n id l k : Nat} {a : Act} {w : World} {R : Act → World → Prop} {Q : Exit → Act → World → Prop} (hn : ops.size = n) (hm : P.follows .mixedOrders = true) (hp : (ops.toList.all notDefer) = true)
  (h : wpAnyH P .any ops (fun e a w => e = .normal ∧ R a w) S n (List.replicate n false).toArray a w.drew) (hQ : ∀ a w, R a w → Q .normal a w) : (Code.region id ops true).wpIn (Fence.wide.inRound l) k P Q a w := by
 refine wpIn_region_any hm ?_
 rw [hn]
 have := any_in (l := l) (k := k) (fun o ho => List.all_eq_true.1 hp o (by simpa using ho)) hQ _ _ _ _ (wpAny_of_held _ _ _ _ h)
 simpa using this
theorem norm_hQ {R : Act → World → Prop} : ∀ (c : List PanicEntry) (a : Act) (w : World) (d : Nat) (v : Value), (fun (e : Exit) a w => e = .normal ∧ R a w) (.panic c) (Act.put a (some d) v) w → (fun (e : Exit) a w => e = .normal ∧ R a w) (.panic c) a w := fun _ _ _ _ _ h => by cases h.1
/-! A region inside a fence that lets all be called: its operations, one behind the other, where one of them hands a value to the round of a range over a function. -/
section
variable {L : List Line} {Q : Exit → Act → World → Prop} {m : Nat}
abbrev AnyI (P : Program) (ops : Array Oper) (Q : Exit → Act → World → Prop) (m fuel : Nat) (bs : List Bool) (a : Act) (w : World) : Prop := wpAnyIn Fence.wide m P .any ops Q fuel bs.toArray a w
abbrev StepI (P : Program) (ops : Array Oper) (Q : Exit → Act → World → Prop) (m fuel k : Nat) (bs' : List Bool) (a : Act) (w : World) : Prop := wpOpIn Fence.wide m P ops Q k (wpAnyIn Fence.wide m P .any ops Q fuel bs'.toArray) a w
theorem forcedI {bs bs' : List Bool} {i fuel : Nat} {a : Act} {w : World} (R : Reg ops L) (hok : okF bs L i bs' = true) (h : StepI P ops Q m fuel i bs' a w) : AnyI P ops Q m (fuel + 1) bs a w := by
 simp only [okF, Bool.and_eq_true, beq_iff_eq] at hok
 obtain ⟨hr, hb⟩ := hok
 subst hb
 refine ⟨fun h0 => ?_, fun j hj => ?_⟩
 ·have := (mem_up R.look bs i).2 (by rw [hr]; simp)
  rw [h0] at this
  cases this
 ·have hj' := (mem_up R.look bs j).1 hj
  rw [hr] at hj'
  obtain rfl := List.mem_singleton.1 hj'
  rw [List.setIfInBounds_toArray]
  exact h
theorem eitherI {bs bs1 bs2 : List Bool} {i j fuel : Nat} {a : Act} {w : World} (R : Reg ops L) (hr : (up bs L == [i, j] && bs.set i true == bs1 && bs.set j true == bs2) = true) (h1 : StepI P ops Q m fuel i bs1 a w) (h2 : StepI P ops Q m fuel j bs2 a w) : AnyI P ops Q m (fuel + 1) bs a w := by
 simp only [Bool.and_eq_true, beq_iff_eq] at hr
 obtain ⟨⟨hr, hb1⟩, hb2⟩ := hr
 subst hb1 hb2
 refine ⟨fun h0 => ?_, fun k hk => ?_⟩
 ·have := (mem_up R.look bs i).2 (by rw [hr]; simp)
  rw [h0] at this
  cases this
 ·have hk' := (mem_up R.look bs k).1 hk
  rw [hr] at hk'
  rw [List.setIfInBounds_toArray]
  rcases List.mem_cons.1 hk' with rfl | hk'
  ·exact h1
  ·obtain rfl := List.mem_singleton.1 hk'
   exact h2
theorem stepI {bs' : List Bool} {k fuel : Nat} {a : Act} {w : World} {o : Oper} (ho : ops[k]? = some o) (hw : Region.wanted o (yielded ops a.tmps) = true) (h : o.wpIn Fence.wide m P a w (wpAnyIn Fence.wide m P .any ops Q fuel bs'.toArray) Q) : StepI P ops Q m fuel k bs' a w := by
 unfold StepI wpOpIn
 rw [ho]
 simp only
 rw [if_pos hw]
 exact h
theorem stepI_value {bs' : List Bool} {k fuel d : Nat} {n : List Nat} {op : Op} {g : Option (Nat × Bool)} {v : Value} {a : Act} {w w1 : World} (R : Reg ops L) (hs : L[k]? = some (some d, op, g, n))
  (hg : Chain.Open ops a g) (hv : ∀ ty, (execOp a.eval ⟨some d, op, ty, "", #[], none⟩).run P w = .ok (.value v) w1) (hd : d < a.tmps.size)
  (h : ∀ a', Chain.Next a a' d v → AnyI P ops Q m fuel bs' a' w1) (hn : ∀ c, op ≠ .defer c := by simp) : StepI P ops Q m fuel k bs' a w := by
 obtain ⟨o, ho, e1, e2, e3⟩ := line_get R.look hs
 subst e2 e3
 refine stepI ho hg.wanted ⟨fun _ _ => trivial, ?_⟩
 rw [Oper.semAt_eq _ _ _ hn, Chain.exec_shape, e1, hv]
 simp only [Oper.uponIn, e1]
 exact h _ (Chain.next hd v)
theorem stepI_call {bs' : List Bool} {k fuel d f : Nat} {n : List Nat} {xs : Array Operand} {ts : Array TypeId} {args : Array Value} {g : Option (Nat × Bool)} {a : Act} {w : World} {Post : Ending → World → Prop} (R : Reg ops L)
  (hs : L[k]? = some (some d, .call { callee := .value (.func f), args := xs, argTypes := ts }, g, n))
  (hg : Chain.Open ops a g) (ha : xs.map a.eval = args) (hf : Chain.enters P f = true) (hc : Calls P f args w Post) (hd : d < a.tmps.size)
  (h : ∀ e w', Post e w' → ∃ v, e = .returned v ∧ ∀ a', Chain.Next a a' d v → AnyI P ops Q m fuel bs' a' w') : StepI P ops Q m fuel k bs' a w := by
 obtain ⟨o, ho, e1, e2, e3⟩ := line_get R.look hs
 subst e3
 refine stepI ho hg.wanted ⟨fun _ _ => trivial, ?_⟩
 rw [Oper.semAt_eq _ _ _ (fun c hc => by rw [e2] at hc; cases hc)]
 have he : (execOp a.eval o).run P w = .ok (.enter f args) w := by
  rw [Chain.exec_shape, e1, e2]
  subst ha
  simp [execOp, resolve, invoke, Act.eval, Deferred.ofValue, Chain.run_enters hf]
 rw [he]
 refine ⟨fun e => (by cases e), callsIn_wide.2 (hc.mono fun e w' hp => ?_)⟩
 obtain ⟨v, rfl, hw⟩ := h e w' hp
 simp only [e1]
 exact hw _ (Chain.next hd v)
theorem stepI_yield {bs' : List Bool} {k fuel d l t : Nat} {n : List Nat} {xs : Array Operand} {ts : Array TypeId} {args : Array Value} {g : Option (Nat × Bool)} {a : Act} {w : World} {Post : Ending → World → Prop} (R : Reg ops L)
  (hs : L[k]? = some (some d, .call { callee := .value (.tmp t), args := xs, argTypes := ts }, g, n)) (hg : Chain.Open ops a g) (ht : Chain.At a t (.func (.yield l) #[] #[])) (ha : xs.map a.eval = args)
  (hy : YieldAt Fence.wide (m - 1) P l args w Post) (hd : d < a.tmps.size)
  (h : ∀ e w', Post e w' → ∃ v, e = .returned v ∧ ∀ a', Chain.Next a a' d v → AnyI P ops Q m fuel bs' a' w') : StepI P ops Q m fuel k bs' a w := by
 obtain ⟨o, ho, e1, e2, e3⟩ := line_get R.look hs
 subst e3
 refine stepI ho hg.wanted ⟨fun _ _ => trivial, ?_⟩
 rw [Oper.semAt_eq _ _ _ (fun c hc => by rw [e2] at hc; cases hc)]
 obtain ⟨fn, tmps, assign, body, hy1, hR⟩ := hy
 have et := ht.ev
 have he : (execOp a.eval o).run P w = .ok (.round l fn tmps assign body) w := by
  rw [Chain.exec_shape, e1, e2]
  subst ha
  simp [execOp, resolve, invoke, et, Deferred.ofValue, hy1]
 rw [he]
 refine ⟨fun e => (by cases e), hR.mono fun e w' hp => ?_⟩
 obtain ⟨v, rfl, hw⟩ := h e w' hp
 simp only [e1]
 exact hw _ (Chain.next hd v)
theorem stepI_skip {bs' : List Bool} {k fuel d : Nat} {n : List Nat} {op : Op} {g : Option (Nat × Bool)} {a : Act} {w : World} (R : Reg ops L) (hs : L[k]? = some (some d, op, g, n)) (hg : Shut ops a g) (hd : d < a.tmps.size)
  (h : ∀ a', Chain.Next a a' d undef → AnyI P ops Q m fuel bs' a' w) : StepI P ops Q m fuel k bs' a w := by
 obtain ⟨o, ho, e1, e2, e3⟩ := line_get R.look hs
 subst e2 e3
 unfold StepI wpOpIn
 rw [ho]
 simp only
 rw [if_neg (by rw [hg.wanted]; simp)]
 rw [e1]
 exact ⟨fun _ _ => trivial, h _ (Chain.next hd undef)⟩
theorem takeI {bs bs' : List Bool} {k fuel d : Nat} {n : List Nat} {op : Op} {g : Option (Nat × Bool)} {v : Value} {a : Act} {w : World} (R : Reg ops L) (hs : L[k]? = some (some d, op, g, n)) (hok : okT bs L k bs' = true) (hQ : ∀ c a w d v, Q (.panic c) (Act.put a (some d) v) w → Q (.panic c) a w)
  (hg : Chain.Open ops a g) (hv : ∀ w ty, (execOp a.eval ⟨some d, op, ty, "", #[], none⟩).run P w = .ok (.value v) w) (hd : d < a.tmps.size)
  (h : ∀ a', Chain.Next a a' d v → AnyI P ops Q m fuel bs' a' w) (hc : ∀ c, op ≠ .call c := by simp) : AnyI P ops Q m (fuel + 1) bs a w := by
 simp only [okT, Bool.and_eq_true, beq_iff_eq] at hok
 obtain ⟨⟨hr, hf⟩, hb⟩ := hok
 subst hb
 obtain ⟨o, ho, e1, e2, e3⟩ := line_get R.look hs
 subst e2 e3
 have hr' : (Region.ready .any ops bs.toArray).contains k = true := by
  have := (mem_up R.look bs k).2 (by simpa using hr)
  simpa using this
 refine wpAnyIn_take (oi := o) (v := v) rfl ho R.noSelect (free_of R.look bs k hf) hr' (fun c a w => by rw [e1]; exact hQ c a w d v) ⟨.inl ⟨hg.wanted, fun w => ?_⟩, fun w => ?_⟩ ?_
 ·rw [Chain.exec_shape, e1]; exact hv w _
 ·unfold Oper.about
  split
  ·rename_i c hc'
   exact absurd hc' (hc c)
  ·rfl
 ·rw [List.setIfInBounds_toArray, e1]; exact h _ (Chain.next hd v)
theorem takeI_skip {bs bs' : List Bool} {k fuel d : Nat} {n : List Nat} {op : Op} {g : Option (Nat × Bool)} {a : Act} {w : World} (R : Reg ops L) (hs : L[k]? = some (some d, op, g, n)) (hok : okT bs L k bs' = true) (hQ : ∀ c a w d v, Q (.panic c) (Act.put a (some d) v) w → Q (.panic c) a w)
  (hg : Shut ops a g) (hd : d < a.tmps.size) (h : ∀ a', Chain.Next a a' d undef → AnyI P ops Q m fuel bs' a' w) (hc : ∀ c, op ≠ .call c := by simp) : AnyI P ops Q m (fuel + 1) bs a w := by
 simp only [okT, Bool.and_eq_true, beq_iff_eq] at hok
 obtain ⟨⟨hr, hf⟩, hb⟩ := hok
 subst hb
 obtain ⟨o, ho, e1, e2, e3⟩ := line_get R.look hs
 subst e2 e3
 have hr' : (Region.ready .any ops bs.toArray).contains k = true := by
  have := (mem_up R.look bs k).2 (by simpa using hr)
  simpa using this
 refine wpAnyIn_take (oi := o) (v := undef) rfl ho R.noSelect (free_of R.look bs k hf) hr' (fun c a w => by rw [e1]; exact hQ c a w d undef) ⟨.inr ⟨hg.wanted, rfl⟩, fun w => ?_⟩ ?_
 ·unfold Oper.about
  split
  ·rename_i c hc'
   exact absurd hc' (hc c)
  ·rfl
 ·rw [List.setIfInBounds_toArray, e1]; exact h _ (Chain.next hd undef)
theorem finishI {bs : List Bool} {fuel : Nat} {a : Act} {w : World} (R : Reg ops L) (hr : up bs L = []) (h : Q .normal a w) : AnyI P ops Q m fuel bs a w := by
 refine wpAnyIn_done ?_ h fuel
 rw [List.eq_nil_iff_forall_not_mem]
 intro i hi
 have := (mem_up R.look bs i).1 hi
 rw [hr] at this
 cases this
theorem startI {n id : Nat} {a : Act} {w : World} (hn : ops.size = n) (hm : P.follows .mixedOrders = true) (h : AnyI P ops Q m n (List.replicate n false) a w.drew) : (Code.region id ops true).wpIn Fence.wide m P Q a w := by
 refine wpIn_region_any hm ?_
 rw [hn]
 unfold AnyI at h
 simpa using h
end
end
end Go.Proofs.YtgmijnnhanpocaaGreatDoor.Ord
namespace Go.Proofs.YtgmijnnhanpocaaGreatDoor
open Go.ChangeShapes Go.WideShapes Go.ChangeAt Go.RowKit
namespace Cls
theorem region {P : Program} {id : Nat} {Q : Exit → Act → World → Prop} {a : Act} {w : World} {l : List Oper} {I : Type} (F : I → World) (h0 : ∃ n, w.drew = F n) (hm : P.follows .mixedOrders = true) (hB : Region.lexB .any l.toArray = true)
  (h : wpQuiet P l.toArray (fun w' => ∃ n, w' = F n) (fun a' => ∀ w', (∃ n, w' = F n) → Q .normal a' w') l a) : (Code.region id l.toArray true).wp P Q a w :=
 wp_region_quiet (C := fun w' => ∃ n, w' = F n) hm hB h0 (by simpa using h)
theorem below (w : World) : ∃ (I : Type) (_ : Nonempty I) (F : I → World), (∃ n, w.drew = F n) ∧ (∀ n, Below w.heap.size w (F n)) ∧ ∀ n W, Below (F n).heap.size (F n) W → ∃ m, W = F m :=
 ⟨{ W : World // Below w.heap.size w W }, ⟨⟨w, Below.refl _ _⟩⟩, Subtype.val, ⟨⟨w.drew, (Below.refl _ _).drew⟩, rfl⟩, fun n => n.2, fun n W h => ⟨⟨W, n.2.trans (h.mono n.2.size)⟩, rfl⟩⟩
end Cls
end Go.Proofs.YtgmijnnhanpocaaGreatDoor
namespace Go.Proofs.YtgmijnnhanpocaaGreatDoor
open Go.ChangeShapes Go.WideShapes Go.ChangeAt Go.RowKit
def zeroRows : List (Int × Int) := [(-2147483648, 31), (127, 159), (768, 879), (8203, 8207), (65024, 65039), (1114112, 2147483647), (55296, 57343)]
def wideRows : List (Int × Int) := [(4352, 4447), (11904, 12350), (12353, 13311), (13312, 19903), (19968, 40959), (40960, 42191), (44032, 55203), (63744, 64255), (65072, 65135), (65280, 65376), (65504, 65510), (127744, 128591), (129280, 129535), (131072, 262141)]
def zLo (i : Nat) : Int := (zeroRows.getD i (0, 0)).1
def zHi (i : Nat) : Int := (zeroRows.getD i (0, 0)).2
def wLo (i : Nat) : Int := (wideRows.getD i (0, 0)).1
def wHi (i : Nat) : Int := (wideRows.getD i (0, 0)).2
def zeroCells : Array Value := #[.int .i32 (-2147483648), .int .i32 31, .int .i32 127, .int .i32 159, .int .i32 768, .int .i32 879, .int .i32 8203, .int .i32 8207, .int .i32 65024, .int .i32 65039, .int .i32 1114112, .int .i32 2147483647, .int .i32 55296, .int .i32 57343]
def wideCells : Array Value := #[.int .i32 4352, .int .i32 4447, .int .i32 11904, .int .i32 12350, .int .i32 12353, .int .i32 13311, .int .i32 13312, .int .i32 19903, .int .i32 19968, .int .i32 40959, .int .i32 40960, .int .i32 42191, .int .i32 44032, .int .i32 55203, .int .i32 63744, .int .i32 64255, .int .i32 65072, .int .i32 65135, .int .i32 65280, .int .i32 65376, .int .i32 65504, .int .i32 65510, .int .i32 127744, .int .i32 128591, .int .i32 129280, .int .i32 129535, .int .i32 131072, .int .i32 262141]
theorem wof_zero (r : Int) (i : Nat) (hi : i < 7) (h0 : zLo i ≤ r) (h1 : r ≤ zHi i) : wof r = 0 := by
 unfold wof
 match i, hi with
 | 0, _ => simp only [zLo, zHi, zeroRows, List.getD_cons_zero] at h0 h1; (repeat rw [if_neg (by omega)]); rw [if_pos (by omega)]
 | 1, _ => simp only [zLo, zHi, zeroRows, List.getD_cons_zero, List.getD_cons_succ] at h0 h1; (repeat rw [if_neg (by omega)]); rw [if_pos (by omega)]
 | 2, _ => simp only [zLo, zHi, zeroRows, List.getD_cons_zero, List.getD_cons_succ] at h0 h1; (repeat rw [if_neg (by omega)]); rw [if_pos (by omega)]
 | 3, _ => simp only [zLo, zHi, zeroRows, List.getD_cons_zero, List.getD_cons_succ] at h0 h1; (repeat rw [if_neg (by omega)]); rw [if_pos (by omega)]
 | 4, _ => simp only [zLo, zHi, zeroRows, List.getD_cons_zero, List.getD_cons_succ] at h0 h1; (repeat rw [if_neg (by omega)]); rw [if_pos (by omega)]
 | 5, _ => simp only [zLo, zHi, zeroRows, List.getD_cons_zero, List.getD_cons_succ] at h0 h1; (repeat rw [if_neg (by omega)]); rw [if_pos (by omega)]
 | 6, _ => simp only [zLo, zHi, zeroRows, List.getD_cons_zero, List.getD_cons_succ] at h0 h1; (repeat rw [if_neg (by omega)]); rw [if_pos (by omega)]
 | n + 7, h => omega
theorem wof_wide (r : Int) (i : Nat) (hi : i < 14) (h0 : wLo i ≤ r) (h1 : r ≤ wHi i) : wof r = 2 := by
 unfold wof
 match i, hi with
 | 0, _ => simp only [wLo, wHi, wideRows, List.getD_cons_zero] at h0 h1; (repeat rw [if_neg (by omega)]); rw [if_pos (by omega)]
 | 1, _ => simp only [wLo, wHi, wideRows, List.getD_cons_zero, List.getD_cons_succ] at h0 h1; (repeat rw [if_neg (by omega)]); rw [if_pos (by omega)]
 | 2, _ => simp only [wLo, wHi, wideRows, List.getD_cons_zero, List.getD_cons_succ] at h0 h1; (repeat rw [if_neg (by omega)]); rw [if_pos (by omega)]
 | 3, _ => simp only [wLo, wHi, wideRows, List.getD_cons_zero, List.getD_cons_succ] at h0 h1; (repeat rw [if_neg (by omega)]); rw [if_pos (by omega)]
 | 4, _ => simp only [wLo, wHi, wideRows, List.getD_cons_zero, List.getD_cons_succ] at h0 h1; (repeat rw [if_neg (by omega)]); rw [if_pos (by omega)]
 | 5, _ => simp only [wLo, wHi, wideRows, List.getD_cons_zero, List.getD_cons_succ] at h0 h1; (repeat rw [if_neg (by omega)]); rw [if_pos (by omega)]
 | 6, _ => simp only [wLo, wHi, wideRows, List.getD_cons_zero, List.getD_cons_succ] at h0 h1; (repeat rw [if_neg (by omega)]); rw [if_pos (by omega)]
 | 7, _ => simp only [wLo, wHi, wideRows, List.getD_cons_zero, List.getD_cons_succ] at h0 h1; (repeat rw [if_neg (by omega)]); rw [if_pos (by omega)]
 | 8, _ => simp only [wLo, wHi, wideRows, List.getD_cons_zero, List.getD_cons_succ] at h0 h1; (repeat rw [if_neg (by omega)]); rw [if_pos (by omega)]
 | 9, _ => simp only [wLo, wHi, wideRows, List.getD_cons_zero, List.getD_cons_succ] at h0 h1; (repeat rw [if_neg (by omega)]); rw [if_pos (by omega)]
 | 10, _ => simp only [wLo, wHi, wideRows, List.getD_cons_zero, List.getD_cons_succ] at h0 h1; (repeat rw [if_neg (by omega)]); rw [if_pos (by omega)]
 | 11, _ => simp only [wLo, wHi, wideRows, List.getD_cons_zero, List.getD_cons_succ] at h0 h1; (repeat rw [if_neg (by omega)]); rw [if_pos (by omega)]
 | 12, _ => simp only [wLo, wHi, wideRows, List.getD_cons_zero, List.getD_cons_succ] at h0 h1; (repeat rw [if_neg (by omega)]); rw [if_pos (by omega)]
 | 13, _ => simp only [wLo, wHi, wideRows, List.getD_cons_zero, List.getD_cons_succ] at h0 h1; (repeat rw [if_neg (by omega)]); rw [if_pos (by omega)]
 | n + 14, h => omega
theorem wof_none (r : Int) (hr0 : -2147483648 ≤ r) (hr1 : r ≤ 2147483647) (h : ∀ i, i < 7 → ¬ (zLo i ≤ r ∧ r ≤ zHi i)) (k : ∀ i, i < 14 → ¬ (wLo i ≤ r ∧ r ≤ wHi i)) : wof r = 1 := by
 have h0 := h 0 (by omega); have h1 := h 1 (by omega); have h2 := h 2 (by omega); have h3 := h 3 (by omega); have h4 := h 4 (by omega); have h5 := h 5 (by omega); have h6 := h 6 (by omega)
 have k0 := k 0 (by omega); have k1 := k 1 (by omega); have k2 := k 2 (by omega); have k3 := k 3 (by omega); have k4 := k 4 (by omega); have k5 := k 5 (by omega); have k6 := k 6 (by omega); have k7 := k 7 (by omega); have k8 := k 8 (by omega); have k9 := k 9 (by omega); have k10 := k 10 (by omega); have k11 := k 11 (by omega); have k12 := k 12 (by omega); have k13 := k 13 (by omega)
 simp only [zLo, zHi, wLo, wHi, zeroRows, wideRows, List.getD_cons_zero, List.getD_cons_succ] at h0 h1 h2 h3 h4 h5 h6 k0 k1 k2 k3 k4 k5 k6 k7 k8 k9 k10 k11 k12 k13
 unfold wof
 repeat rw [if_neg (by omega)]
theorem zero_cells (i : Nat) (hi : i < 7) : zeroCells[i * 2]? = some (.int .i32 (zLo i)) ∧ zeroCells[i * 2 + 1]? = some (.int .i32 (zHi i)) := by
 match i, hi with
 | 0, _ => exact ⟨rfl, rfl⟩
 | 1, _ => exact ⟨rfl, rfl⟩
 | 2, _ => exact ⟨rfl, rfl⟩
 | 3, _ => exact ⟨rfl, rfl⟩
 | 4, _ => exact ⟨rfl, rfl⟩
 | 5, _ => exact ⟨rfl, rfl⟩
 | 6, _ => exact ⟨rfl, rfl⟩
 | n + 7, h => omega
theorem wide_cells (i : Nat) (hi : i < 14) : wideCells[i * 2]? = some (.int .i32 (wLo i)) ∧ wideCells[i * 2 + 1]? = some (.int .i32 (wHi i)) := by
 match i, hi with
 | 0, _ => exact ⟨rfl, rfl⟩
 | 1, _ => exact ⟨rfl, rfl⟩
 | 2, _ => exact ⟨rfl, rfl⟩
 | 3, _ => exact ⟨rfl, rfl⟩
 | 4, _ => exact ⟨rfl, rfl⟩
 | 5, _ => exact ⟨rfl, rfl⟩
 | 6, _ => exact ⟨rfl, rfl⟩
 | 7, _ => exact ⟨rfl, rfl⟩
 | 8, _ => exact ⟨rfl, rfl⟩
 | 9, _ => exact ⟨rfl, rfl⟩
 | 10, _ => exact ⟨rfl, rfl⟩
 | 11, _ => exact ⟨rfl, rfl⟩
 | 12, _ => exact ⟨rfl, rfl⟩
 | 13, _ => exact ⟨rfl, rfl⟩
 | n + 14, h => omega
abbrev refWorld (w : World) : World := (w.alloc (.cells #[.int .i32 (-2147483648), .int .i32 31, .int .i32 127, .int .i32 159, .int .i32 768, .int .i32 879, .int .i32 8203, .int .i32 8207, .int .i32 65024, .int .i32 65039, .int .i32 1114112, .int .i32 2147483647, .int .i32 55296, .int .i32 57343] 143)).alloc (.cells #[.int .i32 4352, .int .i32 4447, .int .i32 11904, .int .i32 12350, .int .i32 12353, .int .i32 13311, .int .i32 13312, .int .i32 19903, .int .i32 19968, .int .i32 40959, .int .i32 40960, .int .i32 42191, .int .i32 44032, .int .i32 55203, .int .i32 63744, .int .i32 64255, .int .i32 65072, .int .i32 65135, .int .i32 65280, .int .i32 65376, .int .i32 65504, .int .i32 65510, .int .i32 127744, .int .i32 128591, .int .i32 129280, .int .i32 129535, .int .i32 131072, .int .i32 262141] 143)
theorem ref_zero (w : World) (i : Nat) (hi : i < 7) : (refWorld w).cell? ⟨w.heap.size, i * 2, none⟩ = some (.int .i32 (zLo i)) ∧ (refWorld w).cell? ⟨w.heap.size, i * 2 + 1, none⟩ = some (.int .i32 (zHi i)) := by
 have hb : (refWorld w).heap[w.heap.size]? = some (.cells zeroCells 143 (0, 0)) := by
  rw [refWorld, Below.heap_alloc _ _ _ (by simp)]; exact heap_alloc_new w _
 rw [cell_of_row _ _ _ _ _ (0, 0) hb, cell_of_row _ _ _ _ _ (0, 0) hb]
 exact zero_cells i hi
theorem ref_wide (w : World) (i : Nat) (hi : i < 14) : (refWorld w).cell? ⟨w.heap.size + 1, i * 2, none⟩ = some (.int .i32 (wLo i)) ∧ (refWorld w).cell? ⟨w.heap.size + 1, i * 2 + 1, none⟩ = some (.int .i32 (wHi i)) := by
 have hb : (refWorld w).heap[w.heap.size + 1]? = some (.cells wideCells 143 (0, 0)) := by
  have h := heap_alloc_new (w.alloc (.cells zeroCells 143)) (.cells wideCells 143)
  rw [World.size_alloc] at h
  exact h
 rw [cell_of_row _ _ _ _ _ (0, 0) hb, cell_of_row _ _ _ _ _ (0, 0) hb]
 exact wide_cells i hi
set_option maxRecDepth 100000 in
set_option maxHeartbeats 1600000 in
theorem refWidth_walk (r : Int) (hr0 : -2147483648 ≤ r) (hr1 : r ≤ 2147483647) (w : World) :
  Calls Tryz.prog 81 #[.int .i32 r] w fun e w' => e = .returned (.int .i64 (wof r)) ∧ Below w.heap.size w w' := by
 have hz := ref_zero w
 have hw := ref_wide w
 have ZH := Lib.hid hz
 have WH := Lib.hid hw
 clear hz hw
 have hbl : Below w.heap.size w (refWorld w) := ((Below.refl _ _).alloc (Nat.le_refl _) _).alloc (by simp) _
 have BL := Lib.hid hbl
 clear hbl
 go_enter Tryz.func81, Tryz.ntmps81
 go_wp2
 go_loop [5] (fun i => ∃ k : Nat, k ≤ 7 ∧ i = .int .i64 k ∧ (∀ j, j < k → ¬ (zLo j ≤ r ∧ r ≤ zHi j))) (fun i => 7 - (intOf i).toNat)
 case atStart => exact ⟨0, by omega, rfl, fun j h => by omega⟩
 case round =>
  obtain ⟨k, hk, rfl, hno⟩ := hrel
  by_cases hlt : k < 7
  ·obtain ⟨z0, z1⟩ := ZH.out k hlt
   have NO := Lib.hid hno
   have HIT := Lib.hid (wof_zero r k hlt)
   clear hno
   by_cases c1 : zLo k ≤ r
   ·by_cases c2 : r ≤ zHi k
    ·go_wp2
     go_ret
     exact ⟨ret_int (HIT.out c1 c2).symm, BL.out⟩
    ·go_wp2
     go_round
     case rel => exact ⟨k + 1, by omega, by go_num, fun j h => (Nat.lt_or_eq_of_le (Nat.le_of_lt_succ h)).elim (NO.out j) (fun e => by subst e; omega)⟩
     case measure => simp [intOf]; omega
   ·go_wp2
    go_round
    case rel => exact ⟨k + 1, by omega, by go_num, fun j h => (Nat.lt_or_eq_of_le (Nat.le_of_lt_succ h)).elim (NO.out j) (fun e => by subst e; omega)⟩
    case measure => simp [intOf]; omega
  ·obtain rfl : k = 7 := by omega
   have NO := Lib.hid hno
   clear hno
   go_wp2
   go_loop [6] (fun i => ∃ k : Nat, k ≤ 14 ∧ i = .int .i64 k ∧ (∀ j, j < k → ¬ (wLo j ≤ r ∧ r ≤ wHi j))) (fun i => 14 - (intOf i).toNat)
   case atStart => exact ⟨0, by omega, rfl, fun j h => by omega⟩
   case round =>
    obtain ⟨k, hk, rfl, hno⟩ := hrel
    by_cases hlt : k < 14
    ·obtain ⟨z0, z1⟩ := WH.out k hlt
     have NW := Lib.hid hno
     have HIT := Lib.hid (wof_wide r k hlt)
     clear hno
     by_cases c1 : wLo k ≤ r
     ·by_cases c2 : r ≤ wHi k
      ·go_wp2
       go_ret
       exact ⟨ret_int (HIT.out c1 c2).symm, BL.out⟩
      ·go_wp2
       go_round
       case rel => exact ⟨k + 1, by omega, by go_num, fun j h => (Nat.lt_or_eq_of_le (Nat.le_of_lt_succ h)).elim (NW.out j) (fun e => by subst e; omega)⟩
       case measure => simp [intOf]; omega
     ·go_wp2
      go_round
      case rel => exact ⟨k + 1, by omega, by go_num, fun j h => (Nat.lt_or_eq_of_le (Nat.le_of_lt_succ h)).elim (NW.out j) (fun e => by subst e; omega)⟩
      case measure => simp [intOf]; omega
    ·obtain rfl : k = 14 := by omega
     have M := Lib.hid (wof_none r hr0 hr1 NO.out hno)
     clear hno
     go_wp2
     go_ret
     exact ⟨ret_int M.out.symm, BL.out⟩
end Go.Proofs.YtgmijnnhanpocaaGreatDoor
