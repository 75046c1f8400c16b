import Derived.Test.YteemnmalikomgaaGreatDoorQSrStore0
import Derived.Laws.IdiomStrings
set_option maxRecDepth 100000
set_option maxHeartbeats 1600000
namespace Go.Proofs.YteemnmalikomgaaGreatDoor
open Go.ChangeShapes Go.WideShapes Go.ChangeAt Go.RowKit
namespace Ord
open Chain (exec_shape next enters run_enters)
abbrev Line := Option Tmp × Op × Option (Nat × Bool) × List Nat
def preds (l : List Edge) : List Nat := l.filterMap fun e => if Region.binds .any e then some e.on else none
def line (o : Oper) : Line := (o.dst, o.op, o.guard, preds o.after.toList)
def look (ops : Array Oper) : List Line := ops.toList.map line
def up (bs : List Bool) (L : List Line) : List Nat := (List.range L.length).filter fun j => !(bs.getD j true) && (L[j]?).elim false fun x => x.2.2.2.all fun p => bs.getD p false
section
variable {P : Program} {ops : Array Oper} {Q : Exit → Act → World → Prop} {S : World → Prop} {L : List Line}
theorem mem_up (hL : look ops = L) (bs : List Bool) (i : Nat) : i ∈ Region.ready .any ops bs.toArray ↔ i ∈ up bs L := by
  subst hL
  unfold up
  rw [mem_ready, List.mem_filter, List.mem_range]
  have hl : (look ops)[i]? = (ops[i]?).map line := by unfold look; simp
  rw [hl]
  constructor
  · rintro ⟨h1, o, ho, he⟩
    refine ⟨by unfold look; simpa using (Array.getElem?_eq_some_iff.1 ho).1, ?_⟩
    rw [ho]
    simp only [Option.map_some, Option.elim_some, Bool.and_eq_true, Bool.not_eq_true', List.all_eq_true]
    refine ⟨by simpa [Array.getD_eq_getD_getElem?] using h1, fun p hp => ?_⟩
    simp only [line, preds, List.mem_filterMap] at hp
    obtain ⟨e, hm, h⟩ := hp
    by_cases hb : Region.binds .any e = true
    · rw [if_pos hb] at h
      injection h with h
      subst h
      have := he e (by simpa using hm) hb
      simpa [Array.getD_eq_getD_getElem?] using this
    · rw [if_neg hb] at h; cases h
  · rintro ⟨_, h⟩
    cases ho : ops[i]? with
    | none => rw [ho] at h; simp at h
    | some o =>
      rw [ho] at h
      simp only [Option.map_some, Option.elim_some, Bool.and_eq_true, Bool.not_eq_true', List.all_eq_true] at h
      refine ⟨by simpa [Array.getD_eq_getD_getElem?] using h.1, o, rfl, fun e he hb => ?_⟩
      have := h.2 e.on (by
        simp only [line, preds, List.mem_filterMap]
        exact ⟨e, by simpa using he, by rw [if_pos hb]⟩)
      simpa [Array.getD_eq_getD_getElem?] using this
def looksL (L : List Line) (x : Line) : List Tmp :=
  (x.2.1.operands.toList.filterMap fun | .tmp t => some t | _ => none) ++
  (match x.2.2.1 with
   | some (g, _) => ((L[g]?).bind (·.1)).toList
   | none => [])
def apartL (L : List Line) (x y : Line) : Bool :=
  (match x.1 with
   | some d => !(looksL L y).contains d && y.1 != some d
   | none => true) &&
  (match y.1 with
   | some d => !(looksL L x).contains d
   | none => true)
def freeL (bs : List Bool) (L : List Line) (i : Nat) : Bool :=
  match L[i]? with
  | none => false
  | some x => (List.range L.length).all fun j => j == i || bs.getD j true || match L[j]? with
      | some y => y.2.2.2.contains i || apartL L x y
      | none => true
theorem looks_line (hL : look ops = L) (o : Oper) : o.looksAt ops = looksL L (line o) := by
  subst hL
  unfold Oper.looksAt looksL line
  simp only
  congr 1
  cases o.guard with
  | none => rfl
  | some p =>
    obtain ⟨g, b⟩ := p
    simp only
    have hl : (look ops)[g]? = (ops[g]?).map line := by unfold look; simp
    rw [hl]
    cases ops[g]? with
    | none => rfl
    | some o' => rfl
theorem apart_line (hL : look ops = L) (x y : Oper) : x.apart ops y = apartL L (line x) (line y) := by
  unfold Oper.apart apartL
  rw [looks_line hL, looks_line hL]
  rfl
theorem free_of (hL : look ops = L) (bs : List Bool) (i : Nat) (h : freeL bs L i = true) : Region.free .any ops bs.toArray i = true := by
  unfold freeL at h
  unfold Region.free
  have hl : ∀ j : Nat, L[j]? = (ops[j]?).map line := fun j => by subst hL; unfold look; simp
  have hsz : L.length = ops.size := by subst hL; unfold look; simp
  cases ho : ops[i]? with
  | none => rw [hl, ho] at h; simp at h
  | some oi =>
    rw [hl, ho] at h
    simp only [Option.map_some, List.all_eq_true] at h ⊢
    intro j hj
    have hj2 := h j (by rw [hsz]; exact hj)
    simp only [Bool.or_eq_true] at hj2 ⊢
    rcases hj2 with (h1 | h1) | h1
    · exact .inl (.inl h1)
    · exact .inl (.inr (by simpa [Array.getD_eq_getD_getElem?] using h1))
    · right
      rw [hl] at h1
      cases hoj : ops[j]? with
      | none => rfl
      | some oj =>
        rw [hoj] at h1
        simp only [Option.map_some, Bool.or_eq_true] at h1 ⊢
        rcases h1 with h1 | h1
        · left
          simp only [line, preds, List.contains_iff_mem, List.mem_filterMap] at h1
          obtain ⟨e, he, h2⟩ := h1
          rw [Array.any_eq_true']
          by_cases hb : Region.binds .any e = true
          · rw [if_pos hb] at h2
            injection h2 with h2
            exact ⟨e, by simpa using he, by simp [hb, h2]⟩
          · rw [if_neg hb] at h2; cases h2
        · right
          rw [apart_line hL]; exact h1
structure Reg (ops : Array Oper) (L : List Line) : Prop where
  look : look ops = L
  noSelect : Region.noSelect ops = true
theorem line_get (hL : look ops = L) {k : Nat} {d : Option Tmp} {op : Op} {g : Option (Nat × Bool)} {m : List Nat} (h : L[k]? = some (d, op, g, m)) : ∃ o, ops[k]? = some o ∧ o.dst = d ∧ o.op = op ∧ o.guard = g := by
  subst hL
  unfold look at h
  simp only [List.getElem?_map, Option.map_eq_some_iff, Array.getElem?_toList, line, Prod.mk.injEq] at h
  obtain ⟨o, ho, h1, h2, h3, _⟩ := h
  exact ⟨o, ho, h1, h2, h3⟩
theorem Reg.opened (R : Reg ops L) {a : Act} {j t : Nat} {b : Bool} {op : Op} {g : Option (Nat × Bool)} {m : List Nat} (h : L[j]? = some (some t, op, g, m)) (hat : Chain.At a t (.bool b)) : Chain.Open ops a (some (j, b)) := by
  obtain ⟨o, ho, h1, _, _⟩ := line_get R.look h
  exact ⟨t, by rw [ho]; exact h1, hat⟩
def Shut (ops : Array Oper) (a : Act) : Option (Nat × Bool) → Prop
  | none => False
  | some (j, b) => ∃ t v, ((ops[j]?).bind (·.dst)) = some t ∧ Chain.At a t v ∧ v ≠ .bool b
theorem Shut.wanted {a : Act} {o : Oper} (h : Shut ops a o.guard) : Region.wanted o (yielded ops a.tmps) = false := by
  unfold Region.wanted
  cases hg : o.guard with
  | none => rw [hg] at h; exact h.elim
  | some p =>
    obtain ⟨j, b⟩ := p
    rw [hg] at h
    obtain ⟨t, v, ht, hat, hv⟩ := h
    simp only
    cases hy : yielded ops a.tmps j with
    | none => rfl
    | some c =>
      unfold yielded at hy
      rw [ht] at hy
      unfold Chain.At at hat
      simp only [Option.bind_some, hat] at hy
      split at hy
      · rename_i b' e
        injection e with e
        injection hy with hy
        subst e hy
        cases hc : (some b' == some b)
        · rfl
        · exact absurd (by simp at hc; rw [hc]) hv
      · cases hy
theorem Reg.shut (R : Reg ops L) {a : Act} {j t : Nat} {b : Bool} {v : Value} {op : Op} {g : Option (Nat × Bool)} {m : List Nat} (h : L[j]? = some (some t, op, g, m)) (hat : Chain.At a t v) (hv : v ≠ .bool b) : Shut ops a (some (j, b)) := by
  obtain ⟨o, ho, h1, _, _⟩ := line_get R.look h
  exact ⟨t, v, by rw [ho]; exact h1, hat, hv⟩
theorem ne_not {b c : Bool} (h : (b == c) = false) : (Value.bool b) ≠ .bool c := fun e => by injection e with e; subst e; simp at h
theorem ne_undef (c : Bool) : undef ≠ Value.bool c := fun e => by unfold undef at e; cases e
def upto (k n : Nat) : List Bool := List.replicate k true ++ List.replicate (n - k) false
def okT (bs : List Bool) (L : List Line) (k : Nat) (bs' : List Bool) : Bool := (up bs L).contains k && freeL bs L k && bs.set k true == bs'
def okF (bs : List Bool) (L : List Line) (k : Nat) (bs' : List Bool) : Bool := up bs L == [k] && bs.set k true == bs'
theorem forced {bs bs' : List Bool} {i fuel : Nat} {a : Act} {w : World} (R : Reg ops L) (hok : okF bs L i bs' = true) (h : wpOp P ops Q i (fun a' w' => S w' ∧ wpAnyH P .any ops Q S fuel bs'.toArray a' w') a w) : wpAnyH P .any ops Q S (fuel + 1) bs.toArray a w := by
  simp only [okF, Bool.and_eq_true, beq_iff_eq] at hok
  obtain ⟨hr, hb⟩ := hok
  subst hb
  refine ⟨fun h0 => ?_, fun j hj => ?_⟩
  · have := (mem_up R.look bs i).2 (by rw [hr]; simp)
    rw [h0] at this
    cases this
  · have hj' := (mem_up R.look bs j).1 hj
    rw [hr] at hj'
    obtain rfl : j = i := by simpa using hj'
    rw [List.setIfInBounds_toArray]
    exact h
theorem take {bs bs' : List Bool} {k fuel d : Nat} {m : List Nat} {op : Op} {g : Option (Nat × Bool)} {v : Value} {a : Act} {w : World} (R : Reg ops L) (hs : L[k]? = some (some d, op, g, m)) (hok : okT bs L k bs' = true) (hQ : ∀ c a w d v, Q (.panic c) (Act.put a (some d) v) w → Q (.panic c) a w)
    (hg : Chain.Open ops a g) (hS : S w) (hv : ∀ w ty, S w → (execOp a.eval ⟨some d, op, ty, "", #[], none⟩).run P w = .ok (.value v) w) (hd : d < a.tmps.size)
    (h : ∀ a', Chain.Next a a' d v → wpAnyH P .any ops Q S fuel bs'.toArray a' w) : wpAnyH P .any ops Q S (fuel + 1) bs.toArray a w := by
  simp only [okT, Bool.and_eq_true, beq_iff_eq] at hok
  obtain ⟨⟨hr, hf⟩, hb⟩ := hok
  subst hb
  obtain ⟨o, ho, e1, e2, e3⟩ := line_get R.look hs
  subst e2 e3
  have hr' : (Region.ready .any ops bs.toArray).contains k = true := by
    have := (mem_up R.look bs k).2 (by simpa using hr)
    simpa using this
  refine wpAnyH_take (oi := o) (v := v) ho R.noSelect (free_of R.look bs k hf) hr' (fun c a w => by rw [e1]; exact hQ c a w d v) (.inl ⟨hg.wanted, fun w hw => ?_⟩) hS ?_
  · rw [exec_shape, e1]; exact hv w _ hw
  · rw [List.setIfInBounds_toArray, e1]; exact h _ (next hd v)
theorem skip {bs bs' : List Bool} {k fuel d : Nat} {m : List Nat} {op : Op} {g : Option (Nat × Bool)} {a : Act} {w : World} (R : Reg ops L) (hs : L[k]? = some (some d, op, g, m)) (hok : okT bs L k bs' = true) (hQ : ∀ c a w d v, Q (.panic c) (Act.put a (some d) v) w → Q (.panic c) a w)
    (hg : Shut ops a g) (hS : S w) (hd : d < a.tmps.size)
    (h : ∀ a', Chain.Next a a' d undef → wpAnyH P .any ops Q S fuel bs'.toArray a' w) : wpAnyH P .any ops Q S (fuel + 1) bs.toArray a w := by
  simp only [okT, Bool.and_eq_true, beq_iff_eq] at hok
  obtain ⟨⟨hr, hf⟩, hb⟩ := hok
  subst hb
  obtain ⟨o, ho, e1, e2, e3⟩ := line_get R.look hs
  subst e2 e3
  have hr' : (Region.ready .any ops bs.toArray).contains k = true := by
    have := (mem_up R.look bs k).2 (by simpa using hr)
    simpa using this
  refine wpAnyH_take (oi := o) (v := undef) ho R.noSelect (free_of R.look bs k hf) hr' (fun c a w => by rw [e1]; exact hQ c a w d undef) (.inr ⟨hg.wanted, rfl⟩) hS ?_
  rw [List.setIfInBounds_toArray, e1]; exact h _ (next hd undef)
theorem value {bs bs' : List Bool} {k fuel d : Nat} {m : List Nat} {op : Op} {g : Option (Nat × Bool)} {v : Value} {a : Act} {w w1 : World} (R : Reg ops L) (hs : L[k]? = some (some d, op, g, m)) (hok : okF bs L k bs' = true)
    (hg : Chain.Open ops a g) (hS : S w1) (hv : ∀ ty, (execOp a.eval ⟨some d, op, ty, "", #[], none⟩).run P w = .ok (.value v) w1) (hd : d < a.tmps.size)
    (h : ∀ a', Chain.Next a a' d v → wpAnyH P .any ops Q S fuel bs'.toArray a' w1) : wpAnyH P .any ops Q S (fuel + 1) bs.toArray a w := by
  obtain ⟨o, ho, e1, e2, e3⟩ := line_get R.look hs
  subst e2 e3
  refine forced R hok (wpOp_step ho fun K hK => ?_)
  rw [if_pos hg.wanted]
  unfold Oper.wp
  rw [exec_shape, e1, hv]
  simp only [Oper.upon, e1]
  exact hK _ _ ⟨hS, h _ (next hd v)⟩
theorem call {bs bs' : List Bool} {k fuel d f : Nat} {m : List Nat} {xs : Array Operand} {ts : Array TypeId} {args : Array Value} {g : Option (Nat × Bool)} {a : Act} {w : World} {Post : Ending → World → Prop} (R : Reg ops L)
    (hs : L[k]? = some (some d, .call { callee := .value (.func f), args := xs, argTypes := ts }, g, m)) (hok : okF bs L k bs' = true)
    (hg : Chain.Open ops a g) (ha : xs.map a.eval = args) (hf : enters P f = true) (hc : Calls P f args w Post) (hd : d < a.tmps.size)
    (h : ∀ e w', Post e w' → ∃ v, e = .returned v ∧ S w' ∧ ∀ a', Chain.Next a a' d v → wpAnyH P .any ops Q S fuel bs'.toArray a' w') : wpAnyH P .any ops Q S (fuel + 1) bs.toArray a w := by
  obtain ⟨o, ho, e1, e2, e3⟩ := line_get R.look hs
  subst e3
  refine forced R hok (wpOp_step ho fun K hK => ?_)
  rw [if_pos hg.wanted]
  unfold Oper.wp
  have he : (execOp a.eval o).run P w = .ok (.enter f args) w := by
    rw [exec_shape, e1, e2]
    subst ha
    simp [execOp, resolve, invoke, Act.eval, Deferred.ofValue, run_enters hf]
  rw [he, Oper.upon_enter]
  refine hc.mono fun e w' hp => ?_
  obtain ⟨v, rfl, hS, hw⟩ := h e w' hp
  rw [e1]
  exact hK _ _ ⟨hS, hw _ (next hd v)⟩
theorem ev_pick_yes {ρ : Operand → Value} {d : Option Tmp} {ty : TypeId} {w : World} {c x y : Operand} {v : Value} (hc : ρ c = .bool true) (h : ρ x = v) : (execOp ρ ⟨d, .pick c x y, ty, "", #[], none⟩).run P w = .ok (.value v) w := by simp [execOp, h, hc, asBool]
theorem ev_pick_no {ρ : Operand → Value} {d : Option Tmp} {ty : TypeId} {w : World} {c x y : Operand} {v : Value} (hc : ρ c = .bool false) (h : ρ y = v) : (execOp ρ ⟨d, .pick c x y, ty, "", #[], none⟩).run P w = .ok (.value v) w := by simp [execOp, h, hc, asBool]
theorem finish {bs : List Bool} {fuel : Nat} {a : Act} {w : World} (R : Reg ops L) (hr : up bs L = []) (h : Q .normal a w) : wpAnyH P .any ops Q S fuel bs.toArray a w := by
  refine wpAnyH_done (List.eq_nil_iff_forall_not_mem.2 fun i hi => ?_) h fuel
  have := (mem_up R.look bs i).1 hi
  rw [hr] at this
  cases this
theorem start {n id : Nat} {a : Act} {w : World} (hn : ops.size = n) (hm : P.follows .mixedOrders = true) (hS : S w.drew) (h : wpAnyH P .any ops Q S n (List.replicate n false).toArray a w.drew) : (Code.region id ops true).wp P Q a w := by
  refine wp_region_held_drew (S := S) hm hS fun _ => ?_
  rw [hn]
  simpa using h
end
end Ord
def zeroRows : List (Int × Int) := [(-2147483648, 31), (127, 159), (768, 879), (8203, 8207), (65024, 65039), (1114112, 2147483647), (55296, 57343)]
def wideRows : List (Int × Int) := [(4352, 4447), (11904, 12350), (12353, 13311), (13312, 19903), (19968, 40959), (40960, 42191), (44032, 55203), (63744, 64255), (65072, 65135), (65280, 65376), (65504, 65510), (127744, 128591), (129280, 129535), (131072, 262141)]
def zLo (i : Nat) : Int := (zeroRows.getD i (0, 0)).1
def zHi (i : Nat) : Int := (zeroRows.getD i (0, 0)).2
def wLo (i : Nat) : Int := (wideRows.getD i (0, 0)).1
def wHi (i : Nat) : Int := (wideRows.getD i (0, 0)).2
def zeroCells : Array Value := #[.int .i32 (-2147483648), .int .i32 31, .int .i32 127, .int .i32 159, .int .i32 768, .int .i32 879, .int .i32 8203, .int .i32 8207, .int .i32 65024, .int .i32 65039, .int .i32 1114112, .int .i32 2147483647, .int .i32 55296, .int .i32 57343]
def wideCells : Array Value := #[.int .i32 4352, .int .i32 4447, .int .i32 11904, .int .i32 12350, .int .i32 12353, .int .i32 13311, .int .i32 13312, .int .i32 19903, .int .i32 19968, .int .i32 40959, .int .i32 40960, .int .i32 42191, .int .i32 44032, .int .i32 55203, .int .i32 63744, .int .i32 64255, .int .i32 65072, .int .i32 65135, .int .i32 65280, .int .i32 65376, .int .i32 65504, .int .i32 65510, .int .i32 127744, .int .i32 128591, .int .i32 129280, .int .i32 129535, .int .i32 131072, .int .i32 262141]
theorem wof_zero (r : Int) (i : Nat) (hi : i < 7) (h0 : zLo i ≤ r) (h1 : r ≤ zHi i) : wof r = 0 := by
 unfold wof
 match i, hi with
 | 0, _ => simp only [zLo, zHi, zeroRows, List.getD_cons_zero] at h0 h1; (repeat rw [if_neg (by omega)]); rw [if_pos (by omega)]
 | 1, _ => simp only [zLo, zHi, zeroRows, List.getD_cons_zero, List.getD_cons_succ] at h0 h1; (repeat rw [if_neg (by omega)]); rw [if_pos (by omega)]
 | 2, _ => simp only [zLo, zHi, zeroRows, List.getD_cons_zero, List.getD_cons_succ] at h0 h1; (repeat rw [if_neg (by omega)]); rw [if_pos (by omega)]
 | 3, _ => simp only [zLo, zHi, zeroRows, List.getD_cons_zero, List.getD_cons_succ] at h0 h1; (repeat rw [if_neg (by omega)]); rw [if_pos (by omega)]
 | 4, _ => simp only [zLo, zHi, zeroRows, List.getD_cons_zero, List.getD_cons_succ] at h0 h1; (repeat rw [if_neg (by omega)]); rw [if_pos (by omega)]
 | 5, _ => simp only [zLo, zHi, zeroRows, List.getD_cons_zero, List.getD_cons_succ] at h0 h1; (repeat rw [if_neg (by omega)]); rw [if_pos (by omega)]
 | 6, _ => simp only [zLo, zHi, zeroRows, List.getD_cons_zero, List.getD_cons_succ] at h0 h1; (repeat rw [if_neg (by omega)]); rw [if_pos (by omega)]
 | n + 7, h => omega
theorem wof_wide (r : Int) (i : Nat) (hi : i < 14) (h0 : wLo i ≤ r) (h1 : r ≤ wHi i) : wof r = 2 := by
 unfold wof
 match i, hi with
 | 0, _ => simp only [wLo, wHi, wideRows, List.getD_cons_zero] at h0 h1; (repeat rw [if_neg (by omega)]); rw [if_pos (by omega)]
 | 1, _ => simp only [wLo, wHi, wideRows, List.getD_cons_zero, List.getD_cons_succ] at h0 h1; (repeat rw [if_neg (by omega)]); rw [if_pos (by omega)]
 | 2, _ => simp only [wLo, wHi, wideRows, List.getD_cons_zero, List.getD_cons_succ] at h0 h1; (repeat rw [if_neg (by omega)]); rw [if_pos (by omega)]
 | 3, _ => simp only [wLo, wHi, wideRows, List.getD_cons_zero, List.getD_cons_succ] at h0 h1; (repeat rw [if_neg (by omega)]); rw [if_pos (by omega)]
 | 4, _ => simp only [wLo, wHi, wideRows, List.getD_cons_zero, List.getD_cons_succ] at h0 h1; (repeat rw [if_neg (by omega)]); rw [if_pos (by omega)]
 | 5, _ => simp only [wLo, wHi, wideRows, List.getD_cons_zero, List.getD_cons_succ] at h0 h1; (repeat rw [if_neg (by omega)]); rw [if_pos (by omega)]
 | 6, _ => simp only [wLo, wHi, wideRows, List.getD_cons_zero, List.getD_cons_succ] at h0 h1; (repeat rw [if_neg (by omega)]); rw [if_pos (by omega)]
 | 7, _ => simp only [wLo, wHi, wideRows, List.getD_cons_zero, List.getD_cons_succ] at h0 h1; (repeat rw [if_neg (by omega)]); rw [if_pos (by omega)]
 | 8, _ => simp only [wLo, wHi, wideRows, List.getD_cons_zero, List.getD_cons_succ] at h0 h1; (repeat rw [if_neg (by omega)]); rw [if_pos (by omega)]
 | 9, _ => simp only [wLo, wHi, wideRows, List.getD_cons_zero, List.getD_cons_succ] at h0 h1; (repeat rw [if_neg (by omega)]); rw [if_pos (by omega)]
 | 10, _ => simp only [wLo, wHi, wideRows, List.getD_cons_zero, List.getD_cons_succ] at h0 h1; (repeat rw [if_neg (by omega)]); rw [if_pos (by omega)]
 | 11, _ => simp only [wLo, wHi, wideRows, List.getD_cons_zero, List.getD_cons_succ] at h0 h1; (repeat rw [if_neg (by omega)]); rw [if_pos (by omega)]
 | 12, _ => simp only [wLo, wHi, wideRows, List.getD_cons_zero, List.getD_cons_succ] at h0 h1; (repeat rw [if_neg (by omega)]); rw [if_pos (by omega)]
 | 13, _ => simp only [wLo, wHi, wideRows, List.getD_cons_zero, List.getD_cons_succ] at h0 h1; (repeat rw [if_neg (by omega)]); rw [if_pos (by omega)]
 | n + 14, h => omega
theorem wof_none (r : Int) (hr0 : -2147483648 ≤ r) (hr1 : r ≤ 2147483647) (h : ∀ i, i < 7 → ¬ (zLo i ≤ r ∧ r ≤ zHi i)) (k : ∀ i, i < 14 → ¬ (wLo i ≤ r ∧ r ≤ wHi i)) : wof r = 1 := by
 have h0 := h 0 (by omega); have h1 := h 1 (by omega); have h2 := h 2 (by omega); have h3 := h 3 (by omega); have h4 := h 4 (by omega); have h5 := h 5 (by omega); have h6 := h 6 (by omega)
 have k0 := k 0 (by omega); have k1 := k 1 (by omega); have k2 := k 2 (by omega); have k3 := k 3 (by omega); have k4 := k 4 (by omega); have k5 := k 5 (by omega); have k6 := k 6 (by omega); have k7 := k 7 (by omega); have k8 := k 8 (by omega); have k9 := k 9 (by omega); have k10 := k 10 (by omega); have k11 := k 11 (by omega); have k12 := k 12 (by omega); have k13 := k 13 (by omega)
 simp only [zLo, zHi, wLo, wHi, zeroRows, wideRows, List.getD_cons_zero, List.getD_cons_succ] at h0 h1 h2 h3 h4 h5 h6 k0 k1 k2 k3 k4 k5 k6 k7 k8 k9 k10 k11 k12 k13
 unfold wof
 repeat rw [if_neg (by omega)]
theorem zero_cells (i : Nat) (hi : i < 7) : zeroCells[i * 2]? = some (.int .i32 (zLo i)) ∧ zeroCells[i * 2 + 1]? = some (.int .i32 (zHi i)) := by
 match i, hi with
 | 0, _ => exact ⟨rfl, rfl⟩
 | 1, _ => exact ⟨rfl, rfl⟩
 | 2, _ => exact ⟨rfl, rfl⟩
 | 3, _ => exact ⟨rfl, rfl⟩
 | 4, _ => exact ⟨rfl, rfl⟩
 | 5, _ => exact ⟨rfl, rfl⟩
 | 6, _ => exact ⟨rfl, rfl⟩
 | n + 7, h => omega
theorem wide_cells (i : Nat) (hi : i < 14) : wideCells[i * 2]? = some (.int .i32 (wLo i)) ∧ wideCells[i * 2 + 1]? = some (.int .i32 (wHi i)) := by
 match i, hi with
 | 0, _ => exact ⟨rfl, rfl⟩
 | 1, _ => exact ⟨rfl, rfl⟩
 | 2, _ => exact ⟨rfl, rfl⟩
 | 3, _ => exact ⟨rfl, rfl⟩
 | 4, _ => exact ⟨rfl, rfl⟩
 | 5, _ => exact ⟨rfl, rfl⟩
 | 6, _ => exact ⟨rfl, rfl⟩
 | 7, _ => exact ⟨rfl, rfl⟩
 | 8, _ => exact ⟨rfl, rfl⟩
 | 9, _ => exact ⟨rfl, rfl⟩
 | 10, _ => exact ⟨rfl, rfl⟩
 | 11, _ => exact ⟨rfl, rfl⟩
 | 12, _ => exact ⟨rfl, rfl⟩
 | 13, _ => exact ⟨rfl, rfl⟩
 | n + 14, h => omega
abbrev refWorld (w : World) : World := (w.alloc (.cells #[.int .i32 (-2147483648), .int .i32 31, .int .i32 127, .int .i32 159, .int .i32 768, .int .i32 879, .int .i32 8203, .int .i32 8207, .int .i32 65024, .int .i32 65039, .int .i32 1114112, .int .i32 2147483647, .int .i32 55296, .int .i32 57343] 170)).alloc (.cells #[.int .i32 4352, .int .i32 4447, .int .i32 11904, .int .i32 12350, .int .i32 12353, .int .i32 13311, .int .i32 13312, .int .i32 19903, .int .i32 19968, .int .i32 40959, .int .i32 40960, .int .i32 42191, .int .i32 44032, .int .i32 55203, .int .i32 63744, .int .i32 64255, .int .i32 65072, .int .i32 65135, .int .i32 65280, .int .i32 65376, .int .i32 65504, .int .i32 65510, .int .i32 127744, .int .i32 128591, .int .i32 129280, .int .i32 129535, .int .i32 131072, .int .i32 262141] 170)
theorem ref_zero (w : World) (i : Nat) (hi : i < 7) : (refWorld w).cell? ⟨w.heap.size, i * 2, none⟩ = some (.int .i32 (zLo i)) ∧ (refWorld w).cell? ⟨w.heap.size, i * 2 + 1, none⟩ = some (.int .i32 (zHi i)) := by
 have hb : (refWorld w).heap[w.heap.size]? = some (.cells zeroCells 170 (0, 0)) := by
  rw [refWorld, Below.heap_alloc _ _ _ (by simp)]; exact heap_alloc_new w _
 rw [cell_of_row _ _ _ _ _ (0, 0) hb, cell_of_row _ _ _ _ _ (0, 0) hb]
 exact zero_cells i hi
theorem ref_wide (w : World) (i : Nat) (hi : i < 14) : (refWorld w).cell? ⟨w.heap.size + 1, i * 2, none⟩ = some (.int .i32 (wLo i)) ∧ (refWorld w).cell? ⟨w.heap.size + 1, i * 2 + 1, none⟩ = some (.int .i32 (wHi i)) := by
 have hb : (refWorld w).heap[w.heap.size + 1]? = some (.cells wideCells 170 (0, 0)) := by
  have h := heap_alloc_new (w.alloc (.cells zeroCells 170)) (.cells wideCells 170)
  rw [World.size_alloc] at h
  exact h
 rw [cell_of_row _ _ _ _ _ (0, 0) hb, cell_of_row _ _ _ _ _ (0, 0) hb]
 exact wide_cells i hi
theorem refWidth_walk (r : Int) (hr0 : -2147483648 ≤ r) (hr1 : r ≤ 2147483647) (w : World) :
  Calls Tryz.prog 70 #[.int .i32 r] w fun e w' => e = .returned (.int .i64 (wof r)) ∧ Below w.heap.size w w' := by
 have hz := ref_zero w
 have hw := ref_wide w
 have ZH := Lib.hid hz
 have WH := Lib.hid hw
 clear hz hw
 have hbl : Below w.heap.size w (refWorld w) := ((Below.refl _ _).alloc (Nat.le_refl _) _).alloc (by simp) _
 have BL := Lib.hid hbl
 clear hbl
 go_enter Tryz.func70, Tryz.ntmps70
 go_wp2
 go_loop [5] (fun i => ∃ k : Nat, k ≤ 7 ∧ i = .int .i64 k ∧ (∀ j, j < k → ¬ (zLo j ≤ r ∧ r ≤ zHi j))) (fun i => 7 - (intOf i).toNat)
 case atStart => exact ⟨0, by omega, rfl, fun j h => by omega⟩
 case round =>
  obtain ⟨k, hk, rfl, hno⟩ := hrel
  by_cases hlt : k < 7
  ·obtain ⟨z0, z1⟩ := ZH.out k hlt
   have NO := Lib.hid hno
   have HIT := Lib.hid (wof_zero r k hlt)
   clear hno
   by_cases c1 : zLo k ≤ r
   ·by_cases c2 : r ≤ zHi k
    ·go_wp2
     go_ret
     exact ⟨ret_int (HIT.out c1 c2).symm, BL.out⟩
    ·go_wp2
     go_round
     case rel => exact ⟨k + 1, by omega, by go_num, fun j h => (Nat.lt_or_eq_of_le (Nat.le_of_lt_succ h)).elim (NO.out j) (fun e => by subst e; omega)⟩
     case measure => simp [intOf]; omega
   ·go_wp2
    go_round
    case rel => exact ⟨k + 1, by omega, by go_num, fun j h => (Nat.lt_or_eq_of_le (Nat.le_of_lt_succ h)).elim (NO.out j) (fun e => by subst e; omega)⟩
    case measure => simp [intOf]; omega
  ·obtain rfl : k = 7 := by omega
   have NO := Lib.hid hno
   clear hno
   go_wp2
   go_loop [6] (fun i => ∃ k : Nat, k ≤ 14 ∧ i = .int .i64 k ∧ (∀ j, j < k → ¬ (wLo j ≤ r ∧ r ≤ wHi j))) (fun i => 14 - (intOf i).toNat)
   case atStart => exact ⟨0, by omega, rfl, fun j h => by omega⟩
   case round =>
    obtain ⟨k, hk, rfl, hno⟩ := hrel
    by_cases hlt : k < 14
    ·obtain ⟨z0, z1⟩ := WH.out k hlt
     have NW := Lib.hid hno
     have HIT := Lib.hid (wof_wide r k hlt)
     clear hno
     by_cases c1 : wLo k ≤ r
     ·by_cases c2 : r ≤ wHi k
      ·go_wp2
       go_ret
       exact ⟨ret_int (HIT.out c1 c2).symm, BL.out⟩
      ·go_wp2
       go_round
       case rel => exact ⟨k + 1, by omega, by go_num, fun j h => (Nat.lt_or_eq_of_le (Nat.le_of_lt_succ h)).elim (NW.out j) (fun e => by subst e; omega)⟩
       case measure => simp [intOf]; omega
     ·go_wp2
      go_round
      case rel => exact ⟨k + 1, by omega, by go_num, fun j h => (Nat.lt_or_eq_of_le (Nat.le_of_lt_succ h)).elim (NW.out j) (fun e => by subst e; omega)⟩
      case measure => simp [intOf]; omega
    ·obtain rfl : k = 14 := by omega
     have M := Lib.hid (wof_none r hr0 hr1 NO.out hno)
     clear hno
     go_wp2
     go_ret
     exact ⟨ret_int M.out.symm, BL.out⟩
