import Derived.Test.YtgcfpfhmjhkgnaaGreatDoorQStore1
import Derived.Laws.IdiomStrings
import Derived.Deep.RegionLaw
import Derived.Test.YtgcfpfhmjhkgnaaGreatDoorRows
import Derived.OrdersHeld
import Derived.Deep.RegionHeld
import Derived.Carry
import Derived.ChangeOld
set_option maxRecDepth 100000
namespace Go.Proofs.YtgcfpfhmjhkgnaaGreatDoor
open Go.ChangeShapes Go.WideShapes Go.ChangeAt Go.RowKit
def strL (l : List Int) : ByteArray := ⟨(l.map fun x => UInt8.ofNat x.toNat).toArray⟩
theorem conv_sq {w : World} {B n : Nat} {A : Option Addr} {l : List Int} (hq : Sq w B 1 n A (l.map (Value.int .u8))) (h : ∀ x ∈ l, 0 ≤ x ∧ x ≤ 255) (c : Nat) :
  (convert 60 9 (.slice A n c)).run Tryz.prog w = .ok (.string (strL l)) w := by
 have hl := hq.size_ints
 rcases A with _ | ⟨b, off, sp⟩
 ·have h0 : n = 0 := by
   rcases Nat.eq_zero_or_pos n with h0 | h0
   ·exact h0
   ·obtain ⟨_, _, e, _⟩ := hq.spot h0
    cases e
  subst h0
  have e : l = [] := List.eq_nil_of_length_eq_zero hl
  subst e
  rw [run_convert_bytes_string w 60 9 5 _ 0 c Tryz.underlying60 Tryz.underlying5 Tryz.underlying9]
  simp [Conv.bytesToString]
  rfl
 ·have k := run_convert_bytes_back (P := Tryz.prog) w 60 9 5 ⟨b, off, sp⟩ c (l.map fun x => UInt8.ofNat x.toNat) Tryz.underlying60 Tryz.underlying5 Tryz.underlying9 (fun j hj => by
   have hj' : j < l.length := by simpa using hj
   obtain ⟨b', off', e, _, hc⟩ := hq.spot (by omega)
   injection e with e
   injection e with e1 e2 e3
   subst e1 e2 e3
   rw [add_at', hc j (.int .u8 l[j]) (by simp [hj'])]
   obtain ⟨h0, h1⟩ := h _ (List.getElem_mem hj')
   simp only [List.getElem_map]
   obtain ⟨n, hn⟩ := Int.eq_ofNat_of_zero_le h0
   rw [hn]
   have : n < 256 := by omega
   simp [Nat.mod_eq_of_lt this])
  rw [List.length_map, hl] at k
  exact k
theorem HasB.sq {w : World} {base n c : Nat} {A : Option Addr} {l : List Int} (h : HasB w base (.slice A n c) l) : Sq w w.heap.size 1 n A (l.map (Value.int .u8)) := by
 obtain ⟨A', c', e⟩ := HasB.shape h
 injection e with e1 e2 e3
 subst e1 e2 e3
 exact Sq.own h
theorem run_app {P : Program} (w : World) (t ty : TypeId) (base : Nat) (e : TypeId) (i : TypeInfo) (z : Value) (size bytes : Nat) (ht : P.underlying t = some (.slice e)) (hi : P.info? e = some i) (hz : i.zero = some z)
  (hsize : i.size = size) (hby : i.bytes = bytes) (hzs : z.cells.size = size) (hsz : 0 < size) (v : Value) (n : Nat) (xs : List Value) (hown : w.ownsRow base e size v n xs)
  (A : Option Addr) (m c : Nat) (news : List Value) (B : Nat) (hq : Sq w B size m A news) (h1 : ∀ u ∈ news, u.oneCell' = true) (h63 : n + m ≤ maxLen) (hbytes : (n + m) * bytes ≤ 140737488355328) (hbase : base ≤ w.heap.size) :
  ∃ A' c' w', (Builtin.append_ #[t, t] ty #[v, .slice A m c]).run P w = .ok (.slice A' (n + m) c') w' ∧ w'.ownsRow base e size (.slice A' (n + m) c') (n + m) (xs ++ news) ∧ w.grownBy w' v.ownBlock ∧ ((Value.slice A' (n + m) c').ownBlock = v.ownBlock ∨ (Value.slice A' (n + m) c').ownBlock = some w.heap.size) := by
 have shape : ∀ {w' : World} {v' : Value} {k : Nat} {ys : List Value}, w'.ownsRow base e size v' k ys → ∃ A' c', v' = .slice A' k c' := fun h => by
  rcases h.2 with ⟨rfl, h0⟩ | ⟨g, cap, cur, rfl, _⟩
  ·rw [h0]; exact ⟨_, _, rfl⟩
  ·exact ⟨_, _, rfl⟩
 rcases A with _ | ad
 ·have hm : m = 0 := by
   rcases Nat.eq_zero_or_pos m with h0 | h0
   ·exact h0
   ·obtain ⟨_, _, e, _⟩ := hq.spot h0
    cases e
  subst hm
  have hn : news = [] := List.eq_nil_of_length_eq_zero (by have := hq.len; omega)
  subst hn
  have hrun := run_app_nil (P := P) (ty := ty) ht hi hown c
  obtain ⟨A', c', rfl⟩ := shape hown
  refine ⟨A', c', w, hrun, by simpa using hown, ⟨rfl, rfl, rfl, Nat.le_refl _, fun _ _ _ => rfl⟩, .inl rfl⟩
 ·obtain ⟨v', w', hr, h2, h3, _, h5⟩ := run_append_own_at (P := P) w base t ty e i z size bytes ht hi hz hsize hby hzs hsz v n xs hown ad m c news hq.len (fun j u hu => by
   have hj : 0 < m := by
    rcases Nat.eq_zero_or_pos m with h0 | h0
    ·subst h0
     have hn : news = [] := List.eq_nil_of_length_eq_zero (by have := hq.len; omega)
     subst hn
     simp at hu
    ·exact h0
   obtain ⟨b, off, e, _, hc⟩ := hq.spot hj
   injection e with e
   subst e
   rw [add_spot]
   exact hc j u hu) h1 h63 hbytes hbase
  obtain ⟨A', c', rfl⟩ := shape h2
  exact ⟨A', c', w', hr, h2, h3, h5⟩
theorem step_app {P : Program} {w : World} {ops : Array Oper} {o : Oper} {a : Act} {K : Act → World → Prop} {Q : Exit → Act → World → Prop} {E : Prop} (hgd : o.guard = none) (s x : Operand) (t : TypeId)
  (ho : o.op = .call { callee := .builtin .append, args := #[s, x], argTypes := #[t, t] })
  (base : Nat) (e : TypeId) (i : TypeInfo) (z : Value) (size bytes : Nat) (ht : P.underlying t = some (.slice e)) (hi : P.info? e = some i) (hz : i.zero = some z)
  (hsize : i.size = size) (hby : i.bytes = bytes) (hzs : z.cells.size = size) (hsz : 0 < size) (v : Value) (n : Nat) (xs : List Value) (hs : a.eval s = v) (hown : w.ownsRow base e size v n xs)
  (A : Option Addr) (m c : Nat) (news : List Value) (hx : a.eval x = .slice A m c) (B : Nat) (hq : Sq w B size m A news) (h1 : ∀ u ∈ news, u.oneCell' = true) (h63 : n + m ≤ maxLen) (hbytes : (n + m) * bytes ≤ 140737488355328) (hbase : base ≤ w.heap.size)
  (h : ∀ A' c' w', w'.ownsRow base e size (.slice A' (n + m) c') (n + m) (xs ++ news) → w.grownBy w' v.ownBlock → ((Value.slice A' (n + m) c').ownBlock = v.ownBlock ∨ (Value.slice A' (n + m) c').ownBlock = some w.heap.size) → K (a.put o.dst (.slice A' (n + m) c')) w') :
  if Region.wanted o (yielded ops a.tmps) = true then Oper.wp P o a w K Q else E := by
 have hw : Region.wanted o (yielded ops a.tmps) = true := by simp [Region.wanted, hgd]
 rw [if_pos hw]
 obtain ⟨A', c', w', hr, h2, h3, h4⟩ := run_app (P := P) w t o.type base e i z size bytes ht hi hz hsize hby hzs hsz v n xs hown A m c news B hq h1 h63 hbytes hbase
 unfold Oper.wp execOp
 simp only [ho, resolve, invoke, builtin, Sem.run_bind, Sem.run_pure, Result.andThen_ok, List.map_toArray, List.map_cons, List.map_nil, hs, hx, hr]
 exact h A' c' w' h2 h3 h4
namespace Chain
section
variable {P : Program} {ops : Array Oper} {Q : Exit → Act → World → Prop} {S : World → Prop}
def done (n k : Nat) : Array Bool := (List.replicate k true ++ List.replicate (n - k) false).toArray
theorem done_zero (n : Nat) : done n 0 = Array.replicate n false := by
 unfold done; apply Array.ext'; simp
theorem done_set {n k : Nat} (h : k < n) : (done n k).setIfInBounds k true = done n (k + 1) := by
 unfold done
 apply Array.ext'
 obtain ⟨m, hm⟩ : ∃ m, n - k = m + 1 := ⟨n - k - 1, by omega⟩
 have e : n - (k + 1) = m := by omega
 rw [hm, e]
 simp only [List.setIfInBounds_toArray]
 rw [List.set_append, List.replicate_succ (n := m), List.replicate_succ' (n := k)]
 simp
theorem done_get {n k : Nat} (hk : k ≤ n) (j : Nat) (b : Bool) : (done n k).getD j b = if j < k then true else if j < n then false else b := by
 unfold done
 simp only [Array.getD_eq_getD_getElem?, List.getElem?_toArray, List.getElem?_append, List.length_replicate, List.getElem?_replicate]
 by_cases h1 : j < k
 ·simp [h1]
 ·by_cases h2 : j < n
  ·simp [h1, h2, show j - k < n - k by omega]
  ·simp [h1, h2, show ¬ j - k < n - k by omega]
def most : List Edge → Nat
 | [] => 0
 | e :: l => if Region.binds .any e then max (e.on + 1) (most l) else most l
theorem most_le (l : List Edge) (k : Nat) : most l ≤ k ↔ ∀ e ∈ l, Region.binds .any e = true → e.on < k := by
 induction l with
 | nil => simp [most]
 | cons e l ih =>
  unfold most
  by_cases h : Region.binds .any e = true
  ·rw [if_pos h]
   constructor
   ·intro hm x hx hb
    rcases List.mem_cons.1 hx with rfl | hx
    ·omega
    ·exact ih.1 (by omega) x hx hb
   ·intro hm
    have h1 := hm e (by simp) h
    have h2 := ih.2 fun x hx => hm x (by simp [hx])
    omega
  ·rw [if_neg h, ih]
   constructor
   ·intro hm x hx hb
    rcases List.mem_cons.1 hx with rfl | hx
    ·exact absurd hb h
    ·exact hm x hx hb
   ·intro hm x hx; exact hm x (by simp [hx])
abbrev Line := Option Tmp × Op × Option (Nat × Bool) × Nat
def line (o : Oper) : Line := (o.dst, o.op, o.guard, most o.after.toList)
def look (ops : Array Oper) : List Line := ops.toList.map line
def ups (k : Nat) : Nat → List Line → List Nat
 | _, [] => []
 | j, x :: l => if Nat.ble k j && Nat.ble x.2.2.2 k then j :: ups k (j + 1) l else ups k (j + 1) l
theorem mem_ups (k : Nat) : ∀ (l : List Line) (j i : Nat), i ∈ ups k j l ↔ ∃ m x, l[m]? = some x ∧ i = j + m ∧ k ≤ i ∧ x.2.2.2 ≤ k
 | [], j, i => by simp [ups]
 | x :: l, j, i => by
  have ih := mem_ups k l (j + 1) i
  unfold ups
  have rest : (∃ m y, (x :: l)[m + 1]? = some y ∧ i = j + (m + 1) ∧ k ≤ i ∧ y.2.2.2 ≤ k) ↔ i ∈ ups k (j + 1) l := by
   rw [ih]
   constructor
   ·rintro ⟨m, y, h1, h2, h3⟩; exact ⟨m, y, by simpa using h1, by omega, h3⟩
   ·rintro ⟨m, y, h1, h2, h3⟩; exact ⟨m, y, by simpa using h1, by omega, h3⟩
  by_cases h : (Nat.ble k j && Nat.ble x.2.2.2 k) = true
  ·rw [if_pos h]
   have h' : k ≤ j ∧ x.2.2.2 ≤ k := by simpa using h
   rw [List.mem_cons]
   constructor
   ·rintro (rfl | hi)
    ·exact ⟨0, x, rfl, rfl, h'.1, h'.2⟩
    ·obtain ⟨m, y, h1⟩ := rest.2 hi; exact ⟨m + 1, y, h1⟩
   ·rintro ⟨m, y, h1, h2, h3⟩
    cases m with
    | zero => left; omega
    | succ m => right; exact rest.1 ⟨m, y, h1, h2, h3⟩
  ·rw [if_neg h]
   have h' : ¬ (k ≤ j ∧ x.2.2.2 ≤ k) := by simpa using h
   constructor
   ·intro hi; obtain ⟨m, y, h1⟩ := rest.2 hi; exact ⟨m + 1, y, h1⟩
   ·rintro ⟨m, y, h1, h2, h3, h4⟩
    cases m with
    | zero => simp at h1; subst h1; exact absurd ⟨by omega, h4⟩ h'
    | succ m => exact rest.1 ⟨m, y, h1, h2, h3, h4⟩
theorem mem_ready_done {L : List Line} {n k i : Nat} (hL : look ops = L) (hn : ops.size = n) (hk : k ≤ n) : i ∈ Region.ready .any ops (done n k) ↔ i ∈ ups k 0 L := by
 subst hL
 rw [mem_ready, mem_ups, done_get hk]
 have hlook : ∀ m : Nat, (look ops)[m]? = (ops[m]?).map line := fun m => by unfold look; simp
 constructor
 ·rintro ⟨h1, o, ho, he⟩
  have hi : i < n := by rw [← hn]; exact (Array.getElem?_eq_some_iff.1 ho).1
  have hki : k ≤ i := by
   rcases Nat.lt_or_ge i k with h | h
   ·rw [if_pos h] at h1; cases h1
   ·exact h
  refine ⟨i, line o, by rw [hlook, ho]; rfl, by omega, hki, ?_⟩
  show most o.after.toList ≤ k
  rw [most_le]
  intro e hm hb
  have := he e (by simpa using hm) hb
  rw [done_get hk] at this
  by_cases h : e.on < k
  ·exact h
  ·rw [if_neg h] at this
   split at this <;> cases this
 ·rintro ⟨m, x, h1, h2, h3, h4⟩
  rw [hlook, Option.map_eq_some_iff] at h1
  obtain ⟨o, ho, rfl⟩ := h1
  have hm : m < n := by rw [← hn]; exact (Array.getElem?_eq_some_iff.1 ho).1
  obtain rfl : i = m := by omega
  refine ⟨by rw [if_neg (by omega), if_pos hm], o, ho, fun e he hb => ?_⟩
  rw [done_get hk, if_pos ((most_le _ _).1 h4 e (by simpa using he) hb)]
theorem ready_one {L : List Line} {n k : Nat} (hL : look ops = L) (hn : ops.size = n) (hk : k ≤ n) (h : ups k 0 L = [k]) : ∀ i ∈ Region.ready .any ops (done n k), i = k := fun i hi => by
 have := (mem_ready_done hL hn hk).1 hi
 rw [h] at this
 simpa using this
def At (a : Act) (t : Nat) (v : Value) : Prop := a.tmps[t]? = some v
theorem At.ev {a : Act} {t : Nat} {v : Value} (h : At a t v) : a.eval (.tmp t) = v := by
 unfold At at h
 simp [Act.eval, h]
theorem At.lt {a : Act} {t : Nat} {v : Value} (h : At a t v) : t < a.tmps.size := (Array.getElem?_eq_some_iff.1 h).1
theorem at_same {a : Act} {t : Nat} (h : t < a.tmps.size) (v : Value) : At (a.put (some t) v) t v := by
 unfold At Act.put
 simp [h]
theorem At.put {a : Act} {t : Nat} {v : Value} (h : At a t v) {d : Nat} (hd : d ≠ t) (u : Value) : At (a.put (some d) u) t v := by
 unfold At Act.put at *
 simp only
 rw [Array.getElem?_setIfInBounds_ne hd]
 exact h
theorem size_put (a : Act) (d : Nat) (u : Value) : (a.put (some d) u).tmps.size = a.tmps.size := by unfold Act.put; simp
def Open (ops : Array Oper) (a : Act) : Option (Nat × Bool) → Prop
 | none => True
 | some (j, b) => ∃ t, ((ops[j]?).bind (·.dst)) = some t ∧ At a t (.bool b)
theorem Open.wanted {a : Act} {o : Oper} (h : Open ops a o.guard) : Region.wanted o (yielded ops a.tmps) = true := by
 unfold Region.wanted
 cases hg : o.guard with
 | none => rfl
 | some p =>
  obtain ⟨j, b⟩ := p
  rw [hg] at h
  obtain ⟨t, ht, hat⟩ := h
  have : yielded ops a.tmps j = some b := by
   unfold yielded
   rw [ht]
   unfold At at hat
   simp [hat]
  simp [this]
theorem line_get {L : List Line} (hL : look ops = L) {k : Nat} {d : Option Tmp} {op : Op} {g : Option (Nat × Bool)} {m : Nat} (h : L[k]? = some (d, op, g, m)) : ∃ o, ops[k]? = some o ∧ o.dst = d ∧ o.op = op ∧ o.guard = g := by
 subst hL
 unfold look at h
 simp only [List.getElem?_map, Option.map_eq_some_iff, Array.getElem?_toList, line, Prod.mk.injEq] at h
 obtain ⟨o, ho, h1, h2, h3, _⟩ := h
 exact ⟨o, ho, h1, h2, h3⟩
theorem exec_shape (ρ : Operand → Value) (o : Oper) : execOp ρ o = execOp ρ ⟨o.dst, o.op, o.type, "", #[], none⟩ := by
 cases o; rfl
structure Next (a a' : Act) (d : Nat) (v : Value) : Prop where
 size : a'.tmps.size = a.tmps.size
 defers : a'.defers = a.defers
 got : At a' d v
 keep : ∀ t u, d ≠ t → At a t u → At a' t u
theorem Next.k {a a' : Act} {d x : Nat} {v u : Value} (N : Next a a' d v) (f : At a x u) (h : d ≠ x := by decide) : At a' x u := N.keep x _ h f
theorem next {a : Act} {d : Nat} (h : d < a.tmps.size) (v : Value) : Next a (a.put (some d) v) d v := ⟨size_put a d v, rfl, at_same h v, fun _ _ hd h => h.put hd v⟩
structure Reg (ops : Array Oper) (L : List Line) (n : Nat) : Prop where
 look : look ops = L
 size : ops.size = n
theorem Reg.opened {L : List Line} {n : Nat} (R : Reg ops L n) {a : Act} {j t m : Nat} {b : Bool} {op : Op} {g : Option (Nat × Bool)} (h : L[j]? = some (some t, op, g, m)) (hat : At a t (.bool b)) : Open ops a (some (j, b)) := by
 obtain ⟨o, ho, h1, _, _⟩ := line_get R.look h
 exact ⟨t, by rw [ho]; exact h1, hat⟩
theorem forced {L : List Line} {n k fuel : Nat} {a : Act} {w : World} (R : Reg ops L n) (hr : ups k 0 L = [k]) (hk : k < n) (h : wpOp P ops Q k (fun a' w' => S w' ∧ wpAnyH P .any ops Q S fuel (done n (k + 1)) a' w') a w) : wpAnyH P .any ops Q S (fuel + 1) (done n k) a w := by
 refine ⟨fun h0 => ?_, fun i hi => ?_⟩
 ·have := (mem_ready_done R.look R.size (Nat.le_of_lt hk)).2 (show k ∈ ups k 0 L by rw [hr]; simp)
  rw [h0] at this
  cases this
 ·obtain rfl := ready_one R.look R.size (Nat.le_of_lt hk) hr i hi
  rw [done_set hk]
  exact h
theorem value {L : List Line} {n k fuel d m : Nat} {op : Op} {g : Option (Nat × Bool)} {v : Value} {a : Act} {w w1 : World} (R : Reg ops L n) (hs : L[k]? = some (some d, op, g, m)) (hr : ups k 0 L = [k]) (hk : k < n)
  (hg : Open ops a g) (hS : S w1) (hv : ∀ ty, (execOp a.eval ⟨some d, op, ty, "", #[], none⟩).run P w = .ok (.value v) w1) (hd : d < a.tmps.size)
  (h : ∀ a', Next a a' d v → wpAnyH P .any ops Q S fuel (done n (k + 1)) a' w1) : wpAnyH P .any ops Q S (fuel + 1) (done n k) a w := by
 obtain ⟨o, ho, e1, e2, e3⟩ := line_get R.look hs
 subst e2 e3
 refine forced R hr hk (wpOp_step ho fun K hK => ?_)
 rw [if_pos hg.wanted]
 unfold Oper.wp
 rw [exec_shape, e1, hv]
 simp only [Oper.upon, e1]
 exact hK _ _ ⟨hS, h _ (next hd v)⟩
theorem At.u {a : Act} {t : Nat} {v : Value} (h : At a t v) : a.tmps[t]? = some v := h
theorem vl {L : List Line} {n fuel d m : Nat} {op : Op} {a : Act} {w w1 : World} (R : Reg ops L n) (k : Nat) (v : Value) (hs : L[k]? = some (some d, op, none, m)) (hS : S w1) (hv : ∀ ty, (execOp a.eval ⟨some d, op, ty, "", #[], none⟩).run P w = .ok (.value v) w1) (hd : d < a.tmps.size)
  (h : ∀ a', Next a a' d v → wpAnyH P .any ops Q S fuel (done n (k + 1)) a' w1) (hr : ups k 0 L = [k] := by kernel_rfl) (hk : k < n := by decide) : wpAnyH P .any ops Q S (fuel + 1) (done n k) a w := value (g := none) R hs hr hk trivial hS hv hd h
theorem take {L : List Line} {n k fuel d m : Nat} {op : Op} {g : Option (Nat × Bool)} {v : Value} {a : Act} {w : World} (R : Reg ops L n) (hs : L[k]? = some (some d, op, g, m)) (hr : (ups k 0 L).contains k = true) (hk : k < n)
  (hns : Region.noSelect ops = true) (hf : Region.free .any ops (done n k) k = true) (hQ : ∀ c a w d v, Q (.panic c) (Act.put a (some d) v) w → Q (.panic c) a w)
  (hg : Open ops a g) (hS : S w) (hv : ∀ w ty, S w → (execOp a.eval ⟨some d, op, ty, "", #[], none⟩).run P w = .ok (.value v) w) (hd : d < a.tmps.size)
  (h : ∀ a', Next a a' d v → wpAnyH P .any ops Q S fuel (done n (k + 1)) a' w) : wpAnyH P .any ops Q S (fuel + 1) (done n k) a w := by
 obtain ⟨o, ho, e1, e2, e3⟩ := line_get R.look hs
 subst e2 e3
 have hr' : (Region.ready .any ops (done n k)).contains k = true := by
  have := (mem_ready_done R.look R.size (Nat.le_of_lt hk)).2 (show k ∈ ups k 0 L by simpa using hr)
  simpa using this
 refine wpAnyH_take (oi := o) (v := v) ho hns hf hr' (fun c a w => by rw [e1]; exact hQ c a w d v) (.inl ⟨hg.wanted, fun w hw => ?_⟩) hS ?_
 ·rw [exec_shape, e1]; exact hv w _ hw
 ·rw [done_set hk, e1]; exact h _ (next hd v)
def enters (P : Program) (f : Nat) : Bool := (P.funcs[f]?).elim false fun fn => !(fn.name == "runtime.NumGoroutine") && fn.body.isSome
theorem run_enters {f : Nat} (h : enters P f = true) (args : Array Value) (w : World) : (callFunc f args).run P w = .ok (.enter f args) w := by
 unfold enters at h
 cases hf : P.funcs[f]? with
 | none => rw [hf] at h; cases h
 | some fn =>
  rw [hf] at h
  simp only [Option.elim_some, Bool.and_eq_true, Bool.not_eq_true'] at h
  obtain ⟨h0, h2⟩ := h
  have h1 : fn.name ≠ "runtime.NumGoroutine" := by simpa using h0
  obtain ⟨c, hb⟩ := Option.isSome_iff_exists.1 h2
  simp [callFunc, hf, h1, hb]
theorem call {L : List Line} {n k fuel d m f : Nat} {xs : Array Operand} {ts : Array TypeId} {args : Array Value} {g : Option (Nat × Bool)} {a : Act} {w : World} {Post : Ending → World → Prop} (R : Reg ops L n)
  (hs : L[k]? = some (some d, .call { callee := .value (.func f), args := xs, argTypes := ts }, g, m)) (hr : ups k 0 L = [k]) (hk : k < n)
  (hg : Open ops a g) (ha : xs.map a.eval = args) (hf : enters P f = true) (hc : Calls P f args w Post) (hd : d < a.tmps.size)
  (h : ∀ e w', Post e w' → ∃ v, e = .returned v ∧ S w' ∧ ∀ a', Next a a' d v → wpAnyH P .any ops Q S fuel (done n (k + 1)) a' w') : wpAnyH P .any ops Q S (fuel + 1) (done n k) a w := by
 obtain ⟨o, ho, e1, e2, e3⟩ := line_get R.look hs
 subst e3
 refine forced R hr hk (wpOp_step ho fun K hK => ?_)
 rw [if_pos hg.wanted]
 unfold Oper.wp
 have he : (execOp a.eval o).run P w = .ok (.enter f args) w := by
  rw [exec_shape, e1, e2]
  subst ha
  simp [execOp, resolve, invoke, Act.eval, Deferred.ofValue, run_enters hf]
 rw [he, Oper.upon_enter]
 refine hc.mono fun e w' hp => ?_
 obtain ⟨v, rfl, hS, hw⟩ := h e w' hp
 rw [e1]
 exact hK _ _ ⟨hS, hw _ (next hd v)⟩
theorem finish {L : List Line} {n fuel : Nat} {a : Act} {w : World} (R : Reg ops L n) (hr : ups n 0 L = []) (h : Q .normal a w) : wpAnyH P .any ops Q S fuel (done n n) a w := by
 refine wpAnyH_done (List.eq_nil_iff_forall_not_mem.2 fun i hi => ?_) h fuel
 have := (mem_ready_done R.look R.size (Nat.le_refl n)).1 hi
 rw [hr] at this
 cases this
theorem start {L : List Line} {n id : Nat} {a : Act} {w : World} (R : Reg ops L n) (hm : P.follows .mixedOrders = true) (hS : S w.drew) (h : wpAnyH P .any ops Q S n (done n 0) a w.drew) : (Code.region id ops true).wp P Q a w := by
 refine wp_region_held_drew (S := S) hm hS fun _ => ?_
 rw [R.size, ← done_zero]
 exact h
/-! What the operations yield. -/
variable {ρ : Operand → Value} {d : Option Tmp} {ty : TypeId} {w : World}
theorem ev_move {x : Operand} {v : Value} (h : ρ x = v) : (execOp ρ ⟨d, .move x, ty, "", #[], none⟩).run P w = .ok (.value v) w := by simp [execOp, h]
theorem ev_assign {x : Operand} {v : Value} (h : ρ x = v) : (execOp ρ ⟨d, .assign x, ty, "", #[], none⟩).run P w = .ok (.value v) w := by simp [execOp, h]
theorem ev_pick {c x y : Operand} {v : Value} (hc : ρ c = .bool true) (h : ρ x = v) : (execOp ρ ⟨d, .pick c x y, ty, "", #[], none⟩).run P w = .ok (.value v) w := by simp [execOp, h, hc, asBool]
theorem ev_eql_int {x y : Operand} {xt rt : TypeId} {k : IntKind} {i j : Int} (hx : ρ x = .int k i) (hy : ρ y = .int k j) (h : i = j) : (execOp ρ ⟨d, .binOp .eql xt x y rt, ty, "", #[], none⟩).run P w = .ok (.value (.bool true)) w := by
 subst h
 simp [execOp, hx, hy, go_sem]
theorem ev_eql_str {x y : Operand} {xt rt : TypeId} {s u : ByteArray} (hx : ρ x = .string s) (hy : ρ y = .string u) (h : s = u) : (execOp ρ ⟨d, .binOp .eql xt x y rt, ty, "", #[], none⟩).run P w = .ok (.value (.bool true)) w := by
 subst h
 simp [execOp, hx, hy, go_sem]
theorem ev_len {x : Operand} {t e : TypeId} {A : Option Addr} {n c : Nat} (ht : P.underlying t = some (.slice e)) (hx : ρ x = .slice A n c) : (execOp ρ ⟨d, .call { callee := .builtin .len, args := #[x], argTypes := #[t] }, ty, "", #[], none⟩).run P w = .ok (.value (.int .i64 n)) w := by
 simp [hx, go_sem, Builtin.len_, run_underlying ht, goInt]
end
end Chain
namespace Ord
open Chain (exec_shape next enters run_enters)
abbrev Line := Option Tmp × Op × Option (Nat × Bool) × List Nat
def preds (l : List Edge) : List Nat := l.filterMap fun e => if Region.binds .any e then some e.on else none
def line (o : Oper) : Line := (o.dst, o.op, o.guard, preds o.after.toList)
def look (ops : Array Oper) : List Line := ops.toList.map line
def up (bs : List Bool) (L : List Line) : List Nat := (List.range L.length).filter fun j => !(bs.getD j true) && (L[j]?).elim false fun x => x.2.2.2.all fun p => bs.getD p false
section
variable {P : Program} {ops : Array Oper} {Q : Exit → Act → World → Prop} {S : World → Prop} {L : List Line}
theorem mem_up (hL : look ops = L) (bs : List Bool) (i : Nat) : i ∈ Region.ready .any ops bs.toArray ↔ i ∈ up bs L := by
  subst hL
  unfold up
  rw [mem_ready, List.mem_filter, List.mem_range]
  have hl : (look ops)[i]? = (ops[i]?).map line := by unfold look; simp
  rw [hl]
  constructor
  · rintro ⟨h1, o, ho, he⟩
    refine ⟨by unfold look; simpa using (Array.getElem?_eq_some_iff.1 ho).1, ?_⟩
    rw [ho]
    simp only [Option.map_some, Option.elim_some, Bool.and_eq_true, Bool.not_eq_true', List.all_eq_true]
    refine ⟨by simpa [Array.getD_eq_getD_getElem?] using h1, fun p hp => ?_⟩
    simp only [line, preds, List.mem_filterMap] at hp
    obtain ⟨e, hm, h⟩ := hp
    by_cases hb : Region.binds .any e = true
    · rw [if_pos hb] at h
      injection h with h
      subst h
      have := he e (by simpa using hm) hb
      simpa [Array.getD_eq_getD_getElem?] using this
    · rw [if_neg hb] at h; cases h
  · rintro ⟨_, h⟩
    cases ho : ops[i]? with
    | none => rw [ho] at h; simp at h
    | some o =>
      rw [ho] at h
      simp only [Option.map_some, Option.elim_some, Bool.and_eq_true, Bool.not_eq_true', List.all_eq_true] at h
      refine ⟨by simpa [Array.getD_eq_getD_getElem?] using h.1, o, rfl, fun e he hb => ?_⟩
      have := h.2 e.on (by
        simp only [line, preds, List.mem_filterMap]
        exact ⟨e, by simpa using he, by rw [if_pos hb]⟩)
      simpa [Array.getD_eq_getD_getElem?] using this
def looksL (L : List Line) (x : Line) : List Tmp :=
  (x.2.1.operands.toList.filterMap fun | .tmp t => some t | _ => none) ++
  (match x.2.2.1 with
   | some (g, _) => ((L[g]?).bind (·.1)).toList
   | none => [])
def apartL (L : List Line) (x y : Line) : Bool :=
  (match x.1 with
   | some d => !(looksL L y).contains d && y.1 != some d
   | none => true) &&
  (match y.1 with
   | some d => !(looksL L x).contains d
   | none => true)
def freeL (bs : List Bool) (L : List Line) (i : Nat) : Bool :=
  match L[i]? with
  | none => false
  | some x => (List.range L.length).all fun j => j == i || bs.getD j true || match L[j]? with
      | some y => y.2.2.2.contains i || apartL L x y
      | none => true
theorem looks_line (hL : look ops = L) (o : Oper) : o.looksAt ops = looksL L (line o) := by
  subst hL
  unfold Oper.looksAt looksL line
  simp only
  congr 1
  cases o.guard with
  | none => rfl
  | some p =>
    obtain ⟨g, b⟩ := p
    simp only
    have hl : (look ops)[g]? = (ops[g]?).map line := by unfold look; simp
    rw [hl]
    cases ops[g]? with
    | none => rfl
    | some o' => rfl
theorem apart_line (hL : look ops = L) (x y : Oper) : x.apart ops y = apartL L (line x) (line y) := by
  unfold Oper.apart apartL
  rw [looks_line hL, looks_line hL]
  rfl
theorem free_of (hL : look ops = L) (bs : List Bool) (i : Nat) (h : freeL bs L i = true) : Region.free .any ops bs.toArray i = true := by
  unfold freeL at h
  unfold Region.free
  have hl : ∀ j : Nat, L[j]? = (ops[j]?).map line := fun j => by subst hL; unfold look; simp
  have hsz : L.length = ops.size := by subst hL; unfold look; simp
  cases ho : ops[i]? with
  | none => rw [hl, ho] at h; simp at h
  | some oi =>
    rw [hl, ho] at h
    simp only [Option.map_some, List.all_eq_true] at h ⊢
    intro j hj
    have hj2 := h j (by rw [hsz]; exact hj)
    simp only [Bool.or_eq_true] at hj2 ⊢
    rcases hj2 with (h1 | h1) | h1
    · exact .inl (.inl h1)
    · exact .inl (.inr (by simpa [Array.getD_eq_getD_getElem?] using h1))
    · right
      rw [hl] at h1
      cases hoj : ops[j]? with
      | none => rfl
      | some oj =>
        rw [hoj] at h1
        simp only [Option.map_some, Bool.or_eq_true] at h1 ⊢
        rcases h1 with h1 | h1
        · left
          simp only [line, preds, List.contains_iff_mem, List.mem_filterMap] at h1
          obtain ⟨e, he, h2⟩ := h1
          rw [Array.any_eq_true']
          by_cases hb : Region.binds .any e = true
          · rw [if_pos hb] at h2
            injection h2 with h2
            exact ⟨e, by simpa using he, by simp [hb, h2]⟩
          · rw [if_neg hb] at h2; cases h2
        · right
          rw [apart_line hL]; exact h1
structure Reg (ops : Array Oper) (L : List Line) : Prop where
  look : look ops = L
  noSelect : Region.noSelect ops = true
theorem line_get (hL : look ops = L) {k : Nat} {d : Option Tmp} {op : Op} {g : Option (Nat × Bool)} {m : List Nat} (h : L[k]? = some (d, op, g, m)) : ∃ o, ops[k]? = some o ∧ o.dst = d ∧ o.op = op ∧ o.guard = g := by
  subst hL
  unfold look at h
  simp only [List.getElem?_map, Option.map_eq_some_iff, Array.getElem?_toList, line, Prod.mk.injEq] at h
  obtain ⟨o, ho, h1, h2, h3, _⟩ := h
  exact ⟨o, ho, h1, h2, h3⟩
theorem Reg.opened (R : Reg ops L) {a : Act} {j t : Nat} {b : Bool} {op : Op} {g : Option (Nat × Bool)} {m : List Nat} (h : L[j]? = some (some t, op, g, m)) (hat : Chain.At a t (.bool b)) : Chain.Open ops a (some (j, b)) := by
  obtain ⟨o, ho, h1, _, _⟩ := line_get R.look h
  exact ⟨t, by rw [ho]; exact h1, hat⟩
def Shut (ops : Array Oper) (a : Act) : Option (Nat × Bool) → Prop
  | none => False
  | some (j, b) => ∃ t v, ((ops[j]?).bind (·.dst)) = some t ∧ Chain.At a t v ∧ v ≠ .bool b
theorem Shut.wanted {a : Act} {o : Oper} (h : Shut ops a o.guard) : Region.wanted o (yielded ops a.tmps) = false := by
  unfold Region.wanted
  cases hg : o.guard with
  | none => rw [hg] at h; exact h.elim
  | some p =>
    obtain ⟨j, b⟩ := p
    rw [hg] at h
    obtain ⟨t, v, ht, hat, hv⟩ := h
    simp only
    cases hy : yielded ops a.tmps j with
    | none => rfl
    | some c =>
      unfold yielded at hy
      rw [ht] at hy
      unfold Chain.At at hat
      simp only [Option.bind_some, hat] at hy
      split at hy
      · rename_i b' e
        injection e with e
        injection hy with hy
        subst e hy
        cases hc : (some b' == some b)
        · rfl
        · exact absurd (by simp at hc; rw [hc]) hv
      · cases hy
theorem Reg.shut (R : Reg ops L) {a : Act} {j t : Nat} {b : Bool} {v : Value} {op : Op} {g : Option (Nat × Bool)} {m : List Nat} (h : L[j]? = some (some t, op, g, m)) (hat : Chain.At a t v) (hv : v ≠ .bool b) : Shut ops a (some (j, b)) := by
  obtain ⟨o, ho, h1, _, _⟩ := line_get R.look h
  exact ⟨t, v, by rw [ho]; exact h1, hat, hv⟩
theorem ne_not {b c : Bool} (h : (b == c) = false) : (Value.bool b) ≠ .bool c := fun e => by injection e with e; subst e; simp at h
theorem ne_undef (c : Bool) : undef ≠ Value.bool c := fun e => by unfold undef at e; cases e
def upto (k n : Nat) : List Bool := List.replicate k true ++ List.replicate (n - k) false
def okT (bs : List Bool) (L : List Line) (k : Nat) (bs' : List Bool) : Bool := (up bs L).contains k && freeL bs L k && bs.set k true == bs'
def okF (bs : List Bool) (L : List Line) (k : Nat) (bs' : List Bool) : Bool := up bs L == [k] && bs.set k true == bs'
theorem forced {bs bs' : List Bool} {i fuel : Nat} {a : Act} {w : World} (R : Reg ops L) (hok : okF bs L i bs' = true) (h : wpOp P ops Q i (fun a' w' => S w' ∧ wpAnyH P .any ops Q S fuel bs'.toArray a' w') a w) : wpAnyH P .any ops Q S (fuel + 1) bs.toArray a w := by
  simp only [okF, Bool.and_eq_true, beq_iff_eq] at hok
  obtain ⟨hr, hb⟩ := hok
  subst hb
  refine ⟨fun h0 => ?_, fun j hj => ?_⟩
  · have := (mem_up R.look bs i).2 (by rw [hr]; simp)
    rw [h0] at this
    cases this
  · have hj' := (mem_up R.look bs j).1 hj
    rw [hr] at hj'
    obtain rfl : j = i := by simpa using hj'
    rw [List.setIfInBounds_toArray]
    exact h
theorem take {bs bs' : List Bool} {k fuel d : Nat} {m : List Nat} {op : Op} {g : Option (Nat × Bool)} {v : Value} {a : Act} {w : World} (R : Reg ops L) (hs : L[k]? = some (some d, op, g, m)) (hok : okT bs L k bs' = true) (hQ : ∀ c a w d v, Q (.panic c) (Act.put a (some d) v) w → Q (.panic c) a w)
    (hg : Chain.Open ops a g) (hS : S w) (hv : ∀ w ty, S w → (execOp a.eval ⟨some d, op, ty, "", #[], none⟩).run P w = .ok (.value v) w) (hd : d < a.tmps.size)
    (h : ∀ a', Chain.Next a a' d v → wpAnyH P .any ops Q S fuel bs'.toArray a' w) : wpAnyH P .any ops Q S (fuel + 1) bs.toArray a w := by
  simp only [okT, Bool.and_eq_true, beq_iff_eq] at hok
  obtain ⟨⟨hr, hf⟩, hb⟩ := hok
  subst hb
  obtain ⟨o, ho, e1, e2, e3⟩ := line_get R.look hs
  subst e2 e3
  have hr' : (Region.ready .any ops bs.toArray).contains k = true := by
    have := (mem_up R.look bs k).2 (by simpa using hr)
    simpa using this
  refine wpAnyH_take (oi := o) (v := v) ho R.noSelect (free_of R.look bs k hf) hr' (fun c a w => by rw [e1]; exact hQ c a w d v) (.inl ⟨hg.wanted, fun w hw => ?_⟩) hS ?_
  · rw [exec_shape, e1]; exact hv w _ hw
  · rw [List.setIfInBounds_toArray, e1]; exact h _ (next hd v)
theorem tj {bs : List Bool} {fuel d : Nat} {m : List Nat} {op : Op} {g : Option (Nat × Bool)} {a : Act} {w : World} (R : Reg ops L) (k : Nat) (v : Value) (bs' : List Bool) (hs : L[k]? = some (some d, op, g, m)) (hQ : ∀ c a w d v, Q (.panic c) (Act.put a (some d) v) w → Q (.panic c) a w) (hg : Chain.Open ops a g) (hS : S w)
  (hv : ∀ w ty, S w → (execOp a.eval ⟨some d, op, ty, "", #[], none⟩).run P w = .ok (.value v) w) (hd : d < a.tmps.size) (h : ∀ a', Chain.Next a a' d v → wpAnyH P .any ops Q S fuel bs'.toArray a' w) (hok : okT bs L k bs' = true := by kernel_rfl) :
  wpAnyH P .any ops Q S (fuel + 1) bs.toArray a w := take R hs hok hQ hg hS hv hd h
abbrev HQ (Q : Exit → Act → World → Prop) : Prop := ∀ c a w d v, Q (.panic c) (Act.put a (some d) v) w → Q (.panic c) a w
def bt (n x : Nat) : List Bool := (List.range n).map x.testBit
theorem tk {fuel n d : Nat} {m : List Nat} {op : Op} {a : Act} {w : World} (R : Reg ops L) (k : Nat) (v : Value) (hs : L[k]? = some (some d, op, none, m)) (hQ : ∀ c a w d v, Q (.panic c) (Act.put a (some d) v) w → Q (.panic c) a w) (hS : S w)
  (hv : ∀ w ty, S w → (execOp a.eval ⟨some d, op, ty, "", #[], none⟩).run P w = .ok (.value v) w) (hd : d < a.tmps.size) (h : ∀ a', Chain.Next a a' d v → wpAnyH P .any ops Q S fuel (upto (k + 1) n).toArray a' w) (hok : okT (upto k n) L k (upto (k + 1) n) = true := by kernel_rfl) :
  wpAnyH P .any ops Q S (fuel + 1) (upto k n).toArray a w := take (g := none) R hs hok hQ trivial hS hv hd h
theorem skip {bs bs' : List Bool} {k fuel d : Nat} {m : List Nat} {op : Op} {g : Option (Nat × Bool)} {a : Act} {w : World} (R : Reg ops L) (hs : L[k]? = some (some d, op, g, m)) (hok : okT bs L k bs' = true) (hQ : ∀ c a w d v, Q (.panic c) (Act.put a (some d) v) w → Q (.panic c) a w)
    (hg : Shut ops a g) (hS : S w) (hd : d < a.tmps.size)
    (h : ∀ a', Chain.Next a a' d undef → wpAnyH P .any ops Q S fuel bs'.toArray a' w) : wpAnyH P .any ops Q S (fuel + 1) bs.toArray a w := by
  simp only [okT, Bool.and_eq_true, beq_iff_eq] at hok
  obtain ⟨⟨hr, hf⟩, hb⟩ := hok
  subst hb
  obtain ⟨o, ho, e1, e2, e3⟩ := line_get R.look hs
  subst e2 e3
  have hr' : (Region.ready .any ops bs.toArray).contains k = true := by
    have := (mem_up R.look bs k).2 (by simpa using hr)
    simpa using this
  refine wpAnyH_take (oi := o) (v := undef) ho R.noSelect (free_of R.look bs k hf) hr' (fun c a w => by rw [e1]; exact hQ c a w d undef) (.inr ⟨hg.wanted, rfl⟩) hS ?_
  rw [List.setIfInBounds_toArray, e1]; exact h _ (next hd undef)
theorem sk {bs : List Bool} {fuel d : Nat} {m : List Nat} {op : Op} {g : Option (Nat × Bool)} {a : Act} {w : World} (R : Reg ops L) (k : Nat) (bs' : List Bool) (hs : L[k]? = some (some d, op, g, m)) (hQ : ∀ c a w d v, Q (.panic c) (Act.put a (some d) v) w → Q (.panic c) a w) (hg : Shut ops a g) (hS : S w) (hd : d < a.tmps.size)
  (h : ∀ a', Chain.Next a a' d undef → wpAnyH P .any ops Q S fuel bs'.toArray a' w) (hok : okT bs L k bs' = true := by kernel_rfl) : wpAnyH P .any ops Q S (fuel + 1) bs.toArray a w := skip R hs hok hQ hg hS hd h
theorem value {bs bs' : List Bool} {k fuel d : Nat} {m : List Nat} {op : Op} {g : Option (Nat × Bool)} {v : Value} {a : Act} {w w1 : World} (R : Reg ops L) (hs : L[k]? = some (some d, op, g, m)) (hok : okF bs L k bs' = true)
    (hg : Chain.Open ops a g) (hS : S w1) (hv : ∀ ty, (execOp a.eval ⟨some d, op, ty, "", #[], none⟩).run P w = .ok (.value v) w1) (hd : d < a.tmps.size)
    (h : ∀ a', Chain.Next a a' d v → wpAnyH P .any ops Q S fuel bs'.toArray a' w1) : wpAnyH P .any ops Q S (fuel + 1) bs.toArray a w := by
  obtain ⟨o, ho, e1, e2, e3⟩ := line_get R.look hs
  subst e2 e3
  refine forced R hok (wpOp_step ho fun K hK => ?_)
  rw [if_pos hg.wanted]
  unfold Oper.wp
  rw [exec_shape, e1, hv]
  simp only [Oper.upon, e1]
  exact hK _ _ ⟨hS, h _ (next hd v)⟩
theorem call {bs bs' : List Bool} {k fuel d f : Nat} {m : List Nat} {xs : Array Operand} {ts : Array TypeId} {args : Array Value} {g : Option (Nat × Bool)} {a : Act} {w : World} {Post : Ending → World → Prop} (R : Reg ops L)
    (hs : L[k]? = some (some d, .call { callee := .value (.func f), args := xs, argTypes := ts }, g, m)) (hok : okF bs L k bs' = true)
    (hg : Chain.Open ops a g) (ha : xs.map a.eval = args) (hf : enters P f = true) (hc : Calls P f args w Post) (hd : d < a.tmps.size)
    (h : ∀ e w', Post e w' → ∃ v, e = .returned v ∧ S w' ∧ ∀ a', Chain.Next a a' d v → wpAnyH P .any ops Q S fuel bs'.toArray a' w') : wpAnyH P .any ops Q S (fuel + 1) bs.toArray a w := by
  obtain ⟨o, ho, e1, e2, e3⟩ := line_get R.look hs
  subst e3
  refine forced R hok (wpOp_step ho fun K hK => ?_)
  rw [if_pos hg.wanted]
  unfold Oper.wp
  have he : (execOp a.eval o).run P w = .ok (.enter f args) w := by
    rw [exec_shape, e1, e2]
    subst ha
    simp [execOp, resolve, invoke, Act.eval, Deferred.ofValue, run_enters hf]
  rw [he, Oper.upon_enter]
  refine hc.mono fun e w' hp => ?_
  obtain ⟨v, rfl, hS, hw⟩ := h e w' hp
  rw [e1]
  exact hK _ _ ⟨hS, hw _ (next hd v)⟩
theorem append {bs bs' : List Bool} {k fuel d : Nat} {l : List Nat} {g : Option (Nat × Bool)} {a : Act} {w : World} (R : Reg ops L) (s x : Operand) (t : TypeId)
    (hsl : L[k]? = some (some d, .call { callee := .builtin .append, args := #[s, x], argTypes := #[t, t] }, g, l)) (hok : okF bs L k bs' = true) (hg : Chain.Open ops a g) (hd : d < a.tmps.size)
    (base : Nat) (e : TypeId) (i : TypeInfo) (z : Value) (size bytes : Nat) (ht : P.underlying t = some (.slice e)) (hi : P.info? e = some i) (hz : i.zero = some z)
    (hsize : i.size = size) (hby : i.bytes = bytes) (hzs : z.cells.size = size) (hsz : 0 < size) (v : Value) (n : Nat) (xs : List Value) (hs : a.eval s = v) (hown : w.ownsRow base e size v n xs)
    (A : Option Addr) (m c : Nat) (news : List Value) (hx : a.eval x = .slice A m c) (B : Nat) (hq : Sq w B size m A news) (h1 : ∀ u ∈ news, u.oneCell' = true) (h63 : n + m ≤ maxLen) (hbytes : (n + m) * bytes ≤ 140737488355328) (hbase : base ≤ w.heap.size)
    (h : ∀ A' c' w', w'.ownsRow base e size (.slice A' (n + m) c') (n + m) (xs ++ news) → w.grownBy w' v.ownBlock → ((Value.slice A' (n + m) c').ownBlock = v.ownBlock ∨ (Value.slice A' (n + m) c').ownBlock = some w.heap.size) → S w' ∧ ∀ a', Chain.Next a a' d (.slice A' (n + m) c') → wpAnyH P .any ops Q S fuel bs'.toArray a' w') : wpAnyH P .any ops Q S (fuel + 1) bs.toArray a w := by
  obtain ⟨o, ho, e1, e2, e3⟩ := line_get R.look hsl
  subst e3
  refine forced R hok (wpOp_step ho fun K hK => ?_)
  rw [if_pos hg.wanted]
  obtain ⟨A', c', w', hrun, h2, h3, h4⟩ := run_app (P := P) w t o.type base e i z size bytes ht hi hz hsize hby hzs hsz v n xs hown A m c news B hq h1 h63 hbytes hbase
  unfold Oper.wp execOp
  simp only [e2, resolve, invoke, builtin, Sem.run_bind, Sem.run_pure, Result.andThen_ok, List.map_toArray, List.map_cons, List.map_nil, hs, hx, hrun]
  simp only [Oper.upon, e1]
  obtain ⟨hS, hw⟩ := h A' c' w' h2 h3 h4
  exact hK _ _ ⟨hS, hw _ (next hd _)⟩
theorem frame_list {l : List Value} {n : Nat} (h : l.length = n) : l = (List.range n).map fun i => l.getD i undef := by
  subst h
  apply List.ext_getElem?
  intro i
  by_cases hi : i < l.length
  · simp [hi, List.getD]
  · simp [hi]
theorem frame_out {a : Act} {n : Nat} (hz : a.tmps.size = n) (hd : a.defers = []) : a = ⟨((List.range n).map fun i => a.tmps.toList.getD i undef).toArray, []⟩ := by
  obtain ⟨⟨l⟩, d⟩ := a
  simp only at hd hz
  subst hd
  congr 1
  exact congrArg List.toArray (frame_list (by simpa using hz))
def gets (l : List Value) : Nat → Nat → List Value
 | _, 0 => []
 | i, n + 1 => l.getD i undef :: gets l (i + 1) n
theorem gets_get (l : List Value) : ∀ (n i j : Nat), (gets l i n)[j]? = if j < n then some (l.getD (i + j) undef) else none
 | 0, i, j => by simp [gets]
 | n + 1, i, 0 => by simp [gets]
 | n + 1, i, j + 1 => by
  rw [gets, List.getElem?_cons_succ, gets_get l n (i + 1) j, Nat.add_assoc, Nat.add_comm 1 j]
  by_cases h : j < n
  · rw [if_pos h, if_pos (by omega)]
  · rw [if_neg h, if_neg (by omega)]
theorem frame_gets {a : Act} {n : Nat} (hz : a.tmps.size = n) (hd : a.defers = []) : a = ⟨(gets a.tmps.toList 0 n).toArray, []⟩ := by
 have e : (List.range n).map (fun i => a.tmps.toList.getD i undef) = gets a.tmps.toList 0 n := by
  refine List.ext_getElem? fun j => ?_
  rw [gets_get, List.getElem?_map, Nat.zero_add]
  by_cases h : j < n
  · rw [List.getElem?_range h, if_pos h]; rfl
  · rw [if_neg h, List.getElem?_eq_none (by rw [List.length_range]; omega)]; rfl
 rw [← e]
 exact frame_out hz hd
theorem at_get {a : Act} {t : Nat} {v : Value} (h : Chain.At a t v) : a.tmps.toList.getD t undef = v := by
  unfold Chain.At at h
  rw [List.getD, Array.getElem?_toList, h]
  rfl
theorem ev_c (a : Act) (v : Value) : a.eval (.const v) = v := rfl
theorem ev_pick_yes {ρ : Operand → Value} {d : Option Tmp} {ty : TypeId} {w : World} {c x y : Operand} {v : Value} (hc : ρ c = .bool true) (h : ρ x = v) : (execOp ρ ⟨d, .pick c x y, ty, "", #[], none⟩).run P w = .ok (.value v) w := by simp [execOp, h, hc, asBool]
theorem ev_pick_no {ρ : Operand → Value} {d : Option Tmp} {ty : TypeId} {w : World} {c x y : Operand} {v : Value} (hc : ρ c = .bool false) (h : ρ y = v) : (execOp ρ ⟨d, .pick c x y, ty, "", #[], none⟩).run P w = .ok (.value v) w := by simp [execOp, h, hc, asBool]
theorem finish {bs : List Bool} {fuel : Nat} {a : Act} {w : World} (R : Reg ops L) (hr : up bs L = []) (h : Q .normal a w) : wpAnyH P .any ops Q S fuel bs.toArray a w := by
  refine wpAnyH_done (List.eq_nil_iff_forall_not_mem.2 fun i hi => ?_) h fuel
  have := (mem_up R.look bs i).1 hi
  rw [hr] at this
  cases this
theorem start {n id : Nat} {a : Act} {w : World} (hn : ops.size = n) (hm : P.follows .mixedOrders = true) (hS : S w.drew) (h : wpAnyH P .any ops Q S n (List.replicate n false).toArray a w.drew) : (Code.region id ops true).wp P Q a w := by
  refine wp_region_held_drew (S := S) hm hS fun _ => ?_
  rw [hn]
  simpa using h
end
end Ord
theorem laidOut : laidOutB Tryz.prog = true := by kernel_rfl
theorem cellsR : Tryz.prog.cellsOf 21 = 1 := by kernel_rfl
theorem cellsI : Tryz.prog.cellsOf 3 = 1 := by kernel_rfl
section
variable {H : Type} {enc : TypeId × Value → H} {W W' : World}
theorem wf_i32 {x : Int} (h : (Lit.int .i32 x).wf = true) : -2147483648 ≤ x ∧ x ≤ 2147483647 := by
 simpa [Lit.wf, IntKind.min, IntKind.max, IntKind.signed, IntKind.bits] using h
theorem wf_i64 {x : Int} (h : (Lit.int .i64 x).wf = true) : -9223372036854775808 ≤ x ∧ x ≤ 9223372036854775807 := by
 simpa [Lit.wf, IntKind.min, IntKind.max, IntKind.signed, IntKind.bits] using h
theorem exists_list {α : Type} {n : Nat} {P : Nat → α → Prop} (h : ∀ i, i < n → ∃ t, P i t) : ∃ l : List α, l.length = n ∧ ∀ (i : Nat) (hi : i < l.length), P i l[i] := by
 induction n with
 | zero => exact ⟨[], rfl, fun i hi => absurd hi (Nat.not_lt_zero i)⟩
 | succ n ih =>
  obtain ⟨l, hl, hp⟩ := ih fun i hi => h i (by omega)
  obtain ⟨t, ht⟩ := h n (by omega)
  refine ⟨l ++ [t], by simp [hl], fun i hi => ?_⟩
  by_cases hi' : i < l.length
  ·rw [List.getElem_append_left hi']; exact hp i hi'
  ·have e : i = l.length := by simp at hi; omega
   subst e
   simp [hl, ht]
theorem trodAll_below (hb : Below W.heap.size W W') : ∀ {ts : List TypeId} {vs : List Value} {ds : List (DataW H)} {ps : List MemPlace}, (ts.all fun t => Tryz.prog.readableRec t && decide (t < Tryz.prog.types.size)) = true →
  DataW.TrodAll enc Tryz.prog W 0 (fun _ => true) true ts vs ds ps → DataW.TrodAll enc Tryz.prog W' 0 (fun b => decide (b < W.heap.size)) true ts vs ds ps := by
 intro ts
 induction ts with
 | nil =>
  intro vs ds ps _ h
  obtain ⟨rfl, rfl, rfl⟩ := trodAll_nil h
  exact trodAll_mk0
 | cons t ts ih =>
  intro vs ds ps ht h
  have hlt := DataW.TrodAll.lt h
  simp only [List.all_cons, Bool.and_eq_true, decide_eq_true_eq] at ht
  obtain ⟨v, vs', d, ds', p, q, rfl, rfl, rfl, h0, hr⟩ := trodAll_cons h
  exact trodAll_cons_mk (Below.trod laidOut ht.1.1 ht.1.2 h0 hb (fun x hx => hlt x (List.mem_append_left _ hx))) (ih ht.2 hr)
theorem close {s : ChangeSpec} {f : Func} {args : Array Value} {ds gs : List (DataW H)} {before : List MemPlace} (hv : s.vars = [])
  (hW : DataW.Whole enc Tryz.prog f.params.toList s.vars false W args.toList ds gs before) (hfn : (s.fn H (ds ++ [])).results = [.lit (.bool true)] ∧ (s.fn H (ds ++ [])).args = ds ∧ (s.fn H (ds ++ [])).vars = []) (hres : f.resultTypes = #[4])
  (hts : (f.params.toList.all fun t => Tryz.prog.readableRec t && decide (t < Tryz.prog.types.size)) = true) (hb : Below W.heap.size W W') :
  s.post enc Tryz.prog f false true false false W args (.bool true) W' := by
 have hW' := hW
 obtain ⟨p, q, hA, hV, rfl, _, _⟩ := hW
 rw [hv] at hV
 obtain ⟨rfl, rfl⟩ := trodVars_none hV
 obtain ⟨h1, h2, h3⟩ := hfn
 refine ⟨ds, [], p ++ [], [], p, [], hW', ?_, ?_, ?_, hb.frame _, fun h => by cases h⟩
 ·rw [h1, hres]
  exact trodAll_cons_mk (shut_bool Tryz.underlying4 _) trodAll_mk0
 ·rw [h2]
  exact trodAll_below hb hts hA
 ·rw [h3, hv]
  rfl
end
section
variable {H : Type} {enc : TypeId × Value → H} {W W' : World}
end
theorem flatMap_at {α : Type} (f : α → List Value) (s : Nat) (hs : ∀ x, (f x).length = s) : ∀ (l : List α) (j : Nat) (u : Value), (l.flatMap f)[j]? = some u → ∃ (i : Nat) (hi : i < l.length) (k : Nat), j = i * s + k ∧ (f l[i])[k]? = some u
 | [], j, u, h => by simp at h
 | x :: l, j, u, h => by
  rw [List.flatMap_cons, List.getElem?_append] at h
  split at h
  ·exact ⟨0, by simp, j, by omega, h⟩
  ·rename_i hj
   rw [hs] at h hj
   obtain ⟨i, hi, k, e, hk⟩ := flatMap_at f s hs l _ u h
   refine ⟨i + 1, by simpa using hi, k, ?_, hk⟩
   rw [Nat.succ_mul]
   omega
theorem flatMap_len {α : Type} (f : α → List Value) (s : Nat) (hs : ∀ x, (f x).length = s) : ∀ (l : List α), (l.flatMap f).length = l.length * s
 | [] => by simp
 | x :: l => by rw [List.flatMap_cons, List.length_append, hs, flatMap_len f s hs l, List.length_cons, Nat.succ_mul, Nat.add_comm]
theorem sq_of_each {α : Type} (f : α → List Value) (s : Nat) (hs : ∀ x, (f x).length = s) (hs0 : 0 < s) {W : World} {a : Addr} {l : List α} {len : Nat} (hl : l.length = len)
  (h : ∀ (i : Nat) (hi : i < l.length) (k : Nat) (u : Value), (f l[i])[k]? = some u → W.cell? ((a.add (i * s)).add k) = some u) : Sq W W.heap.size s len (some a) (l.flatMap f) := by
 refine ⟨?_, fun hn => ?_⟩
 ·rw [flatMap_len f s hs, hl]
 ·have hi0 : 0 < l.length := by omega
  obtain ⟨u0, hu0⟩ : ∃ u, (f (l[0]'hi0))[0]? = some u := ⟨_, List.getElem?_eq_getElem (by rw [hs]; exact hs0)⟩
  have h0 := h 0 hi0 0 u0 hu0
  obtain ⟨b, off, spot⟩ := a
  have hspot : spot = none := by
   have := World.cell?_spot h0
   revert this
   unfold Addr.add
   simp
  subst hspot
  have hb := World.block_lt_of_cell? W _ h0
  simp only [Nat.zero_mul, add_at] at hb
  refine ⟨b, off, rfl, hb, fun j u hu => ?_⟩
  obtain ⟨i, hi, k, rfl, hk⟩ := flatMap_at f s hs l j u hu
  have := h i hi k u hk
  simp only [add_at] at this
  rw [← Nat.add_assoc]
  exact this
section
variable {H : Type} {enc : TypeId × Value → H} {w W : World} {base : Nat} {sp : Nat → Bool} {held : Bool}
structure RowIn where
 A : Option Addr
 n : Nat
 c : Nat
 wrap : Bool
 l : List Cel
structure RowIn.Ok (W : World) (B : Nat) (x : RowIn) : Prop where
 le : x.n ≤ x.c
 cap : x.c ≤ maxLen
 signs : ∀ c ∈ x.l, -2147483648 ≤ c.1 ∧ c.1 ≤ 2147483647
 sq : Sq W B 3 x.n x.A (flat x.l)
def RowIn.vals (x : RowIn) : List Value := [.slice x.A x.n x.c, .bool x.wrap]
theorem RowIn.Ok.below {W W' : World} {B : Nat} {x : RowIn} (h : x.Ok W B) (hb : Below B W W') : x.Ok W' B := ⟨h.le, h.cap, h.signs, h.sq.below hb⟩
theorem RowIn.Ok.up {W : World} {B B' : Nat} {x : RowIn} (h : x.Ok W B) (hb : B ≤ B') : x.Ok W B' := ⟨h.le, h.cap, h.signs, h.sq.up hb⟩
end
theorem flatMap_get {α : Type} (f : α → List Value) (s : Nat) (hs : ∀ x, (f x).length = s) : ∀ (l : List α) (k : Nat) (x : α), l[k]? = some x → ∀ (j : Nat) (u : Value), (f x)[j]? = some u → (l.flatMap f)[k * s + j]? = some u
 | [], k, x, h, _, _, _ => by simp at h
 | y :: l, 0, x, h, j, u, hu => by
  simp at h
  subst h
  rw [List.flatMap_cons, Nat.zero_mul, Nat.zero_add, List.getElem?_append_left (List.getElem?_eq_some_iff.1 hu).1]
  exact hu
 | y :: l, k + 1, x, h, j, u, hu => by
  have ih := flatMap_get f s hs l k x (by simpa using h) j u hu
  rw [List.flatMap_cons, List.getElem?_append_right (by rw [hs, Nat.succ_mul]; omega), hs, show (k + 1) * s + j - s = k * s + j by rw [Nat.succ_mul]; omega]
  exact ih
theorem rows_at {W : World} {B n k : Nat} {A : Option Addr} {l : List RowIn} {r : RowIn} (hq : Sq W B 2 n A (l.flatMap RowIn.vals)) (hr : l[k]? = some r) (hk : k < n) :
  ∃ b off, A = some ⟨b, off, none⟩ ∧ b < B ∧ W.cell? ⟨b, off + k * 2, none⟩ = some (.slice r.A r.n r.c) ∧ W.cell? ⟨b, off + k * 2 + 1, none⟩ = some (.bool r.wrap) := by
 obtain ⟨b, off, e, hb, hc⟩ := hq.spot (by omega)
 have h0 := hc (k * 2 + 0) _ (flatMap_get RowIn.vals 2 (fun _ => rfl) l k r hr 0 _ rfl)
 have h1 := hc (k * 2 + 1) _ (flatMap_get RowIn.vals 2 (fun _ => rfl) l k r hr 1 _ rfl)
 exact ⟨b, off, e, hb, by simpa using h0, by rw [Nat.add_assoc]; exact h1⟩
end Go.Proofs.YtgcfpfhmjhkgnaaGreatDoor
namespace Go.Proofs.YtgcfpfhmjhkgnaaGreatDoor.Ord
open Go.ChangeShapes Go.WideShapes Go.ChangeAt Go.RowKit
section
variable {P : Program} {ops : Array Oper} {L : List Line} {Q : Exit → Act → World → Prop} {S : World → Prop}
theorem effect {bs bs' : List Bool} {k fuel : Nat} {m : List Nat} {op : Op} {g : Option (Nat × Bool)} {a : Act} {w w1 : World} (R : Reg ops L) (hs : L[k]? = some (none, op, g, m)) (hok : okF bs L k bs' = true)
  (hg : Chain.Open ops a g) (hS : S w1) (hv : ∀ ty, (execOp a.eval ⟨none, op, ty, "", #[], none⟩).run P w = .ok .skip w1)
  (h : wpAnyH P .any ops Q S fuel bs'.toArray a w1) : wpAnyH P .any ops Q S (fuel + 1) bs.toArray a w := by
 obtain ⟨o, ho, e1, e2, e3⟩ := line_get R.look hs
 subst e2 e3
 refine forced R hok (wpOp_step ho fun K hK => ?_)
 rw [if_pos hg.wanted]
 unfold Oper.wp
 rw [Chain.exec_shape, e1, hv]
 simp only [Oper.upon, e1]
 exact hK _ _ ⟨hS, h⟩
def Step (P : Program) (ops : Array Oper) (Q : Exit → Act → World → Prop) (S : World → Prop) (fuel k : Nat) (bs' : List Bool) (a : Act) (w : World) : Prop := wpOp P ops Q k (fun a' w' => S w' ∧ wpAnyH P .any ops Q S fuel bs'.toArray a' w') a w
theorem either {bs bs1 bs2 : List Bool} {i j fuel : Nat} {a : Act} {w : World} (R : Reg ops L) (hr : (up bs L == [i, j] && bs.set i true == bs1 && bs.set j true == bs2) = true) (h1 : Step P ops Q S fuel i bs1 a w) (h2 : Step P ops Q S fuel j bs2 a w) : wpAnyH P .any ops Q S (fuel + 1) bs.toArray a w := by
 simp only [Bool.and_eq_true, beq_iff_eq] at hr
 obtain ⟨⟨hr, hb1⟩, hb2⟩ := hr
 subst hb1 hb2
 refine ⟨fun h0 => ?_, fun t ht => ?_⟩
 ·have := (mem_up R.look bs i).2 (by rw [hr]; simp)
  rw [h0] at this
  cases this
 ·have ht' := (mem_up R.look bs t).1 ht
  rw [hr] at ht'
  have ht2 : t = i ∨ t = j := by simpa using ht'
  rw [List.setIfInBounds_toArray]
  rcases ht2 with rfl | rfl
  ·exact h1
  ·exact h2
theorem step_next {bs bs' : List Bool} {k fuel : Nat} {a : Act} {w : World} (R : Reg ops L) (hok : okF bs L k bs' = true) (h : Step P ops Q S fuel k bs' a w) : wpAnyH P .any ops Q S (fuel + 1) bs.toArray a w := forced R hok h
theorem step_value {bs' : List Bool} {k fuel d : Nat} {m : List Nat} {op : Op} {g : Option (Nat × Bool)} {v : Value} {a : Act} {w w1 : World} (R : Reg ops L) (hs : L[k]? = some (some d, op, g, m))
  (hg : Chain.Open ops a g) (hS : S w1) (hv : ∀ ty, (execOp a.eval ⟨some d, op, ty, "", #[], none⟩).run P w = .ok (.value v) w1) (hd : d < a.tmps.size)
  (h : ∀ a', Chain.Next a a' d v → wpAnyH P .any ops Q S fuel bs'.toArray a' w1) : Step P ops Q S fuel k bs' a w := by
 obtain ⟨o, ho, e1, e2, e3⟩ := line_get R.look hs
 subst e2 e3
 refine wpOp_step ho fun K hK => ?_
 rw [if_pos hg.wanted]
 unfold Oper.wp
 rw [Chain.exec_shape, e1, hv]
 simp only [Oper.upon, e1]
 exact hK _ _ ⟨hS, h _ (Chain.next hd v)⟩
theorem step_call {bs' : List Bool} {k fuel d f : Nat} {m : List Nat} {xs : Array Operand} {ts : Array TypeId} {args : Array Value} {g : Option (Nat × Bool)} {a : Act} {w : World} {Post : Ending → World → Prop} (R : Reg ops L)
  (hs : L[k]? = some (some d, .call { callee := .value (.func f), args := xs, argTypes := ts }, g, m))
  (hg : Chain.Open ops a g) (ha : xs.map a.eval = args) (hf : Chain.enters P f = true) (hc : Calls P f args w Post) (hd : d < a.tmps.size)
  (h : ∀ e w', Post e w' → ∃ v, e = .returned v ∧ S w' ∧ ∀ a', Chain.Next a a' d v → wpAnyH P .any ops Q S fuel bs'.toArray a' w') : Step P ops Q S fuel k bs' a w := by
 obtain ⟨o, ho, e1, e2, e3⟩ := line_get R.look hs
 subst e3
 refine wpOp_step ho fun K hK => ?_
 rw [if_pos hg.wanted]
 unfold Oper.wp
 have he : (execOp a.eval o).run P w = .ok (.enter f args) w := by
  rw [Chain.exec_shape, e1, e2]
  subst ha
  simp [execOp, resolve, invoke, Act.eval, Deferred.ofValue, Chain.run_enters hf]
 rw [he, Oper.upon_enter]
 refine hc.mono fun e w' hp => ?_
 obtain ⟨v, rfl, hS, hw⟩ := h e w' hp
 rw [e1]
 exact hK _ _ ⟨hS, hw _ (Chain.next hd v)⟩
theorem step_append {bs' : List Bool} {k fuel d : Nat} {l : List Nat} {g : Option (Nat × Bool)} {a : Act} {w : World} (R : Reg ops L) (s x : Operand) (t : TypeId)
  (hsl : L[k]? = some (some d, .call { callee := .builtin .append, args := #[s, x], argTypes := #[t, t] }, g, l)) (hg : Chain.Open ops a g) (hd : d < a.tmps.size)
  (base : Nat) (e : TypeId) (i : TypeInfo) (z : Value) (size bytes : Nat) (ht : P.underlying t = some (.slice e)) (hi : P.info? e = some i) (hz : i.zero = some z)
  (hsize : i.size = size) (hby : i.bytes = bytes) (hzs : z.cells.size = size) (hsz : 0 < size) (v : Value) (n : Nat) (xs : List Value) (hs : a.eval s = v) (hown : w.ownsRow base e size v n xs)
  (A : Option Addr) (m c : Nat) (news : List Value) (hx : a.eval x = .slice A m c) (B : Nat) (hq : Sq w B size m A news) (h1 : ∀ u ∈ news, u.oneCell' = true) (h63 : n + m ≤ maxLen) (hbytes : (n + m) * bytes ≤ 140737488355328) (hbase : base ≤ w.heap.size)
  (h : ∀ A' c' w', w'.ownsRow base e size (.slice A' (n + m) c') (n + m) (xs ++ news) → w.grownBy w' v.ownBlock → S w' ∧ ∀ a', Chain.Next a a' d (.slice A' (n + m) c') → wpAnyH P .any ops Q S fuel bs'.toArray a' w') : Step P ops Q S fuel k bs' a w := by
 obtain ⟨o, ho, e1, e2, e3⟩ := line_get R.look hsl
 subst e3
 refine wpOp_step ho fun K hK => ?_
 rw [if_pos hg.wanted]
 obtain ⟨A', c', w', hrun, h2, h3, _⟩ := run_app (P := P) w t o.type base e i z size bytes ht hi hz hsize hby hzs hsz v n xs hown A m c news B hq h1 h63 hbytes hbase
 unfold Oper.wp execOp
 simp only [e2, resolve, invoke, builtin, Sem.run_bind, Sem.run_pure, Result.andThen_ok, List.map_toArray, List.map_cons, List.map_nil, hs, hx, hrun]
 simp only [Oper.upon, e1]
 obtain ⟨hS, hw⟩ := h A' c' w' h2 h3
 exact hK _ _ ⟨hS, hw _ (Chain.next hd _)⟩
end
end Go.Proofs.YtgcfpfhmjhkgnaaGreatDoor.Ord
