/-
  The methods of utf.Reader: each step of the machine, whatever it holds.
-/
import Derived.Test.YtalhlgiklochdaaDoorMem
import Derived.Test.YtalhlgiklochdaaDoorUtf
import Derived.Maps.AppendAt
import Derived.Outline
import Derived.Laws.BitsLemmas
import Derived.Deep.DeepMust
namespace Go.Proofs.YtalhlgiklochdaaDoor
open Go.ChangeShapes Go.WideShapes Go.ChangeAt Go.RowKit

/-- All blocks stand but for two. -/
structure Kept (b r : Option Nat) (w w' : World) : Prop where
  os : w'.os = w.os
  tape : w'.tape = w.tape
  output : w'.output = w.output
  size : w.heap.size ≤ w'.heap.size
  block : ∀ k, k < w.heap.size → some k ≠ b → some k ≠ r → w'.heap[k]? = w.heap[k]?
theorem Kept.refl (b r : Option Nat) (w : World) : Kept b r w w := ⟨rfl, rfl, rfl, Nat.le_refl _, fun _ _ _ _ => rfl⟩

/-- The Reader in block b holds st. -/
structure Rd (w : World) (b : Nat) (st : St) : Prop where
  row : w.heap[b]? = some (.cells #[.int .i32 st.sign, .int .i64 st.waits, .int .i64 st.missing, .int .u8 st.low, .int .u8 st.high] 108 (0, 0))
  ok : st.ok
theorem Rd.cell {w : World} {b : Nat} {st : St} (h : Rd w b st) (i : Nat) : w.cell? ⟨b, i, none⟩ = #[Value.int .i32 st.sign, .int .i64 st.waits, .int .i64 st.missing, .int .u8 st.low, .int .u8 st.high][i]? := cell_of_row w b i _ _ (0, 0) h.row
theorem Rd.free {w : World} {b : Nat} {st : St} (h : Rd w b st) (i : Nat) : w.frozen? ⟨b, i, none⟩ = false := by simp [World.frozen?, h.row]
theorem Rd.lt {w : World} {b : Nat} {st : St} (h : Rd w b st) : b < w.heap.size := (Array.getElem?_eq_some_iff.1 h.row).1

theorem info21 : (Tryd.prog.info? 21).map (fun i => (i.zero, i.size, i.bytes)) = some (some (.int .i32 0), 1, 4) := by kernel_rfl

theorem grownBy_set (w : World) (p : Addr) (u : Value) : w.grownBy (w.setCell p u) (some p.block) :=
  ⟨rfl, rfl, rfl, by simp [World.setCell], fun k _ hne => Below.heap_setCell w p u k (fun e => hne (by rw [e]))⟩
theorem grownBy_two {a b c : World} {row : Option Nat} (h : a.grownBy b row) (k : b.grownBy c row) : a.grownBy c row :=
  ⟨k.os.trans h.os, k.tape.trans h.tape, k.output.trans h.output, Nat.le_trans h.size k.size, fun i hi hne => (k.block i (Nat.lt_of_lt_of_le hi h.size) hne).trans (h.block i hi hne)⟩

/-- The five cells of a Reader written anew. -/
abbrev put5 (w : World) (b : Nat) (st : St) : World :=
  ((((w.setCell ⟨b, 0, none⟩ (.int .i32 st.sign)).setCell ⟨b, 1, none⟩ (.int .i64 st.waits)).setCell ⟨b, 2, none⟩ (.int .i64 st.missing)).setCell ⟨b, 3, none⟩ (.int .u8 st.low)).setCell ⟨b, 4, none⟩ (.int .u8 st.high)
theorem put5_grown (w : World) (b : Nat) (st : St) : w.grownBy (put5 w b st) (some b) :=
  grownBy_two (grownBy_two (grownBy_two (grownBy_two (grownBy_set w ⟨b, 0, none⟩ _) (grownBy_set _ ⟨b, 1, none⟩ _)) (grownBy_set _ ⟨b, 2, none⟩ _)) (grownBy_set _ ⟨b, 3, none⟩ _)) (grownBy_set _ ⟨b, 4, none⟩ _)
theorem put5_rd {w : World} {b : Nat} {st st' : St} (h : Rd w b st) (hok : st'.ok) : Rd (put5 w b st') b st' := by
  have h0 := heap_setCell_same w b 0 _ _ (.int .i32 st'.sign) h.row
  have h1 := heap_setCell_same _ b 1 _ _ (.int .i64 st'.waits) h0
  have h2 := heap_setCell_same _ b 2 _ _ (.int .i64 st'.missing) h1
  have h3 := heap_setCell_same _ b 3 _ _ (.int .u8 st'.low) h2
  have h4 := heap_setCell_same _ b 4 _ _ (.int .u8 st'.high) h3
  exact ⟨h4, hok⟩
theorem put5_size (w : World) (b : Nat) (st : St) : (put5 w b st).heap.size = w.heap.size := by simp [put5, World.setCell]

/-- A list of signs in a row of the call's own. -/
def Has (w : World) (base : Nat) (v : Value) (xs : List Int) : Prop := w.ownsRow base 21 1 v xs.length (xs.map (Value.int .i32))
theorem Has.nothing (w : World) (base : Nat) : Has w base (.slice none 0 0) [] := World.ownsRow_nil w base _ _

theorem Has.shape {w : World} {base : Nat} {v : Value} {xs : List Int} (h : Has w base v xs) : ∃ A c, v = .slice A xs.length c := by
  rcases h.2 with ⟨rfl, h0⟩ | ⟨g, cap, cur, rfl, _⟩
  · rw [h0]; exact ⟨_, _, rfl⟩
  · exact ⟨_, _, rfl⟩

/-- What a step of a Reader answers: the signs behind those that were handed in; what the Reader holds; all else stands. -/
def Told (base b : Nat) (v : Value) (xs : List Int) (st' : St) (w : World) (e : Ending) (w' : World) : Prop :=
  ∃ v', e = .returned v' ∧ Has w' base v' xs ∧ Rd w' b st' ∧ Kept (some b) v.ownBlock w w' ∧ (v'.ownBlock = v.ownBlock ∨ ∃ k, v'.ownBlock = some k ∧ w.heap.size ≤ k)

/-- How a step ends that writes the Reader and appends one sign. -/
theorem told_put {base b : Nat} {v v' : Value} {xs : List Int} {x : Int} {st st' : St} {w w' : World} (h : Rd w b st) (hok : st'.ok)
    (hown : w'.ownsRow base 21 1 v' (xs.length + 1) (xs.map (Value.int .i32) ++ [.int .i32 x])) (hvb : v.ownBlock ≠ some b)
    (hg : ((put5 w b st').alloc (.cells #[.int .i32 x] 21)).grownBy w' v.ownBlock) (hat : v'.ownBlock = v.ownBlock ∨ v'.ownBlock = some ((put5 w b st').alloc (.cells #[.int .i32 x] 21)).heap.size) :
    Told base b v (xs ++ [x]) st' w (.returned v') w' := by
  have hr := put5_rd h hok
  have hp := put5_grown w b st'
  have hs := put5_size w b st'
  have hlt := h.lt
  have ha := Below.heap_alloc (put5 w b st') (.cells #[.int .i32 x] 21) b (by omega)
  refine ⟨v', rfl, by simpa [Has] using hown, ⟨?_, hok⟩, ⟨hg.os.trans hp.os, hg.tape.trans hp.tape, hg.output.trans hp.output, Nat.le_trans (by simp [hs]) hg.size, fun k hk h1 h2 => ?_⟩, ?_⟩
  · rw [hg.block b (by simp [hs]; omega) (fun e => hvb e.symm), ha]; exact hr.row
  · rw [hg.block k (by simp [hs]; omega) h2, Below.heap_alloc _ _ _ (by omega), hp.block k hk h1]
  · rcases hat with e | e
    · exact .inl e
    · exact .inr ⟨_, e, by simp⟩
/-- How a step ends that appends one sign and writes no Reader. -/
theorem told_app {base b : Nat} {v v' : Value} {xs : List Int} {x : Int} {st : St} {w w' : World} (h : Rd w b st)
    (hown : w'.ownsRow base 21 1 v' (xs.length + 1) (xs.map (Value.int .i32) ++ [.int .i32 x])) (hvb : v.ownBlock ≠ some b)
    (hg : (w.alloc (.cells #[.int .i32 x] 21)).grownBy w' v.ownBlock) (hat : v'.ownBlock = v.ownBlock ∨ v'.ownBlock = some (w.alloc (.cells #[.int .i32 x] 21)).heap.size) :
    Told base b v (xs ++ [x]) st w (.returned v') w' := by
  have hlt := h.lt
  refine ⟨v', rfl, by simpa [Has] using hown, ⟨?_, h.ok⟩, ⟨hg.os, hg.tape, hg.output, Nat.le_trans (by simp) hg.size, fun k hk _ h2 => ?_⟩, ?_⟩
  · rw [hg.block b (by simp; omega) (fun e => hvb e.symm), Below.heap_alloc _ _ _ hlt]; exact h.row
  · rw [hg.block k (by simp; omega) h2, Below.heap_alloc _ _ _ hk]
  · rcases hat with e | e
    · exact .inl e
    · exact .inr ⟨_, e, by simp⟩
/-- How a step ends that only writes the Reader. -/
theorem told_set {base b : Nat} {v : Value} {xs : List Int} {st st' : St} {w : World} (h : Rd w b st) (hok : st'.ok) (hv : Has w base v xs) (hvb : v.ownBlock ≠ some b) :
    Told base b v xs st' w (.returned v) (put5 w b st') :=
  ⟨v, rfl, World.ownsRow.kept hv (put5_grown w b st') (.inr hvb), put5_rd h hok, ⟨(put5_grown w b st').os, (put5_grown w b st').tape, (put5_grown w b st').output, (put5_grown w b st').size, fun k hk h1 _ => (put5_grown w b st').block k hk h1⟩, .inl rfl⟩
theorem told_same {base b : Nat} {v : Value} {xs : List Int} {st : St} {w : World} (h : Rd w b st) (hv : Has w base v xs) : Told base b v xs st w (.returned v) w :=
  ⟨v, rfl, hv, h, Kept.refl _ _ _, .inl rfl⟩
theorem own_put {base b : Nat} {v : Value} {xs : List Int} {w : World} (st' : St) (h : Has w base v xs) (hvb : v.ownBlock ≠ some b) : (put5 w b st').ownsRow base 21 1 v xs.length (xs.map (Value.int .i32)) :=
  World.ownsRow.kept h (put5_grown w b st') (.inr hvb)

theorem cell_new_at {w : World} {n : Nat} (h : w.heap.size = n) (x : Value) (t : TypeId) : ∀ j u, [x][j]? = some u → (w.alloc (.cells #[x] t)).cell? ((⟨n, 0, none⟩ : Addr).add j) = some u := by
  subst h; exact cell_one_new w x t
theorem fits1 {n : Nat} (h : n ≤ 1099511627776) : n + 1 ≤ maxLen := by unfold maxLen; omega
theorem fits4 {n : Nat} (h : n ≤ 1099511627776) : (n + 1) * 4 ≤ 140737488355328 := by omega
theorem one_rune (x : Int) : ∀ u ∈ [Value.int .i32 x], u.oneCell' = true := by intro u hu; simp at hu; subst hu; rfl
theorem put5_base {w : World} {base : Nat} (h : base ≤ w.heap.size) (b : Nat) (st : St) (o : Obj) : base ≤ ((put5 w b st).alloc o).heap.size := by simp; omega

set_option maxRecDepth 100000 in
set_option maxHeartbeats 400000 in
theorem breakOff_no (b : Nat) (v : Value) (w : World) (st : St) (h : Rd w b st) (h0 : st.waits = 0) :
    Calls Tryd.prog 86 #[.pointer (some ⟨b, 0, none⟩), v] w fun e w' => e = .returned v ∧ w = w' := by
  have c1 : w.cell? ⟨b, 1, none⟩ = some (.int .i64 0) := by rw [h.cell 1, ← h0]; rfl
  clear h h0
  go_enter Tryd.func86, Tryd.ntmps86
  go_wp2
  go_ret
  exact ⟨rfl, rfl⟩
set_option maxRecDepth 100000 in
set_option maxHeartbeats 400000 in
theorem breakOff_yes (b base : Nat) (v : Value) (xs : List Int) (w : World) (st : St) (h : Rd w b st) (h0 : 0 < st.waits) (hv : Has w base v xs) (hvb : v.ownBlock ≠ some b) (hn : xs.length ≤ 1099511627776) (hbase : base ≤ w.heap.size) :
    Calls Tryd.prog 86 #[.pointer (some ⟨b, 0, none⟩), v] w fun e w' => Told base b v (xs ++ [65533]) st0 w e w' := by
  obtain ⟨i0, hi, hz0, hz1, hz2⟩ := info_parts info21
  obtain ⟨A, c, rfl⟩ := hv.shape
  have c0 : w.cell? ⟨b, 0, none⟩ = some (.int .i32 st.sign) := h.cell 0
  have c1 : w.cell? ⟨b, 1, none⟩ = some (.int .i64 st.waits) := h.cell 1
  have c2 : w.cell? ⟨b, 2, none⟩ = some (.int .i64 st.missing) := h.cell 2
  have c3 : w.cell? ⟨b, 3, none⟩ = some (.int .u8 st.low) := h.cell 3
  have c4 : w.cell? ⟨b, 4, none⟩ = some (.int .u8 st.high) := h.cell 4
  have f0 := h.free 0
  have f1 := h.free 1
  have f2 := h.free 2
  have f3 := h.free 3
  have f4 := h.free 4
  have hb := h.lt
  have HO : (((((w.setCell ⟨b, 0, none⟩ (.int .i32 0)).setCell ⟨b, 1, none⟩ (.int .i64 0)).setCell ⟨b, 2, none⟩ (.int .i64 0)).setCell ⟨b, 3, none⟩ (.int .u8 0)).setCell ⟨b, 4, none⟩ (.int .u8 0)).ownsRow base 21 1 (.slice A xs.length c) xs.length (xs.map (Value.int .i32)) := own_put st0 hv hvb
  have HV := Lib.hid hvb
  clear hvb hv
  go_enter Tryd.func86, Tryd.ntmps86
  go_wp2_with (at_builtin; go_loud (refine wpList_append_own_at _ rfl _ _ 109 rfl base 21 i0 (.int .i32 0) 1 4 Tryd.underlying109 hi hz0 hz1 hz2 rfl (by decide) (.slice A xs.length c) xs.length _ rfl (HO.alloc _) ⟨w.heap.size, 0, none⟩ 1 1 [.int .i32 65533] rfl rfl (cell_new_at (put5_size w b st0) _ _) (one_rune _) (fits1 hn) (fits4 hn) (put5_base hbase b st0 _) ?_); intro v' w1 hown' hgrow _ hat)
  go_wp2
  go_ret
  exact told_put h st0_ok hown' HV.out hgrow hat

/-- breakOff, whatever waits. -/
theorem breakOff_any (b base : Nat) (v : Value) (xs : List Int) (w : World) (st : St) (h : Rd w b st) (hv : Has w base v xs) (hvb : v.ownBlock ≠ some b) (hn : xs.length ≤ 1099511627776) (hbase : base ≤ w.heap.size) :
    Calls Tryd.prog 86 #[.pointer (some ⟨b, 0, none⟩), v] w fun e w' => Told base b v (xs ++ brk st) st0 w e w' := by
  by_cases h0 : st.waits = 0
  · have e : st = st0 := h.ok.zero h0
    subst e
    refine (breakOff_no b v w st0 h rfl).mono ?_
    rintro e w' ⟨rfl, rfl⟩
    simpa [brk, st0] using told_same h hv
  · have := h.ok.waits
    have e : brk st = [65533] := by simp [brk, h0]
    rw [e]
    exact breakOff_yes b base v xs w st h (by omega) hv hvb hn hbase

set_option maxRecDepth 100000 in
set_option maxHeartbeats 800000 in
theorem follow_walk (b : Int) (h0 : 0 ≤ b) (h1 : b ≤ 255) (w : World) :
    Calls Tryd.prog 94 #[.int .u8 b] w fun e w' => e = .returned (.tuple #[.int .i64 (fol b).1, .int .u8 (fol b).2.1, .int .u8 (fol b).2.2]) ∧ w = w' := by
  rcases fol_cases b with ⟨h | h, e⟩ | ⟨h, h', e⟩ | ⟨h, e⟩ | ⟨h, e⟩ | ⟨h, h', h'', e⟩ | ⟨h, e⟩ | ⟨h, h', e⟩ | ⟨h, e⟩ <;> rw [e] <;> clear e <;> try subst h
  all_goals
    go_enter Tryd.func94, Tryd.ntmps94
    go_wp2
    go_ret3
    exact ⟨rfl, rfl⟩

theorem and31 {x : Int} (h0 : 0 ≤ x) (h1 : x ≤ 255) : bits .and .i32 x 31 = x % 32 := bits_mask .i32 31 (by decide) wraps_i32 5 (by decide) x h0 (by omega)
theorem and15 {x : Int} (h0 : 0 ≤ x) (h1 : x ≤ 255) : bits .and .i32 x 15 = x % 16 := bits_mask .i32 31 (by decide) wraps_i32 4 (by decide) x h0 (by omega)
theorem and7 {x : Int} (h0 : 0 ≤ x) (h1 : x ≤ 255) : bits .and .i32 x 7 = x % 8 := bits_mask .i32 31 (by decide) wraps_i32 3 (by decide) x h0 (by omega)

set_option maxRecDepth 100000 in
set_option maxHeartbeats 800000 in
theorem begin_more (b base : Nat) (v : Value) (xs : List Int) (x m lo hi : Int) (hx0 : 0 ≤ x) (hx1 : x ≤ 255) (h128 : 128 ≤ x) (w : World) (st : St) (h : Rd w b st) (hv : Has w base v xs) (hvb : v.ownBlock ≠ some b) (hf : fol x = (m, lo, hi)) (hm : m = 1 ∨ m = 2 ∨ m = 3) :
    Calls Tryd.prog 91 #[.pointer (some ⟨b, 0, none⟩), v, .int .u8 x] w fun e w' => Told base b v xs (begS x) w e w' := by
  have FW := follow_walk x hx0 hx1 w
  rw [hf] at FW
  have hok := begS_ok x hx0
  have T := told_set (st' := begS x) h hok hv hvb
  have c0 : w.cell? ⟨b, 0, none⟩ = some (.int .i32 st.sign) := h.cell 0
  have c1 : w.cell? ⟨b, 1, none⟩ = some (.int .i64 st.waits) := h.cell 1
  have c2 : w.cell? ⟨b, 2, none⟩ = some (.int .i64 st.missing) := h.cell 2
  have c3 : w.cell? ⟨b, 3, none⟩ = some (.int .u8 st.low) := h.cell 3
  have c4 : w.cell? ⟨b, 4, none⟩ = some (.int .u8 st.high) := h.cell 4
  have f0 := h.free 0
  have f1 := h.free 1
  have f2 := h.free 2
  have f3 := h.free 3
  have f4 := h.free 4
  have FWH := Lib.hid FW
  have e1 := and31 hx0 hx1
  have e2 := and15 hx0 hx1
  have e3 := and7 hx0 hx1
  have hb : begS x = ⟨lead x m, 1, m, lo, hi⟩ := by
    have h1 : ¬ x < 128 := by omega
    have h2 : ¬ m = 0 := by omega
    simp [begS, h1, hf, h2]
  clear h hv hvb hok FW hf
  rcases hm with rfl | rfl | rfl
  all_goals
    rw [hb] at T ⊢
    have TH := Lib.hid T
    clear T hb
    go_enter Tryd.func91, Tryd.ntmps91
    go_wp2_with (go_at_call 94; refine FWH.out.mono ?_; rintro e w' ⟨rfl, rfl⟩)
    go_ret
    exact TH.out
end Go.Proofs.YtalhlgiklochdaaDoor
