import Derived.Test.YtgcfpfhmjhkgnaaGreatDoorQBase0
import Derived.Maps.AppendAt
import Derived.Laws.BitsLemmas
import Derived.Deep.DeepMust
set_option maxRecDepth 100000
set_option maxHeartbeats 3200000
namespace Go.Proofs.YtgcfpfhmjhkgnaaGreatDoor
open Go.ChangeShapes Go.WideShapes Go.ChangeAt Go.RowKit
structure Kept (b r : Option Nat) (w w' : World) : Prop where
 os : w'.os = w.os
 tape : w'.tape = w.tape
 output : w'.output = w.output
 size : w.heap.size ≤ w'.heap.size
 block : ∀ k, k < w.heap.size → some k ≠ b → some k ≠ r → w'.heap[k]? = w.heap[k]?
theorem Kept.refl (b r : Option Nat) (w : World) : Kept b r w w := ⟨rfl, rfl, rfl, Nat.le_refl _, fun _ _ _ _ => rfl⟩
structure Rd (w : World) (b : Nat) (st : St) : Prop where
 row : w.heap[b]? = some (.cells #[.int .i32 st.sign, .int .i64 st.waits, .int .i64 st.missing, .int .u8 st.low, .int .u8 st.high] 162 (0, 0))
 ok : st.ok
theorem Rd.cell {w : World} {b : Nat} {st : St} (h : Rd w b st) (i : Nat) : w.cell? ⟨b, i, none⟩ = #[Value.int .i32 st.sign, .int .i64 st.waits, .int .i64 st.missing, .int .u8 st.low, .int .u8 st.high][i]? := cell_of_row w b i _ _ (0, 0) h.row
theorem Rd.free {w : World} {b : Nat} {st : St} (h : Rd w b st) (i : Nat) : w.frozen? ⟨b, i, none⟩ = false := by simp [World.frozen?, h.row]
theorem Rd.lt {w : World} {b : Nat} {st : St} (h : Rd w b st) : b < w.heap.size := (Array.getElem?_eq_some_iff.1 h.row).1
theorem info21 : (Tryz.prog.info? 21).map (fun i => (i.zero, i.size, i.bytes)) = some (some (.int .i32 0), 1, 4) := by kernel_rfl
theorem grownBy_set (w : World) (p : Addr) (u : Value) : w.grownBy (w.setCell p u) (some p.block) :=
 ⟨rfl, rfl, rfl, by simp [World.setCell], fun k _ hne => Below.heap_setCell w p u k (fun e => hne (by rw [e]))⟩
theorem grownBy_two {a b c : World} {row : Option Nat} (h : a.grownBy b row) (k : b.grownBy c row) : a.grownBy c row :=
 ⟨k.os.trans h.os, k.tape.trans h.tape, k.output.trans h.output, Nat.le_trans h.size k.size, fun i hi hne => (k.block i (Nat.lt_of_lt_of_le hi h.size) hne).trans (h.block i hi hne)⟩
abbrev put5 (w : World) (b : Nat) (st : St) : World :=
 ((((w.setCell ⟨b, 0, none⟩ (.int .i32 st.sign)).setCell ⟨b, 1, none⟩ (.int .i64 st.waits)).setCell ⟨b, 2, none⟩ (.int .i64 st.missing)).setCell ⟨b, 3, none⟩ (.int .u8 st.low)).setCell ⟨b, 4, none⟩ (.int .u8 st.high)
theorem put5_grown (w : World) (b : Nat) (st : St) : w.grownBy (put5 w b st) (some b) :=
 grownBy_two (grownBy_two (grownBy_two (grownBy_two (grownBy_set w ⟨b, 0, none⟩ _) (grownBy_set _ ⟨b, 1, none⟩ _)) (grownBy_set _ ⟨b, 2, none⟩ _)) (grownBy_set _ ⟨b, 3, none⟩ _)) (grownBy_set _ ⟨b, 4, none⟩ _)
theorem put5_rd {w : World} {b : Nat} {st st' : St} (h : Rd w b st) (hok : st'.ok) : Rd (put5 w b st') b st' := by
 have h0 := heap_setCell_same w b 0 _ _ (.int .i32 st'.sign) h.row
 have h1 := heap_setCell_same _ b 1 _ _ (.int .i64 st'.waits) h0
 have h2 := heap_setCell_same _ b 2 _ _ (.int .i64 st'.missing) h1
 have h3 := heap_setCell_same _ b 3 _ _ (.int .u8 st'.low) h2
 have h4 := heap_setCell_same _ b 4 _ _ (.int .u8 st'.high) h3
 exact ⟨h4, hok⟩
theorem put5_size (w : World) (b : Nat) (st : St) : (put5 w b st).heap.size = w.heap.size := by simp [put5, World.setCell]
def Has (w : World) (base : Nat) (v : Value) (xs : List Int) : Prop := w.ownsRow base 21 1 v xs.length (xs.map (Value.int .i32))
theorem Has.nothing (w : World) (base : Nat) : Has w base (.slice none 0 0) [] := World.ownsRow_nil w base _ _
theorem Has.shape {w : World} {base : Nat} {v : Value} {xs : List Int} (h : Has w base v xs) : ∃ A c, v = .slice A xs.length c := by
 rcases h.2 with ⟨rfl, h0⟩ | ⟨g, cap, cur, rfl, _⟩
 ·rw [h0]; exact ⟨_, _, rfl⟩
 ·exact ⟨_, _, rfl⟩
def Told (base b : Nat) (v : Value) (xs : List Int) (st' : St) (w : World) (e : Ending) (w' : World) : Prop :=
 ∃ v', e = .returned v' ∧ Has w' base v' xs ∧ Rd w' b st' ∧ Kept (some b) v.ownBlock w w' ∧ (v'.ownBlock = v.ownBlock ∨ ∃ k, v'.ownBlock = some k ∧ w.heap.size ≤ k)
theorem told_put {base b : Nat} {v v' : Value} {xs : List Int} {x : Int} {st st' : St} {w w' : World} (h : Rd w b st) (hok : st'.ok)
  (hown : w'.ownsRow base 21 1 v' (xs.length + 1) (xs.map (Value.int .i32) ++ [.int .i32 x])) (hvb : v.ownBlock ≠ some b)
  (hg : ((put5 w b st').alloc (.cells #[.int .i32 x] 21)).grownBy w' v.ownBlock) (hat : v'.ownBlock = v.ownBlock ∨ v'.ownBlock = some ((put5 w b st').alloc (.cells #[.int .i32 x] 21)).heap.size) :
  Told base b v (xs ++ [x]) st' w (.returned v') w' := by
 have hr := put5_rd h hok
 have hp := put5_grown w b st'
 have hs := put5_size w b st'
 have hlt := h.lt
 have ha := Below.heap_alloc (put5 w b st') (.cells #[.int .i32 x] 21) b (by omega)
 refine ⟨v', rfl, by simpa [Has] using hown, ⟨?_, hok⟩, ⟨hg.os.trans hp.os, hg.tape.trans hp.tape, hg.output.trans hp.output, Nat.le_trans (by simp [hs]) hg.size, fun k hk h1 h2 => ?_⟩, ?_⟩
 ·rw [hg.block b (by simp [hs]; omega) (fun e => hvb e.symm), ha]; exact hr.row
 ·rw [hg.block k (by simp [hs]; omega) h2, Below.heap_alloc _ _ _ (by omega), hp.block k hk h1]
 ·rcases hat with e | e
  ·exact .inl e
  ·exact .inr ⟨_, e, by simp⟩
theorem told_app {base b : Nat} {v v' : Value} {xs : List Int} {x : Int} {st : St} {w w' : World} (h : Rd w b st)
  (hown : w'.ownsRow base 21 1 v' (xs.length + 1) (xs.map (Value.int .i32) ++ [.int .i32 x])) (hvb : v.ownBlock ≠ some b)
  (hg : (w.alloc (.cells #[.int .i32 x] 21)).grownBy w' v.ownBlock) (hat : v'.ownBlock = v.ownBlock ∨ v'.ownBlock = some (w.alloc (.cells #[.int .i32 x] 21)).heap.size) :
  Told base b v (xs ++ [x]) st w (.returned v') w' := by
 have hlt := h.lt
 refine ⟨v', rfl, by simpa [Has] using hown, ⟨?_, h.ok⟩, ⟨hg.os, hg.tape, hg.output, Nat.le_trans (by simp) hg.size, fun k hk _ h2 => ?_⟩, ?_⟩
 ·rw [hg.block b (by simp; omega) (fun e => hvb e.symm), Below.heap_alloc _ _ _ hlt]; exact h.row
 ·rw [hg.block k (by simp; omega) h2, Below.heap_alloc _ _ _ hk]
 ·rcases hat with e | e
  ·exact .inl e
  ·exact .inr ⟨_, e, by simp⟩
theorem told_set {base b : Nat} {v : Value} {xs : List Int} {st st' : St} {w : World} (h : Rd w b st) (hok : st'.ok) (hv : Has w base v xs) (hvb : v.ownBlock ≠ some b) :
  Told base b v xs st' w (.returned v) (put5 w b st') :=
 ⟨v, rfl, World.ownsRow.kept hv (put5_grown w b st') (.inr hvb), put5_rd h hok, ⟨(put5_grown w b st').os, (put5_grown w b st').tape, (put5_grown w b st').output, (put5_grown w b st').size, fun k hk h1 _ => (put5_grown w b st').block k hk h1⟩, .inl rfl⟩
theorem told_same {base b : Nat} {v : Value} {xs : List Int} {st : St} {w : World} (h : Rd w b st) (hv : Has w base v xs) : Told base b v xs st w (.returned v) w :=
 ⟨v, rfl, hv, h, Kept.refl _ _ _, .inl rfl⟩
theorem own_put {base b : Nat} {v : Value} {xs : List Int} {w : World} (st' : St) (h : Has w base v xs) (hvb : v.ownBlock ≠ some b) : (put5 w b st').ownsRow base 21 1 v xs.length (xs.map (Value.int .i32)) :=
 World.ownsRow.kept h (put5_grown w b st') (.inr hvb)
theorem cell_new_at {w : World} {n : Nat} (h : w.heap.size = n) (x : Value) (t : TypeId) : ∀ j u, [x][j]? = some u → (w.alloc (.cells #[x] t)).cell? ((⟨n, 0, none⟩ : Addr).add j) = some u := by
 subst h; exact cell_one_new w x t
theorem fits1 {n : Nat} (h : n ≤ 1099511627776) : n + 1 ≤ maxLen := by unfold maxLen; omega
theorem fits4 {n : Nat} (h : n ≤ 1099511627776) : (n + 1) * 4 ≤ 140737488355328 := by omega
theorem one_rune (x : Int) : ∀ u ∈ [Value.int .i32 x], u.oneCell' = true := by intro u hu; simp at hu; subst hu; rfl
theorem put5_base {w : World} {base : Nat} (h : base ≤ w.heap.size) (b : Nat) (st : St) (o : Obj) : base ≤ ((put5 w b st).alloc o).heap.size := by simp; omega
theorem breakOff_no (b : Nat) (v : Value) (w : World) (st : St) (h : Rd w b st) (h0 : st.waits = 0) :
  Calls Tryz.prog 142 #[.pointer (some ⟨b, 0, none⟩), v] w fun e w' => e = .returned v ∧ w = w' := by
 have c1 : w.cell? ⟨b, 1, none⟩ = some (.int .i64 0) := by rw [h.cell 1, ← h0]; rfl
 clear h h0
 go_enter Tryz.func142, Tryz.ntmps142
 go_wp2
 go_ret
 exact ⟨rfl, rfl⟩
theorem breakOff_yes (b base : Nat) (v : Value) (xs : List Int) (w : World) (st : St) (h : Rd w b st) (h0 : 0 < st.waits) (hv : Has w base v xs) (hvb : v.ownBlock ≠ some b) (hn : xs.length ≤ 1099511627776) (hbase : base ≤ w.heap.size) :
  Calls Tryz.prog 142 #[.pointer (some ⟨b, 0, none⟩), v] w fun e w' => Told base b v (xs ++ [65533]) st0 w e w' := by
 obtain ⟨i0, hi, hz0, hz1, hz2⟩ := info_parts info21
 obtain ⟨A, c, rfl⟩ := hv.shape
 have c0 : w.cell? ⟨b, 0, none⟩ = some (.int .i32 st.sign) := h.cell 0
 have c1 : w.cell? ⟨b, 1, none⟩ = some (.int .i64 st.waits) := h.cell 1
 have c2 : w.cell? ⟨b, 2, none⟩ = some (.int .i64 st.missing) := h.cell 2
 have c3 : w.cell? ⟨b, 3, none⟩ = some (.int .u8 st.low) := h.cell 3
 have c4 : w.cell? ⟨b, 4, none⟩ = some (.int .u8 st.high) := h.cell 4
 have f0 := h.free 0
 have f1 := h.free 1
 have f2 := h.free 2
 have f3 := h.free 3
 have f4 := h.free 4
 have hb := h.lt
 have HO : (((((w.setCell ⟨b, 0, none⟩ (.int .i32 0)).setCell ⟨b, 1, none⟩ (.int .i64 0)).setCell ⟨b, 2, none⟩ (.int .i64 0)).setCell ⟨b, 3, none⟩ (.int .u8 0)).setCell ⟨b, 4, none⟩ (.int .u8 0)).ownsRow base 21 1 (.slice A xs.length c) xs.length (xs.map (Value.int .i32)) := own_put st0 hv hvb
 have HV := Lib.hid hvb
 clear hvb hv
 go_enter Tryz.func142, Tryz.ntmps142
 go_wp2_with (at_builtin; go_loud (refine wpList_append_own_at _ rfl _ _ 54 rfl base 21 i0 (.int .i32 0) 1 4 Tryz.underlying54 hi hz0 hz1 hz2 rfl (by decide) (.slice A xs.length c) xs.length _ rfl (HO.alloc _) ⟨w.heap.size, 0, none⟩ 1 1 [.int .i32 65533] rfl rfl (cell_new_at (put5_size w b st0) _ _) (one_rune _) (fits1 hn) (fits4 hn) (put5_base hbase b st0 _) ?_); intro v' w1 hown' hgrow _ hat)
 go_wp2
 go_ret
 exact told_put h st0_ok hown' HV.out hgrow hat
theorem breakOff_any (b base : Nat) (v : Value) (xs : List Int) (w : World) (st : St) (h : Rd w b st) (hv : Has w base v xs) (hvb : v.ownBlock ≠ some b) (hn : xs.length ≤ 1099511627776) (hbase : base ≤ w.heap.size) :
  Calls Tryz.prog 142 #[.pointer (some ⟨b, 0, none⟩), v] w fun e w' => Told base b v (xs ++ brk st) st0 w e w' := by
 by_cases h0 : st.waits = 0
 ·have e : st = st0 := h.ok.zero h0
  subst e
  refine (breakOff_no b v w st0 h rfl).mono ?_
  rintro e w' ⟨rfl, rfl⟩
  simpa [brk, st0] using told_same h hv
 ·have := h.ok.waits
  have e : brk st = [65533] := by simp [brk, h0]
  rw [e]
  exact breakOff_yes b base v xs w st h (by omega) hv hvb hn hbase
theorem follow_walk (b : Int) (h0 : 0 ≤ b) (h1 : b ≤ 255) (w : World) :
  Calls Tryz.prog 151 #[.int .u8 b] w fun e w' => e = .returned (.tuple #[.int .i64 (fol b).1, .int .u8 (fol b).2.1, .int .u8 (fol b).2.2]) ∧ w = w' := by
 rcases fol_cases b with ⟨h | h, e⟩ | ⟨h, h', e⟩ | ⟨h, e⟩ | ⟨h, e⟩ | ⟨h, h', h'', e⟩ | ⟨h, e⟩ | ⟨h, h', e⟩ | ⟨h, e⟩ <;> rw [e] <;> clear e <;> try subst h
 all_goals
  go_enter Tryz.func151, Tryz.ntmps151
  go_wp2
  go_ret3
  exact ⟨rfl, rfl⟩
theorem and31 {x : Int} (h0 : 0 ≤ x) (h1 : x ≤ 255) : bits .and .i32 x 31 = x % 32 := bits_mask .i32 31 (by decide) wraps_i32 5 (by decide) x h0 (by omega)
theorem and15 {x : Int} (h0 : 0 ≤ x) (h1 : x ≤ 255) : bits .and .i32 x 15 = x % 16 := bits_mask .i32 31 (by decide) wraps_i32 4 (by decide) x h0 (by omega)
theorem and7 {x : Int} (h0 : 0 ≤ x) (h1 : x ≤ 255) : bits .and .i32 x 7 = x % 8 := bits_mask .i32 31 (by decide) wraps_i32 3 (by decide) x h0 (by omega)
theorem begin_more (b base : Nat) (v : Value) (xs : List Int) (x m lo hi : Int) (hx0 : 0 ≤ x) (hx1 : x ≤ 255) (h128 : 128 ≤ x) (w : World) (st : St) (h : Rd w b st) (hv : Has w base v xs) (hvb : v.ownBlock ≠ some b) (hf : fol x = (m, lo, hi)) (hm : m = 1 ∨ m = 2 ∨ m = 3) :
  Calls Tryz.prog 148 #[.pointer (some ⟨b, 0, none⟩), v, .int .u8 x] w fun e w' => Told base b v xs (begS x) w e w' := by
 have FW := follow_walk x hx0 hx1 w
 rw [hf] at FW
 have hok := begS_ok x hx0
 have T := told_set (st' := begS x) h hok hv hvb
 have c0 : w.cell? ⟨b, 0, none⟩ = some (.int .i32 st.sign) := h.cell 0
 have c1 : w.cell? ⟨b, 1, none⟩ = some (.int .i64 st.waits) := h.cell 1
 have c2 : w.cell? ⟨b, 2, none⟩ = some (.int .i64 st.missing) := h.cell 2
 have c3 : w.cell? ⟨b, 3, none⟩ = some (.int .u8 st.low) := h.cell 3
 have c4 : w.cell? ⟨b, 4, none⟩ = some (.int .u8 st.high) := h.cell 4
 have f0 := h.free 0
 have f1 := h.free 1
 have f2 := h.free 2
 have f3 := h.free 3
 have f4 := h.free 4
 have FWH := Lib.hid FW
 have e1 := and31 hx0 hx1
 have e2 := and15 hx0 hx1
 have e3 := and7 hx0 hx1
 have hb : begS x = ⟨lead x m, 1, m, lo, hi⟩ := by
  have h1 : ¬ x < 128 := by omega
  have h2 : ¬ m = 0 := by omega
  simp [begS, h1, hf, h2]
 clear h hv hvb hok FW hf
 rcases hm with rfl | rfl | rfl
 all_goals
  rw [hb] at T ⊢
  have TH := Lib.hid T
  clear T hb
  go_enter Tryz.func148, Tryz.ntmps148
  go_wp2_with (go_at_call 151; refine FWH.out.mono ?_; rintro e w' ⟨rfl, rfl⟩)
  go_ret
  exact TH.out
theorem begin_ascii (b base : Nat) (v : Value) (xs : List Int) (x : Int) (hx0 : 0 ≤ x) (hx1 : x ≤ 255) (h128 : x < 128) (w : World) (st : St) (h : Rd w b st) (hv : Has w base v xs) (hvb : v.ownBlock ≠ some b) (hn : xs.length ≤ 1099511627776) (hbase : base ≤ w.heap.size) :
  Calls Tryz.prog 148 #[.pointer (some ⟨b, 0, none⟩), v, .int .u8 x] w fun e w' => Told base b v (xs ++ [x]) st w e w' := by
 obtain ⟨i0, hi, hz0, hz1, hz2⟩ := info_parts info21
 obtain ⟨A, c, rfl⟩ := hv.shape
 have HO : w.ownsRow base 21 1 (.slice A xs.length c) xs.length (xs.map (Value.int .i32)) := hv
 have HV := Lib.hid hvb
 clear hvb hv
 go_enter Tryz.func148, Tryz.ntmps148
 go_wp2_with (at_builtin; refine wpList_append_own_at _ rfl _ _ 54 rfl base 21 i0 (.int .i32 0) 1 4 Tryz.underlying54 hi hz0 hz1 hz2 rfl (by decide) (.slice A xs.length c) xs.length _ rfl (HO.alloc _) ⟨w.heap.size, 0, none⟩ 1 1 [.int .i32 x] rfl rfl (cell_new_at rfl _ _) (one_rune _) (fits1 hn) (fits4 hn) (by simp; omega) ?_; intro v' w1 hown' hgrow _ hat)
 go_wp2
 go_ret
 exact told_app h hown' HV.out hgrow hat
theorem begin_bad (b base : Nat) (v : Value) (xs : List Int) (x : Int) (hx0 : 0 ≤ x) (hx1 : x ≤ 255) (h128 : 128 ≤ x) (w : World) (st : St) (h : Rd w b st) (hv : Has w base v xs) (hvb : v.ownBlock ≠ some b) (hn : xs.length ≤ 1099511627776) (hbase : base ≤ w.heap.size) (hf : fol x = (0, 0, 0)) :
  Calls Tryz.prog 148 #[.pointer (some ⟨b, 0, none⟩), v, .int .u8 x] w fun e w' => Told base b v (xs ++ [65533]) st w e w' := by
 have FW := follow_walk x hx0 hx1 w
 rw [hf] at FW
 have FWH := Lib.hid FW
 obtain ⟨i0, hi, hz0, hz1, hz2⟩ := info_parts info21
 obtain ⟨A, c, rfl⟩ := hv.shape
 have HO : w.ownsRow base 21 1 (.slice A xs.length c) xs.length (xs.map (Value.int .i32)) := hv
 have HV := Lib.hid hvb
 clear hvb hv FW hf
 go_enter Tryz.func148, Tryz.ntmps148
 go_wp2_with (first
  | (go_at_call 151; refine FWH.out.mono ?_; rintro e w' ⟨rfl, rfl⟩)
  | (at_builtin; refine wpList_append_own_at _ rfl _ _ 54 rfl base 21 i0 (.int .i32 0) 1 4 Tryz.underlying54 hi hz0 hz1 hz2 rfl (by decide) (.slice A xs.length c) xs.length _ rfl (HO.alloc _) ⟨w.heap.size, 0, none⟩ 1 1 [.int .i32 65533] rfl rfl (cell_new_at rfl _ _) (one_rune _) (fits1 hn) (fits4 hn) (by simp; omega) ?_; intro v' w1 hown' hgrow _ hat))
 go_wp2
 go_ret
 exact told_app h hown' HV.out hgrow hat
theorem begin_any (b base : Nat) (v : Value) (xs : List Int) (x : Int) (hx0 : 0 ≤ x) (hx1 : x ≤ 255) (w : World) (h : Rd w b st0) (hv : Has w base v xs) (hvb : v.ownBlock ≠ some b) (hn : xs.length ≤ 1099511627776) (hbase : base ≤ w.heap.size) :
  Calls Tryz.prog 148 #[.pointer (some ⟨b, 0, none⟩), v, .int .u8 x] w fun e w' => Told base b v (xs ++ begO x) (begS x) w e w' := by
 by_cases h128 : x < 128
 ·have e1 : begO x = [x] := by simp [begO, h128]
  have e2 : begS x = st0 := by simp [begS, h128]
  rw [e1, e2]
  exact begin_ascii b base v xs x hx0 hx1 h128 w st0 h hv hvb hn hbase
 ·rcases fol_cases x with ⟨_, e⟩ | ⟨_, _, e⟩ | ⟨_, e⟩ | ⟨_, e⟩ | ⟨_, _, _, e⟩ | ⟨_, e⟩ | ⟨_, _, e⟩ | ⟨_, e⟩
  ·have e1 : begO x = [65533] := by simp [begO, h128, e]
   have e2 : begS x = st0 := by simp [begS, h128, e]
   rw [e1, e2]
   exact begin_bad b base v xs x hx0 hx1 (by omega) w st0 h hv hvb hn hbase e
  all_goals
   have e1 : begO x = [] := by simp [begO, h128, e]
   rw [e1, List.append_nil]
   exact begin_more b base v xs x _ _ _ hx0 hx1 (by omega) w st0 h hv hvb e (by simp)
theorem goOn_last (b base : Nat) (v : Value) (xs : List Int) (x : Int) (hx0 : 0 ≤ x) (hx1 : x ≤ 255) (w : World) (st : St) (h : Rd w b st) (hv : Has w base v xs) (hvb : v.ownBlock ≠ some b) (hn : xs.length ≤ 1099511627776) (hbase : base ≤ w.heap.size) (hm : st.missing = 1) (hs0 : 0 ≤ st.sign) (hs1 : st.sign < 131072) :
  Calls Tryz.prog 147 #[.pointer (some ⟨b, 0, none⟩), v, .int .u8 x] w fun e w' => Told base b v (xs ++ [st.sign * 64 + x % 64]) st0 w e w' := by
 obtain ⟨i0, hi, hz0, hz1, hz2⟩ := info_parts info21
 obtain ⟨A, c, rfl⟩ := hv.shape
 have c0 : w.cell? ⟨b, 0, none⟩ = some (.int .i32 st.sign) := h.cell 0
 have c1 : w.cell? ⟨b, 1, none⟩ = some (.int .i64 st.waits) := h.cell 1
 have c2 : w.cell? ⟨b, 2, none⟩ = some (.int .i64 1) := by rw [← hm]; exact h.cell 2
 have c3 : w.cell? ⟨b, 3, none⟩ = some (.int .u8 st.low) := h.cell 3
 have c4 : w.cell? ⟨b, 4, none⟩ = some (.int .u8 st.high) := h.cell 4
 have f0 := h.free 0
 have f1 := h.free 1
 have f2 := h.free 2
 have f3 := h.free 3
 have f4 := h.free 4
 have e1 := u8_and63 x hx0 (show x < 256 by omega)
 have e2 : bits .or .i32 (st.sign * 64) (x % 64) = st.sign * 64 + x % 64 := i32_or6 _ _ (by omega) (by omega) (by omega) (by omega) (by omega)
 have HO : (((((w.setCell ⟨b, 0, none⟩ (.int .i32 0)).setCell ⟨b, 1, none⟩ (.int .i64 0)).setCell ⟨b, 2, none⟩ (.int .i64 0)).setCell ⟨b, 3, none⟩ (.int .u8 0)).setCell ⟨b, 4, none⟩ (.int .u8 0)).ownsRow base 21 1 (.slice A xs.length c) xs.length (xs.map (Value.int .i32)) := own_put st0 hv hvb
 have HV := Lib.hid hvb
 clear hvb hv hm
 go_enter Tryz.func147, Tryz.ntmps147
 go_wp2_with (at_builtin; refine wpList_append_own_at _ rfl _ _ 54 rfl base 21 i0 (.int .i32 0) 1 4 Tryz.underlying54 hi hz0 hz1 hz2 rfl (by decide) (.slice A xs.length c) xs.length _ rfl (HO.alloc _) ⟨w.heap.size, 0, none⟩ 1 1 [.int .i32 (st.sign * 64 + x % 64)] rfl rfl (cell_new_at (put5_size w b st0) _ _) (one_rune _) (fits1 hn) (fits4 hn) (put5_base hbase b st0 _) ?_; intro v' w1 hown' hgrow _ hat)
 go_wp2
 go_ret
 exact told_put h st0_ok hown' HV.out hgrow hat
theorem told_drew {base b : Nat} {v : Value} {xs : List Int} {st' : St} {w : World} {e : Ending} {w' : World} (h : Told base b v xs st' w e w') : Told base b v xs st' w e w'.drew := by
 obtain ⟨v', e1, a1, a2, a3, a4⟩ := h
 exact ⟨v', e1, a1, ⟨a2.row, a2.ok⟩, ⟨a3.os, a3.tape, a3.output, a3.size, a3.block⟩, a4⟩
theorem goOn_more (b base : Nat) (v : Value) (xs : List Int) (x : Int) (hx0 : 0 ≤ x) (hx1 : x ≤ 255) (w : World) (st : St) (h : Rd w b st) (hv : Has w base v xs) (hvb : v.ownBlock ≠ some b) (hm : 2 ≤ st.missing) (hm3 : st.missing ≤ 3) (hp : 0 < st.waits) (hw3 : st.waits ≤ 3) (hs0 : 0 ≤ st.sign) (hs1 : st.sign < 131072) :
  Calls Tryz.prog 147 #[.pointer (some ⟨b, 0, none⟩), v, .int .u8 x] w fun e w' => Told base b v xs (onS st x) w e w' := by
 have hok := onS_ok st x h.ok hp hx0
 have T := told_set (st' := onS st x) h hok hv hvb
 have c0 : w.cell? ⟨b, 0, none⟩ = some (.int .i32 st.sign) := h.cell 0
 have c1 : w.cell? ⟨b, 1, none⟩ = some (.int .i64 st.waits) := h.cell 1
 have c2 : w.cell? ⟨b, 2, none⟩ = some (.int .i64 st.missing) := h.cell 2
 have c3 : w.cell? ⟨b, 3, none⟩ = some (.int .u8 st.low) := h.cell 3
 have c4 : w.cell? ⟨b, 4, none⟩ = some (.int .u8 st.high) := h.cell 4
 have f0 := h.free 0
 have f1 := h.free 1
 have f2 := h.free 2
 have f3 := h.free 3
 have f4 := h.free 4
 have e1 := u8_and63 x hx0 (show x < 256 by omega)
 have e2 : bits .or .i32 (st.sign * 64) (x % 64) = st.sign * 64 + x % 64 := i32_or6 _ _ (by omega) (by omega) (by omega) (by omega) (by omega)
 have hb : onS st x = ⟨st.sign * 64 + x % 64, st.waits + 1, st.missing - 1, 128, 191⟩ := by
  have h1 : ¬ st.missing = 1 := by omega
  simp [onS, h1]
 rw [hb] at T ⊢
 have TH := Lib.hid T
 clear T hb hok h hv hvb
 go_enter Tryz.func147, Tryz.ntmps147
 go_wp2
 go_region
 all_goals go_wp2
 all_goals go_ret
 all_goals exact told_drew TH.out
theorem goOn_any (b base : Nat) (v : Value) (xs : List Int) (x : Int) (hx0 : 0 ≤ x) (hx1 : x ≤ 255) (w : World) (st : St) (h : Rd w b st) (hv : Has w base v xs) (hvb : v.ownBlock ≠ some b) (hn : xs.length ≤ 1099511627776) (hbase : base ≤ w.heap.size) (hp : 0 < st.waits) :
  Calls Tryz.prog 147 #[.pointer (some ⟨b, 0, none⟩), v, .int .u8 x] w fun e w' => Told base b v (xs ++ onO st x) (onS st x) w e w' := by
 have k1 := h.ok.waits
 have k2 := h.ok.missing
 have k3 := h.ok.pos hp
 have k4 := h.ok.sign
 by_cases hm : st.missing = 1
 ·have e1 : onO st x = [st.sign * 64 + x % 64] := by simp [onO, hm]
  have e2 : onS st x = st0 := by simp [onS, hm]
  rw [e1, e2]
  exact goOn_last b base v xs x hx0 hx1 w st h hv hvb hn hbase hm k4.1 (by omega)
 ·have e1 : onO st x = [] := by simp [onO, hm]
  rw [e1, List.append_nil]
  exact goOn_more b base v xs x hx0 hx1 w st h hv hvb (by omega) k2.2 hp k1.2 k4.1 (by omega)
theorem Told.shape {base b : Nat} {v : Value} {xs : List Int} {st' : St} {w : World} {e : Ending} {w' : World} (h : Told base b v xs st' w e w') : ∃ v', e = .returned v' ∧ Has w' base v' xs ∧ Rd w' b st' ∧ Kept (some b) v.ownBlock w w' ∧ (v'.ownBlock = v.ownBlock ∨ ∃ k, v'.ownBlock = some k ∧ w.heap.size ≤ k) := h
theorem told_two {base b : Nat} {v v1 : Value} {xs ys : List Int} {st1 st2 : St} {w w1 : World} {e : Ending} {w2 : World} (hk : Kept (some b) v.ownBlock w w1) (ha : v1.ownBlock = v.ownBlock ∨ ∃ k, v1.ownBlock = some k ∧ w.heap.size ≤ k) (h2 : Told base b v1 ys st2 w1 e w2) (_ : Told base b v xs st1 w (.returned v1) w1) : Told base b v ys st2 w e w2 := by
 obtain ⟨v2, rfl, a1, a2, a3, a4⟩ := h2
 refine ⟨v2, rfl, a1, a2, ⟨a3.os.trans hk.os, a3.tape.trans hk.tape, a3.output.trans hk.output, Nat.le_trans hk.size a3.size, fun k h0 h1 h2 => ?_⟩, ?_⟩
 ·rw [a3.block k (Nat.lt_of_lt_of_le h0 hk.size) h1 ?_]
  ·exact hk.block k h0 h1 h2
  ·rcases ha with e | ⟨j, e, hj⟩
   ·rw [e]; exact h2
   ·rw [e]; intro e'; injection e' with e'; omega
 ·rcases a4 with e | ⟨j, e, hj⟩
  ·rcases ha with e' | ⟨j, e', hj⟩
   ·exact .inl (e.trans e')
   ·exact .inr ⟨j, e.trans e', hj⟩
  ·exact .inr ⟨j, e, Nat.le_trans hk.size hj⟩
theorem told_ne {b : Nat} {v v1 : Value} {w : World} (hvb : v.ownBlock ≠ some b) (hb : b < w.heap.size) (ha : v1.ownBlock = v.ownBlock ∨ ∃ k, v1.ownBlock = some k ∧ w.heap.size ≤ k) : v1.ownBlock ≠ some b := by
 rcases ha with e | ⟨j, e, hj⟩
 ·rw [e]; exact hvb
 ·rw [e]; intro e'; injection e' with e'; omega
theorem read_on (b base : Nat) (v : Value) (xs : List Int) (x : Int) (hx0 : 0 ≤ x) (hx1 : x ≤ 255) (w : World) (st : St) (h : Rd w b st) (hv : Has w base v xs) (hvb : v.ownBlock ≠ some b) (hn : xs.length ≤ 1099511627776) (hbase : base ≤ w.heap.size) (hp : 0 < st.waits) (hlo : st.low ≤ x) (hhi : x ≤ st.high) :
  Calls Tryz.prog 141 #[.pointer (some ⟨b, 0, none⟩), v, .int .u8 x] w fun e w' => Told base b v (xs ++ onO st x) (onS st x) w e w' := by
 have C := goOn_any b base v xs x hx0 hx1 w st h hv hvb hn hbase hp
 have CH := Lib.hid C
 have c1 : w.cell? ⟨b, 1, none⟩ = some (.int .i64 st.waits) := h.cell 1
 have c3 : w.cell? ⟨b, 3, none⟩ = some (.int .u8 st.low) := h.cell 3
 have c4 : w.cell? ⟨b, 4, none⟩ = some (.int .u8 st.high) := h.cell 4
 clear C h hv hvb
 go_enter Tryz.func141, Tryz.ntmps141
 go_wp2_with (go_at_call 147; refine CH.out.mono ?_; rintro e w' ⟨v', rfl, ht⟩)
 go_ret
 exact ⟨v', rfl, ht⟩
theorem read_off (b base : Nat) (v : Value) (xs : List Int) (x : Int) (hx0 : 0 ≤ x) (hx1 : x ≤ 255) (w : World) (st : St) (h : Rd w b st) (hv : Has w base v xs) (hvb : v.ownBlock ≠ some b) (hn : xs.length + 1 ≤ 1099511627776) (hbase : base ≤ w.heap.size) (hp : st.waits = 0 ∨ (0 < st.waits ∧ x < st.low) ∨ (0 < st.waits ∧ st.low ≤ x ∧ st.high < x)) :
  Calls Tryz.prog 141 #[.pointer (some ⟨b, 0, none⟩), v, .int .u8 x] w fun e w' => Told base b v (xs ++ (brk st ++ begO x)) (begS x) w e w' := by
 have C := breakOff_any b base v xs w st h hv hvb (by omega) hbase
 have CH := Lib.hid C
 have D : ∀ v1 w1, Told base b v (xs ++ brk st) st0 w (.returned v1) w1 → Calls Tryz.prog 148 #[.pointer (some ⟨b, 0, none⟩), v1, .int .u8 x] w1 fun e w' => Told base b v (xs ++ (brk st ++ begO x)) (begS x) w e w' := by
  intro v1 w1 ht
  obtain ⟨v', e, a1, a2, a3, a4⟩ := ht.shape
  injection e with e
  subst e
  have hl : (xs ++ brk st).length ≤ 1099511627776 := by
   have : (brk st).length ≤ 1 := by unfold brk; split <;> simp
   simp; omega
  refine (begin_any b base v1 (xs ++ brk st) x hx0 hx1 w1 a2 a1 (told_ne hvb h.lt a4) hl (Nat.le_trans hbase a3.size)).mono fun e w2 h2 => ?_
  rw [← List.append_assoc]
  exact told_two a3 a4 h2 ht
 have DH := Lib.hid D
 have c1 : w.cell? ⟨b, 1, none⟩ = some (.int .i64 st.waits) := h.cell 1
 have c3 : w.cell? ⟨b, 3, none⟩ = some (.int .u8 st.low) := h.cell 3
 have c4 : w.cell? ⟨b, 4, none⟩ = some (.int .u8 st.high) := h.cell 4
 clear C D h hv hvb
 rcases hp with hp | ⟨hp, hq⟩ | ⟨hp, hq, hq'⟩
 ·rw [hp] at c1
  have HP := Lib.hid hp
  clear hp
  go_enter Tryz.func141, Tryz.ntmps141
  go_wp2_with (first
   | (go_at_call 142; refine CH.out.mono ?_; rintro e w1 ⟨v1, rfl, ht⟩)
   | (go_at_call 148; refine (DH.out v1 w1 ⟨v1, rfl, ht⟩).mono ?_; rintro e w2 ⟨v2, rfl, ht2⟩))
  go_ret
  exact ⟨v2, rfl, ht2⟩
 all_goals
  go_enter Tryz.func141, Tryz.ntmps141
  go_wp2_with (first
   | (go_at_call 142; refine CH.out.mono ?_; rintro e w1 ⟨v1, rfl, ht⟩)
   | (go_at_call 148; refine (DH.out v1 w1 ⟨v1, rfl, ht⟩).mono ?_; rintro e w2 ⟨v2, rfl, ht2⟩))
  go_ret
  exact ⟨v2, rfl, ht2⟩
theorem read_any (b base : Nat) (v : Value) (xs : List Int) (x : Int) (hx0 : 0 ≤ x) (hx1 : x ≤ 255) (w : World) (st : St) (h : Rd w b st) (hv : Has w base v xs) (hvb : v.ownBlock ≠ some b) (hn : xs.length + 1 ≤ 1099511627776) (hbase : base ≤ w.heap.size) :
  Calls Tryz.prog 141 #[.pointer (some ⟨b, 0, none⟩), v, .int .u8 x] w fun e w' => Told base b v (xs ++ stO st x) (stS st x) w e w' := by
 by_cases g : goes st x
 ·have e1 : stO st x = onO st x := by simp [stO, g]
  have e2 : stS st x = onS st x := by simp [stS, g]
  rw [e1, e2]
  exact read_on b base v xs x hx0 hx1 w st h hv hvb (by omega) hbase g.1 g.2.1 g.2.2
 ·have e1 : stO st x = brk st ++ begO x := by simp [stO, g]
  have e2 : stS st x = begS x := by simp [stS, g]
  rw [e1, e2]
  have k := h.ok.waits
  refine read_off b base v xs x hx0 hx1 w st h hv hvb hn hbase ?_
  unfold goes at g
  omega
theorem put_any (b : Nat) (x : Int) (hx0 : 0 ≤ x) (hx1 : x ≤ 255) (w : World) (st : St) (h : Rd w b st) :
  Calls Tryz.prog 134 #[.pointer (some ⟨b, 0, none⟩), .int .u8 x] w fun e w' => Told w.heap.size b (.slice none 0 0) (stO st x) (stS st x) w e w' := by
 have C := read_any b w.heap.size (.slice none 0 0) [] x hx0 hx1 w st h (Has.nothing _ _) (by simp [Value.ownBlock]) (by simp) (Nat.le_refl _)
 have CH := Lib.hid C
 clear C h
 go_enter Tryz.func134, Tryz.ntmps134
 go_wp2_with (go_at_call 141; refine CH.out.mono ?_; rintro e w' ⟨v', rfl, ht⟩)
 go_ret
 exact ⟨v', rfl, ht⟩
theorem waits_any (b : Nat) (w : World) (st : St) (h : Rd w b st) :
  Calls Tryz.prog 136 #[.pointer (some ⟨b, 0, none⟩)] w fun e w' => e = .returned (.int .i64 st.waits) ∧ w = w' := by
 have c1 : w.cell? ⟨b, 1, none⟩ = some (.int .i64 st.waits) := h.cell 1
 clear h
 go_enter Tryz.func136, Tryz.ntmps136
 go_wp2
 go_ret
 exact ⟨rfl, rfl⟩
theorem Has.lower {w : World} {base base' : Nat} {v : Value} {xs : List Int} (h : Has w base v xs) (hb : base' ≤ base) : Has w base' v xs := by
 refine ⟨h.1, ?_⟩
 rcases h.2 with e | ⟨g, cap, cur, e1, e2, r⟩
 ·exact .inl e
 ·exact .inr ⟨g, cap, cur, e1, Nat.le_trans hb e2, r⟩
theorem Has.below {w w' : World} {B base : Nat} {v : Value} {xs : List Int} (h : Has w base v xs) (hb : Below B w w') (hv : ∀ k, v.ownBlock = some k → k < B) : Has w' base v xs := by
 refine ⟨h.1, ?_⟩
 rcases h.2 with e | ⟨g, cap, cur, rfl, e2, e3, r⟩
 ·exact .inl e
 ·exact .inr ⟨g, cap, cur, rfl, e2, (hb.block g (hv g rfl)).trans e3, r⟩
theorem Has.ne {w : World} {base b : Nat} {v : Value} {xs : List Int} (h : Has w base v xs) (hb : b < base) : v.ownBlock ≠ some b := fun e => by
 have := (World.ownsRow.lt h b e).1; omega
theorem Has.lt {w : World} {base : Nat} {v : Value} {xs : List Int} (h : Has w base v xs) : ∀ k, v.ownBlock = some k → k < w.heap.size := fun k e => (World.ownsRow.lt h k e).2
theorem Has.sq {w : World} {base : Nat} {A : Option Addr} {n c : Nat} {xs : List Int} (h : Has w base (.slice A n c) xs) : n = xs.length ∧ Sq w w.heap.size 1 n A (xs.map (Value.int .i32)) := by
 obtain ⟨A', c', e⟩ := h.shape
 injection e with e1 e2 e3
 subst e1 e2 e3
 exact ⟨rfl, Sq.own h⟩
theorem Kept.below {b r : Option Nat} {w w' : World} {B : Nat} (h : Kept b r w w') (hB : B ≤ w.heap.size) (hb : ∀ k, b = some k → B ≤ k) (hr : ∀ k, r = some k → B ≤ k) : Below B w w' :=
 ⟨h.os, h.tape, h.output, h.size, fun k hk => h.block k (by omega) (fun e => by have := hb k e.symm; omega) (fun e => by have := hr k e.symm; omega)⟩
def AllPost (l : List Int) (w : World) (e : Ending) (w' : World) : Prop := ∃ v, e = .returned v ∧ Has w' w.heap.size v l ∧ Below w.heap.size w w'
def AllAt (s : ByteArray) (w : World) (k : Nat) (v : Value) (wr : World) : Prop := k ≤ s.size ∧ Has wr (w.heap.size + 1) v (runO st0 ((octs s).take k)) ∧ Rd wr w.heap.size (runS st0 ((octs s).take k)) ∧ Below w.heap.size w wr
theorem all_walk (s : ByteArray) (hs : s.size ≤ 274877906944) (w : World) :
  Calls Tryz.prog 135 #[.string s] w fun e w' => AllPost (allO (octs s)) w e w' := by
 go_enter Tryz.func135, Tryz.ntmps135
 go_wp2
 go_loopw [4, 8] (fun v i wr => ∃ k : Nat, i = .int .i64 k ∧ AllAt s w k v wr) (fun _ i _ => s.size - (intOf i).toNat)
 case atStart =>
  refine ⟨0, rfl, Nat.zero_le _, Has.nothing _ _, ⟨?_, st0_ok⟩, (Below.refl _ _).alloc (Nat.le_refl _) _⟩
  exact heap_alloc_new w _
 case round =>
  obtain ⟨k, rfl, hat⟩ := hrel
  by_cases hlt : k < s.size
  ·have hx := octs_range s (nth (octs s) k) (by rw [nth_get (by rw [octs_length]; exact hlt)]; exact List.getElem_mem _)
   have hnx := nth_octs s k hlt
   rw [hnx] at hx
   have C := fun hn => read_any w.heap.size (w.heap.size + 1) u4 (runO st0 ((octs s).take k)) _ hx.1 hx.2 wr _ hat.2.2.1 hat.2.1 (hat.2.1.ne (Nat.lt_succ_self _)) hn hat.2.2.1.lt
   have CH := Lib.hid (C (by
    have := runO_length ((octs s).take k) st0
    have := List.length_take_le k (octs s)
    omega))
   have NX := Lib.hid hnx
   clear C hx hnx
   go_wp2_with (go_at_call 141; refine CH.out.mono ?_; rintro e w' ⟨v', rfl, ht⟩)
   go_roundw
   case rel =>
    refine ⟨k + 1, by go_num, by omega, ?_, ?_, ?_⟩
    ·rw [take_next (by rw [octs_length]; exact hlt), runO_append, NX.out]; simpa [runO] using ht.1
    ·rw [take_next (by rw [octs_length]; exact hlt), runS_append, NX.out]; exact ht.2.1
    ·exact hat.2.2.2.trans (ht.2.2.1.below (Nat.le_of_lt hat.2.2.1.lt) (fun j e => by injection e with e; omega) (fun j e => by have := (World.ownsRow.lt hat.2.1 j e).1; omega))
   case measure => simp [intOf]; omega
  ·have hk : (octs s).take k = octs s := take_all _ (by rw [octs_length]; omega)
   obtain ⟨_, h1, h2, h3⟩ := hat
   rw [hk] at h1 h2
   have C := fun hn => breakOff_any w.heap.size (w.heap.size + 1) u4 (runO st0 (octs s)) wr _ h2 h1 (h1.ne (Nat.lt_succ_self _)) hn h2.lt
   have CH := Lib.hid (C (by
    have := runO_length (octs s) st0
    rw [octs_length] at this
    omega))
   have HB := Lib.hid (fun w' (hkp : Kept (some w.heap.size) u4.ownBlock wr w') => h3.trans (hkp.below (B := w.heap.size) (Nat.le_of_lt h2.lt) (fun j e => by injection e with e; omega) (fun j e => by have := (World.ownsRow.lt h1 j e).1; omega)))
   clear C hk h1 h2 h3
   go_wp2_with (go_at_call 142; refine CH.out.mono ?_; rintro e w' ⟨v', rfl, ht⟩)
   go_ret
   exact ⟨v', rfl, Has.lower ht.1 (by omega), HB.out _ ht.2.2.1⟩
def mayA (a : Int) : Bool := decide (0 ≤ a) && decide (a ≤ 255)
theorem mayAttr_yes (a : Int) (h0 : 0 ≤ a) (h1 : a ≤ 255) (w : World) : Calls Tryz.prog 104 #[.int .i64 a] w fun e w' => e = .returned (.bool true) ∧ w = w' := by
 go_enter Tryz.func104, Tryz.ntmps104
 go_wp2
 go_ret
 exact ⟨rfl, rfl⟩
theorem mayAttr_no (a : Int) (h : a < 0 ∨ 255 < a) (w : World) : Calls Tryz.prog 104 #[.int .i64 a] w fun e w' => e = .returned (.bool false) ∧ w = w' := by
 rcases h with h | h
 ·go_enter Tryz.func104, Tryz.ntmps104
  go_wp2
  go_ret
  exact ⟨rfl, rfl⟩
 ·have h0 : 0 ≤ a := by omega
  have h1 : decide (a ≤ 255) = false := by simp; omega
  go_enter Tryz.func104, Tryz.ntmps104
  go_wp2
  go_ret
  exact ⟨rfl, rfl⟩
def hasB (r n a : Int) : Bool := (n == 1 || n == 2) && !(isB 0 r n a)
theorem hasSign_walk (r n a : Int) (w : World) : Calls Tryz.prog 143 #[cellV r n a] w fun e w' => e = .returned (.bool (hasB r n a)) ∧ Below w.heap.size w w' := by
 obtain ⟨B, hB⟩ : ∃ B, hasB r n a = B := ⟨_, rfl⟩
 rw [hB]
 unfold hasB at hB
 obtain ⟨p, hp⟩ : ∃ p, isB 0 r n a = p := ⟨_, rfl⟩
 rw [hp] at hB
 have P := fun w => isPad_walk r n a w
 rw [hp] at P
 have PH := Lib.hid P
 clear P hp
 cases h1 : (n == 1) <;> cases h2 : (n == 2) <;> rw [h1, h2] at hB <;> cases p <;> obtain rfl := hB
 all_goals
  go_enter Tryz.func143, Tryz.ntmps143
  go_wp2_with (go_at_call 65; refine (PH.out _).mono ?_; rintro e w' ⟨rfl, hb⟩)
  go_ret
  first
   | exact ⟨rfl, ((Below.refl _ _).alloc (Nat.le_refl _) _).trans (hb.mono (by simp))⟩
   | exact ⟨rfl, (Below.refl _ _).alloc (Nat.le_refl _) _⟩
def flat : List (Int × Int × Int) → List Value
 | [] => []
 | c :: l => .int .i32 c.1 :: .int .i64 c.2.1 :: .int .i64 c.2.2 :: flat l
theorem flat_length (l : List (Int × Int × Int)) : (flat l).length = l.length * 3 := by
 induction l with
 | nil => rfl
 | cons c l ih => simp only [flat, List.length_cons, ih]; omega
theorem flat_append (l m : List (Int × Int × Int)) : flat (l ++ m) = flat l ++ flat m := by
 induction l with
 | nil => rfl
 | cons c l ih => simp only [List.cons_append, flat, ih]
def HasC (w : World) (base : Nat) (v : Value) (l : List (Int × Int × Int)) : Prop := w.ownsRow base 33 3 v l.length (flat l)
def ofL (r a : Int) : List (Int × Int × Int) := if mayA a then (if wof r = 1 then [(r, 1, a)] else if wof r = 2 then [(r, 2, a), (0, 0, a)] else []) else []
def OfPost (l : List (Int × Int × Int)) (w : World) (e : Ending) (w' : World) : Prop := ∃ v, e = .returned v ∧ HasC w' w.heap.size v l ∧ Below w.heap.size w w'
theorem own_new (w : World) (e : TypeId) (size n : Nat) (cs : Array Value) (hs : cs.size = n * size) (hn : n ≤ 1099511627776) : (w.alloc (.cells cs e)).ownsRow w.heap.size e size (.slice (some ⟨w.heap.size, 0, none⟩) n n) n cs.toList := by
 refine ⟨by rw [Array.length_toList, hs], .inr ⟨w.heap.size, n, cs, rfl, Nat.le_refl _, heap_alloc_new w _, Nat.le_refl _, by unfold maxLen; omega, hs, ?_⟩⟩
 rw [← hs, ← Array.length_toList]; exact List.take_length
theorem cellOf_walk (r a : Int) (hr0 : -2147483648 ≤ r) (hr1 : r ≤ 2147483647) (w : World) (hs : Spans w) :
  Calls Tryz.prog 67 #[.int .i32 r, .int .i64 a] w fun e w' => OfPost (ofL r a) w e w' := by
 have F := of_walk r hr0 hr1 w hs
 clear hs
 by_cases ha : 0 ≤ a ∧ a ≤ 255
 ·obtain ⟨h0, h1⟩ := ha
  have hm : mayA a = true := by simp [mayA, h0, h1]
  have M := mayAttr_yes a h0 h1 w
  have hwr := wof_range r
  have hw : wof r = 0 ∨ wof r = 1 ∨ wof r = 2 := by omega
  clear hwr
  rcases hw with hw | hw | hw
  ·have e : ofL r a = [] := by simp [ofL, hm, hw]
   rw [e]
   rw [hw] at F
   have FH := Lib.hid F
   have MH := Lib.hid M
   clear F M hw hm e
   go_enter Tryz.func67, Tryz.ntmps67
   go_wp2_with (first | (go_at_call 104; refine MH.out.mono ?_; rintro e w' ⟨rfl, rfl⟩) | (go_at_call 70; refine FH.out.mono ?_; rintro e w' ⟨rfl, rfl⟩))
   go_ret
   exact ⟨_, rfl, World.ownsRow_nil _ _ _ _, Below.refl _ _⟩
  ·have e : ofL r a = [(r, 1, a)] := by simp [ofL, hm, hw]
   rw [e]
   rw [hw] at F
   have FH := Lib.hid F
   have MH := Lib.hid M
   clear F M hw hm e
   go_enter Tryz.func67, Tryz.ntmps67
   go_wp2_with (first | (go_at_call 104; refine MH.out.mono ?_; rintro e w' ⟨rfl, rfl⟩) | (go_at_call 70; refine FH.out.mono ?_; rintro e w' ⟨rfl, rfl⟩))
   go_ret
   exact ⟨_, rfl, own_new w _ 3 1 #[.int .i32 r, .int .i64 1, .int .i64 a] rfl (by omega), (Below.refl _ _).alloc (Nat.le_refl _) _⟩
  ·have e : ofL r a = [(r, 2, a), (0, 0, a)] := by simp [ofL, hm, hw]
   rw [e]
   rw [hw] at F
   have FH := Lib.hid F
   have MH := Lib.hid M
   clear F M hw hm e
   go_enter Tryz.func67, Tryz.ntmps67
   go_wp2_with (first | (go_at_call 104; refine MH.out.mono ?_; rintro e w' ⟨rfl, rfl⟩) | (go_at_call 70; refine FH.out.mono ?_; rintro e w' ⟨rfl, rfl⟩))
   go_ret
   exact ⟨_, rfl, own_new w _ 3 2 #[.int .i32 r, .int .i64 2, .int .i64 a, .int .i32 0, .int .i64 0, .int .i64 a] rfl (by omega), (Below.refl _ _).alloc (Nat.le_refl _) _⟩
 ·have hm : mayA a = false := by unfold mayA; by_cases h : 0 ≤ a <;> simp [h]; omega
  have M := mayAttr_no a (by omega) w
  have e : ofL r a = [] := by simp [ofL, hm]
  rw [e]
  have FH := Lib.hid F
  have MH := Lib.hid M
  clear F M hm e
  go_enter Tryz.func67, Tryz.ntmps67
  go_wp2_with (first | (go_at_call 104; refine MH.out.mono ?_; rintro e w' ⟨rfl, rfl⟩) | (go_at_call 70; refine FH.out.mono ?_; rintro e w' ⟨rfl, rfl⟩))
  go_ret
  exact ⟨_, rfl, World.ownsRow_nil _ _ _ _, Below.refl _ _⟩
theorem may_half (a : Int) (h0 : 0 ≤ a) (h1 : a ≤ 255) (w : World) : Calls Tryz.prog 64 #[cellV 0 0 a] w fun e w' => e = .returned (.bool true) ∧ Below w.heap.size w w' := by
 go_enter Tryz.func64, Tryz.ntmps64
 go_wp2_with (go_at_call 104; refine (mayAttr_yes a h0 h1 _).mono ?_; rintro e w' ⟨rfl, rfl⟩)
 go_ret
 exact ⟨rfl, (Below.refl _ _).alloc (Nat.le_refl _) _⟩
theorem may_sign (r n a : Int) (h0 : 0 ≤ a) (h1 : a ≤ 255) (hr0 : -2147483648 ≤ r) (hr1 : r ≤ 2147483647) (hn : wof r = n) (hn0 : n = 1 ∨ n = 2) (w : World) (hs : Spans w) : Calls Tryz.prog 64 #[cellV r n a] w fun e w' => e = .returned (.bool true) ∧ Below w.heap.size w w' := by
 have F := fun w hs => of_walk r hr0 hr1 w hs
 rw [hn] at F
 have FH := Lib.hid F
 have hz : (n == 0) = false := by rcases hn0 with rfl | rfl <;> rfl
 have SA := hs.below ((Below.refl w.heap.size w).alloc (Nat.le_refl _) (.cells #[.int .i32 r, .int .i64 n, .int .i64 a] 33)) hs.size
 have SH := Lib.hid SA
 clear F hn hs hn0 SA
 go_enter Tryz.func64, Tryz.ntmps64
 go_wp2_with (go_at_call 104; refine (mayAttr_yes a h0 h1 _).mono ?_; rintro e w' ⟨rfl, rfl⟩)
 go_region_with (go_at_call 70; refine (FH.out _ (by first | exact SH.out | exact Spans.drew SH.out | exact Spans.drew (Spans.drew SH.out))).mono ?_; rintro e w' ⟨rfl, rfl⟩)
 all_goals go_wp2
 all_goals go_ret
 all_goals first
  | exact ⟨rfl, (Below.refl _ _).alloc (Nat.le_refl _) _⟩
  | exact ⟨rfl, ((Below.refl _ _).alloc (Nat.le_refl _) _).drew⟩
structure Good (c : Int × Int × Int) : Prop where
 sign : -2147483648 ≤ c.1 ∧ c.1 ≤ 2147483647
 wide : wof c.1 = c.2.1
 two : c.2.1 = 1 ∨ c.2.1 = 2
 attr : 0 ≤ c.2.2 ∧ c.2.2 ≤ 255
theorem Good.has {c : Int × Int × Int} (h : Good c) : hasB c.1 c.2.1 c.2.2 = true := by
 have h0 : c.1 ≠ 0 := fun e => by
  have := h.wide; rw [e] at this
  rcases h.two with k | k <;> rw [k] at this <;> exact absurd this (by decide)
 have hb : (c.1 == 0) = false := by simpa using h0
 rcases h.two with k | k <;> simp [hasB, isB, hb, k]
theorem Sq.three {w : World} {B n : Nat} {A : Option Addr} {l : List (Int × Int × Int)} (h : Sq w B 3 n A (flat l)) {i : Nat} (hi : i < n) :
  ∃ b off, A = some ⟨b, off, none⟩ ∧ b < B ∧ ∃ c, l[i]? = some c ∧ w.cell? ⟨b, off + i * 3, none⟩ = some (.int .i32 c.1) ∧ w.cell? ⟨b, off + i * 3 + 1, none⟩ = some (.int .i64 c.2.1) ∧ w.cell? ⟨b, off + i * 3 + 2, none⟩ = some (.int .i64 c.2.2) := by
 obtain ⟨b, off, e, hb, hc⟩ := h.spot (by omega)
 have hl : i < l.length := by have := h.len; rw [flat_length] at this; omega
 have key : ∀ (l : List (Int × Int × Int)) (i : Nat) (hl : i < l.length), (flat l)[i * 3]? = some (.int .i32 (l[i]'hl).1) ∧ (flat l)[i * 3 + 1]? = some (.int .i64 (l[i]'hl).2.1) ∧ (flat l)[i * 3 + 2]? = some (.int .i64 (l[i]'hl).2.2) := by
  intro l
  induction l with
  | nil => intro i hl; simp at hl
  | cons c l ih =>
   intro i hl
   cases i with
   | zero => exact ⟨rfl, rfl, rfl⟩
   | succ i =>
    have := ih i (by simpa using hl)
    have e : (i + 1) * 3 = i * 3 + 1 + 1 + 1 := by omega
    rw [e]
    simpa [flat] using this
 obtain ⟨k0, k1, k2⟩ := key l i hl
 exact ⟨b, off, e, hb, l[i], List.getElem?_eq_getElem hl, hc _ _ k0, hc _ _ k1, hc _ _ k2⟩
theorem mayB_out {r n a : Int} (h : a < 0 ∨ 255 < a) : mayB (r, n, a) = false := by
 unfold mayB
 rcases h with h | h
 ·simp [show ¬ 0 ≤ a by omega]
 ·simp [show ¬ a ≤ 255 by omega]
theorem mayB_half {r a : Int} (h0 : 0 ≤ a) (h1 : a ≤ 255) : mayB (r, 0, a) = (r == 0) := by
 unfold mayB
 simp [h0, h1]
theorem mayB_sign {r n a : Int} (h0 : 0 ≤ a) (h1 : a ≤ 255) (hn : n ≠ 0) : mayB (r, n, a) = ((wof r == n) || isB 0 r n a) := by
 have hw := wof_range r
 have e : (decide (0 < n) && n == wof r) = (wof r == n) := by
  rw [Bool.eq_iff_iff]
  simp only [Bool.and_eq_true, decide_eq_true_eq, beq_iff_eq]
  omega
 have e2 : ((r, n, a) == ((0 : Int), (1 : Int), (0 : Int))) = isB 0 r n a := by
  unfold isB
  rw [Bool.eq_iff_iff]
  simp only [Bool.and_eq_true, beq_iff_eq, Prod.mk.injEq, and_assoc]
 unfold mayB
 simp only [h0, h1, decide_true, Bool.true_and, e, e2, show (n == 0) = false by simpa using hn, Bool.false_and, Bool.or_false]
 exact Bool.or_comm _ _
theorem may_any (r n a : Int) (hr0 : -2147483648 ≤ r) (hr1 : r ≤ 2147483647) (w : World) (hs : Spans w) : Calls Tryz.prog 64 #[cellV r n a] w fun e w' => e = .returned (.bool (mayB (r, n, a))) ∧ Below w.heap.size w w' := by
 by_cases ha : 0 ≤ a ∧ a ≤ 255
 ·obtain ⟨h0, h1⟩ := ha
  by_cases hn : n = 0
  ·subst hn
   rw [mayB_half h0 h1]
   clear hs
   cases h : (r == 0)
   all_goals
    go_enter Tryz.func64, Tryz.ntmps64
    go_wp2_with (go_at_call 104; refine (mayAttr_yes a h0 h1 _).mono ?_; rintro e w' ⟨rfl, rfl⟩)
    go_ret
    exact ⟨rfl, (Below.refl _ _).alloc (Nat.le_refl _) _⟩
  ·rw [mayB_sign h0 h1 hn]
   have hz : (n == 0) = false := by simpa using hn
   have F := fun w hs => of_walk r hr0 hr1 w hs
   have P := fun w => isPad_walk r n a w
   obtain ⟨m, hm⟩ : ∃ m, wof r = m := ⟨_, rfl⟩
   rw [hm] at F ⊢
   obtain ⟨q, hq⟩ : ∃ q, isB 0 r n a = q := ⟨_, rfl⟩
   rw [hq] at P ⊢
   have FH := Lib.hid F
   have PH := Lib.hid P
   have SA := hs.below ((Below.refl w.heap.size w).alloc (Nat.le_refl _) (.cells #[.int .i32 r, .int .i64 n, .int .i64 a] 33)) hs.size
   have SH := Lib.hid SA
   clear F P hm hq hs SA hn
   cases h : (m == n)
   ·cases q
    all_goals
     go_enter Tryz.func64, Tryz.ntmps64
     go_wp2_with (go_at_call 104; refine (mayAttr_yes a h0 h1 _).mono ?_; rintro e w' ⟨rfl, rfl⟩)
     go_region_with (first | (go_at_call 70; refine (FH.out _ (by first | exact SH.out | exact Spans.drew SH.out | exact Spans.drew (Spans.drew SH.out))).mono ?_; rintro e w' ⟨rfl, rfl⟩) | (go_at_call 65; refine (PH.out _).mono ?_; rintro e w3 ⟨rfl, b3⟩))
     all_goals go_wp2
     all_goals go_ret
     all_goals first
      | exact ⟨rfl, (Below.refl _ _).alloc (Nat.le_refl _) _⟩
      | exact ⟨rfl, ((Below.refl _ _).alloc (Nat.le_refl _) _).drew⟩
      | exact ⟨rfl, ((Below.refl _ _).alloc (Nat.le_refl _) _).trans (b3.mono (by simp))⟩
      | exact ⟨rfl, (((Below.refl _ _).alloc (Nat.le_refl _) _).drew).trans (b3.mono (by simp))⟩
   ·cases q
    all_goals
     go_enter Tryz.func64, Tryz.ntmps64
     go_wp2_with (go_at_call 104; refine (mayAttr_yes a h0 h1 _).mono ?_; rintro e w' ⟨rfl, rfl⟩)
     go_region_with (first | (go_at_call 70; refine (FH.out _ (by first | exact SH.out | exact Spans.drew SH.out | exact Spans.drew (Spans.drew SH.out))).mono ?_; rintro e w' ⟨rfl, rfl⟩) | (go_at_call 65; refine (PH.out _).mono ?_; rintro e w3 ⟨rfl, b3⟩))
     all_goals go_wp2
     all_goals go_ret
     all_goals first
      | exact ⟨rfl, (Below.refl _ _).alloc (Nat.le_refl _) _⟩
      | exact ⟨rfl, ((Below.refl _ _).alloc (Nat.le_refl _) _).drew⟩
      | exact ⟨rfl, ((Below.refl _ _).alloc (Nat.le_refl _) _).trans (b3.mono (by simp))⟩
      | exact ⟨rfl, (((Below.refl _ _).alloc (Nat.le_refl _) _).drew).trans (b3.mono (by simp))⟩
 ·rw [mayB_out (by omega)]
  have M := Lib.hid (fun w => mayAttr_no a (by omega) w)
  clear hs ha
  go_enter Tryz.func64, Tryz.ntmps64
  go_wp2_with (go_at_call 104; refine (M.out _).mono ?_; rintro e w' ⟨rfl, rfl⟩)
  go_ret
  exact ⟨rfl, (Below.refl _ _).alloc (Nat.le_refl _) _⟩
