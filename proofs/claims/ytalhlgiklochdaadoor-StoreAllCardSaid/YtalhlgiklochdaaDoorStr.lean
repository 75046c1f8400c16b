/-
  Bytes as a text, nil or not; the statements' own copy of a row.
-/
import Derived.Test.YtalhlgiklochdaaDoorGrow
import Derived.Test.YtalhlgiklochdaaDoorApp
import Derived.Laws.IdiomStrings
import Derived.Deep.RegionLaw
namespace Go.Proofs.YtalhlgiklochdaaDoor
open Go.ChangeShapes Go.WideShapes Go.ChangeAt Go.RowKit

/-- Bytes as a text. -/
def strL (l : List Int) : ByteArray := ⟨(l.map fun x => UInt8.ofNat x.toNat).toArray⟩
theorem octs_strL {l : List Int} (h : ∀ x ∈ l, 0 ≤ x ∧ x ≤ 255) : octs (strL l) = l := by
  unfold octs strL
  simp only [List.map_map]
  conv => rhs; rw [← List.map_id l]
  refine List.map_congr_left fun x hx => ?_
  obtain ⟨h0, h1⟩ := h x hx
  obtain ⟨n, rfl⟩ := Int.eq_ofNat_of_zero_le h0
  have : n < 256 := by omega
  simp [Nat.mod_eq_of_lt this]
theorem strL_inj {l m : List Int} (h : ∀ x ∈ l, 0 ≤ x ∧ x ≤ 255) (h' : ∀ x ∈ m, 0 ≤ x ∧ x ≤ 255) (e : strL l = strL m) : l = m := by
  rw [← octs_strL h, ← octs_strL h', e]
/-- 'string(b)' of a slice that reads as bytes. -/
theorem conv_sq {w : World} {B n : Nat} {A : Option Addr} {l : List Int} (hq : Sq w B 1 n A (l.map (Value.int .u8))) (h : ∀ x ∈ l, 0 ≤ x ∧ x ≤ 255) (c : Nat) :
    (convert 23 9 (.slice A n c)).run Tryd.prog w = .ok (.string (strL l)) w := by
  have hl := hq.size_ints
  rcases A with _ | ⟨b, off, sp⟩
  · have h0 : n = 0 := by
      rcases Nat.eq_zero_or_pos n with h0 | h0
      · exact h0
      · obtain ⟨_, _, e, _⟩ := hq.spot h0
        cases e
    subst h0
    have e : l = [] := List.eq_nil_of_length_eq_zero hl
    subst e
    rw [run_convert_bytes_string w 23 9 5 _ 0 c Tryd.underlying23 Tryd.underlying5 Tryd.underlying9]
    simp [Conv.bytesToString]
    rfl
  · have k := run_convert_bytes_back (P := Tryd.prog) w 23 9 5 ⟨b, off, sp⟩ c (l.map fun x => UInt8.ofNat x.toNat) Tryd.underlying23 Tryd.underlying5 Tryd.underlying9 (fun j hj => by
      have hj' : j < l.length := by simpa using hj
      obtain ⟨b', off', e, _, hc⟩ := hq.spot (by omega)
      injection e with e
      injection e with e1 e2 e3
      subst e1 e2 e3
      rw [add_at', hc j (.int .u8 l[j]) (by simp [hj'])]
      obtain ⟨h0, h1⟩ := h _ (List.getElem_mem hj')
      simp only [List.getElem_map]
      obtain ⟨n, hn⟩ := Int.eq_ofNat_of_zero_le h0
      rw [hn]
      have : n < 256 := by omega
      simp [Nat.mod_eq_of_lt this])
    rw [List.length_map, hl] at k
    exact k
theorem HasB.sq {w : World} {base n c : Nat} {A : Option Addr} {l : List Int} (h : HasB w base (.slice A n c) l) : Sq w w.heap.size 1 n A (l.map (Value.int .u8)) := by
  obtain ⟨A', c', e⟩ := HasB.shape h
  injection e with e1 e2 e3
  subst e1 e2 e3
  exact Sq.own h

theorem run_app {P : Program} (w : World) (t ty : TypeId) (base : Nat) (e : TypeId) (i : TypeInfo) (z : Value) (size bytes : Nat) (ht : P.underlying t = some (.slice e)) (hi : P.info? e = some i) (hz : i.zero = some z)
    (hsize : i.size = size) (hby : i.bytes = bytes) (hzs : z.cells.size = size) (hsz : 0 < size) (v : Value) (n : Nat) (xs : List Value) (hown : w.ownsRow base e size v n xs)
    (A : Option Addr) (m c : Nat) (news : List Value) (B : Nat) (hq : Sq w B size m A news) (h1 : ∀ u ∈ news, u.oneCell' = true) (h63 : n + m ≤ maxLen) (hbytes : (n + m) * bytes ≤ 140737488355328) (hbase : base ≤ w.heap.size) :
    ∃ A' c' w', (Builtin.append_ #[t, t] ty #[v, .slice A m c]).run P w = .ok (.slice A' (n + m) c') w' ∧ w'.ownsRow base e size (.slice A' (n + m) c') (n + m) (xs ++ news) ∧ w.grownBy w' v.ownBlock ∧ ((Value.slice A' (n + m) c').ownBlock = v.ownBlock ∨ (Value.slice A' (n + m) c').ownBlock = some w.heap.size) := by
  have shape : ∀ {w' : World} {v' : Value} {k : Nat} {ys : List Value}, w'.ownsRow base e size v' k ys → ∃ A' c', v' = .slice A' k c' := fun h => by
    rcases h.2 with ⟨rfl, h0⟩ | ⟨g, cap, cur, rfl, _⟩
    · rw [h0]; exact ⟨_, _, rfl⟩
    · exact ⟨_, _, rfl⟩
  rcases A with _ | ad
  · have hm : m = 0 := by
      rcases Nat.eq_zero_or_pos m with h0 | h0
      · exact h0
      · obtain ⟨_, _, e, _⟩ := hq.spot h0
        cases e
    subst hm
    have hn : news = [] := List.eq_nil_of_length_eq_zero (by have := hq.len; omega)
    subst hn
    have hrun := run_app_nil (P := P) (ty := ty) ht hi hown c
    obtain ⟨A', c', rfl⟩ := shape hown
    refine ⟨A', c', w, hrun, by simpa using hown, ⟨rfl, rfl, rfl, Nat.le_refl _, fun _ _ _ => rfl⟩, .inl rfl⟩
  · obtain ⟨v', w', hr, h2, h3, _, h5⟩ := run_append_own_at (P := P) w base t ty e i z size bytes ht hi hz hsize hby hzs hsz v n xs hown ad m c news hq.len (fun j u hu => by
      have hj : 0 < m := by
        rcases Nat.eq_zero_or_pos m with h0 | h0
        · subst h0
          have hn : news = [] := List.eq_nil_of_length_eq_zero (by have := hq.len; omega)
          subst hn
          simp at hu
        · exact h0
      obtain ⟨b, off, e, _, hc⟩ := hq.spot hj
      injection e with e
      subst e
      rw [add_spot]
      exact hc j u hu) h1 h63 hbytes hbase
    obtain ⟨A', c', rfl⟩ := shape h2
    exact ⟨A', c', w', hr, h2, h3, h5⟩
/-- append at a step of a region that draws its order, the source a slice that reads as a list. -/
theorem step_app {P : Program} {w : World} {ops : Array Oper} {o : Oper} {a : Act} {K : Act → World → Prop} {Q : Exit → Act → World → Prop} {E : Prop} (hgd : o.guard = none) (s x : Operand) (t : TypeId)
    (ho : o.op = .call { callee := .builtin .append, args := #[s, x], argTypes := #[t, t] })
    (base : Nat) (e : TypeId) (i : TypeInfo) (z : Value) (size bytes : Nat) (ht : P.underlying t = some (.slice e)) (hi : P.info? e = some i) (hz : i.zero = some z)
    (hsize : i.size = size) (hby : i.bytes = bytes) (hzs : z.cells.size = size) (hsz : 0 < size) (v : Value) (n : Nat) (xs : List Value) (hs : a.eval s = v) (hown : w.ownsRow base e size v n xs)
    (A : Option Addr) (m c : Nat) (news : List Value) (hx : a.eval x = .slice A m c) (B : Nat) (hq : Sq w B size m A news) (h1 : ∀ u ∈ news, u.oneCell' = true) (h63 : n + m ≤ maxLen) (hbytes : (n + m) * bytes ≤ 140737488355328) (hbase : base ≤ w.heap.size)
    (h : ∀ A' c' w', w'.ownsRow base e size (.slice A' (n + m) c') (n + m) (xs ++ news) → w.grownBy w' v.ownBlock → ((Value.slice A' (n + m) c').ownBlock = v.ownBlock ∨ (Value.slice A' (n + m) c').ownBlock = some w.heap.size) → K (a.put o.dst (.slice A' (n + m) c')) w') :
    if Region.wanted o (yielded ops a.tmps) = true then Oper.wp P o a w K Q else E := by
  have hw : Region.wanted o (yielded ops a.tmps) = true := by simp [Region.wanted, hgd]
  rw [if_pos hw]
  obtain ⟨A', c', w', hr, h2, h3, h4⟩ := run_app (P := P) w t o.type base e i z size bytes ht hi hz hsize hby hzs hsz v n xs hown A m c news B hq h1 h63 hbytes hbase
  unfold Oper.wp execOp
  simp only [ho, resolve, invoke, builtin, Sem.run_bind, Sem.run_pure, Result.andThen_ok, List.map_toArray, List.map_cons, List.map_nil, hs, hx, hr]
  exact h A' c' w' h2 h3 h4

/-- A list of cells, not too long. -/
def cut310 (l : List Cel) : List Cel := l.take 310
def RowPost (wrap : Bool) (l : List Cel) (w : World) (e : Ending) (w' : World) : Prop := ∃ v, e = .returned (.agg #[v, .bool wrap]) ∧ HasC w' w.heap.size v (cut310 l) ∧ Below w.heap.size w w'
theorem cut310_len (l : List Cel) : (cut310 l).length ≤ 310 := by unfold cut310; rw [List.length_take]; omega
set_option maxRecDepth 100000 in
set_option maxHeartbeats 3200000 in
theorem lawRow_walk (A : Option Addr) (n c : Nat) (wrap : Bool) (l : List Cel) (w : World) (hq : Sq w w.heap.size 3 n A (flat l)) (hc : n ≤ c) (hc2 : c ≤ maxLen) :
    Calls Tryd.prog 23 #[rowV A n c wrap] w fun e w' => RowPost wrap l w e w' := by
  obtain ⟨i0, hi, hz0, hz1, hz2⟩ := info_parts infoCell
  unfold maxLen at hc2
  have hln : l.length = n := by have := hq.len; rw [flat_length] at this; omega
  obtain ⟨m, hm⟩ : ∃ m : Nat, min (n : Int) 310 = (m : Int) := ⟨min n 310, by omega⟩
  have hm1 : m ≤ n := by omega
  have hm2 : m ≤ 310 := by omega
  have hm3 : m ≤ c := by omega
  have TK := Lib.hid (show l.take m = cut310 l by
    unfold cut310
    by_cases h : n ≤ 310
    · rw [List.take_of_length_le (by omega), List.take_of_length_le (by omega)]
    · congr 1; omega)
  have q := sq_take hq hm1
  have QM := Lib.hid q
  have ML := Lib.hid (show (l.take m).length = m by rw [List.length_take]; omega)
  clear hln hq q
  go_enter Tryd.func23, Tryd.ntmps23
  have B2 := Lib.hid (((Below.refl w.heap.size w).alloc (Nat.le_refl _) (.cells #[.slice A n c, .bool wrap] 31)).alloc (by simp) (.cells #[.slice none 0 0, .bool false] 31))
  have hb0 : ((w.alloc (.cells #[.slice A n c, .bool wrap] 31)).alloc (.cells #[.slice none 0 0, .bool false] 31)).heap[w.heap.size]? = some (.cells #[.slice A n c, .bool wrap] 31 (0, 0)) := (Below.heap_alloc _ _ _ (by simp)).trans (heap_alloc_new w _)
  have hb1 : ((w.alloc (.cells #[.slice A n c, .bool wrap] 31)).alloc (.cells #[.slice none 0 0, .bool false] 31)).heap[w.heap.size + 1]? = some (.cells #[.slice none 0 0, .bool false] 31 (0, 0)) := by
    have h := heap_alloc_new (w.alloc (.cells #[.slice A n c, .bool wrap] 31)) (.cells #[.slice none 0 0, .bool false] 31)
    rw [World.size_alloc] at h
    exact h
  have H0 := Lib.hid hb0
  have H1 := Lib.hid hb1
  have HS := Lib.hid (show ((w.alloc (.cells #[.slice A n c, .bool wrap] 31)).alloc (.cells #[.slice none 0 0, .bool false] 31)).heap.size = w.heap.size + 2 by simp)
  clear hb0 hb1
  go_wp2_with fail
  go_region_law (
    refine step_app rfl _ _ 29 rfl (w.heap.size + 2) 45 i0 (.agg #[.int .i32 0, .int .i64 0, .int .i64 0]) 3 24 Tryd.underlying29 hi hz0 hz1 hz2 rfl (by decide) (.slice none 0 0) 0 [] rfl (World.ownsRow_nil _ _ _ _) A m c (flat (l.take m)) rfl w.heap.size (QM.out.below (by first | exact B2.out | exact B2.out.drew | exact B2.out.drew.drew)) (flat_one _) (by unfold maxLen; omega) (by omega) (by first | exact Nat.le_of_eq HS.out.symm | simp) ?_
    intro A' c' w3 hown hg _
    have B3 := Lib.hid ((show Below w.heap.size w w3 from ⟨hg.os.trans B2.out.os, hg.tape.trans B2.out.tape, hg.output.trans B2.out.output, Nat.le_trans B2.out.size hg.size, fun k hk => (hg.block k (by simp; omega) (by simp [Value.ownBlock])).trans (B2.out.block k hk)⟩))
    have k0 : w3.cell? ⟨w.heap.size, 1, none⟩ = some (.bool wrap) := by rw [cell_of_row _ _ _ _ _ (0, 0) ((hg.block _ (by simp; omega) (by simp [Value.ownBlock])).trans H0.out)]; rfl
    have T0 := Lib.hid (show RowAt w3 (w.heap.size + 1) (.slice none 0 0) false from (hg.block _ (by simp) (by simp [Value.ownBlock])).trans H1.out)
    have t0 : w3.cell? ⟨w.heap.size + 1, 0, none⟩ = some (.slice none 0 0) := T0.out.get 0
    have t1 : w3.cell? ⟨w.heap.size + 1, 1, none⟩ = some (.bool false) := T0.out.get 1
    have f0 := T0.out.free 0
    have f1 := T0.out.free 1
    have OW := Lib.hid (show HasC w3 (w.heap.size + 2) (.slice A' (0 + m) c') (l.take m) by unfold HasC; rw [ML.out]; simpa using hown)
    rw [Nat.zero_add] at OW
    rw [Nat.zero_add]
    clear hown hg)
  all_goals
    have RF := RowAt.put2 T0.out (.slice A' m c') wrap
    have BF := (B3.out.setCell (p := ⟨w.heap.size + 1, 0, none⟩) (Nat.le_succ _) (.slice A' m c')).setCell (p := ⟨w.heap.size + 1, 1, none⟩) (Nat.le_succ _) (.bool wrap)
    have OF := HasC.keep (w' := (w3.setCell ⟨w.heap.size + 1, 0, none⟩ (.slice A' m c')).setCell ⟨w.heap.size + 1, 1, none⟩ (.bool wrap)) OW.out (fun j e => by
      have h := (HasC.lt OW.out j e).1
      rw [Below.heap_setCell _ _ _ _ (by show j ≠ w.heap.size + 1; omega), Below.heap_setCell _ _ _ _ (by show j ≠ w.heap.size + 1; omega)])
    go_wp2
    generalize (w3.setCell ⟨w.heap.size + 1, 0, none⟩ (.slice A' m c')).setCell ⟨w.heap.size + 1, 1, none⟩ (.bool wrap) = wz at RF BF OF ⊢
    have e0 := RF.get 0
    have e1 := RF.get 1
    exact bodyPost_ret (v := .agg #[.slice A' m c', .bool wrap]) (by simp [results, Tryd.results23, go_sem, e0, e1]) rfl ⟨.slice A' m c', rfl, by rw [← TK.out]; exact HasC.mono OF (by omega), BF⟩
end Go.Proofs.YtalhlgiklochdaaDoor
