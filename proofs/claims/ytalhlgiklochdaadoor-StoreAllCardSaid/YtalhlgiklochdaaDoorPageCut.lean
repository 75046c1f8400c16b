/-
  page.Cut: the first rows go.
-/
import Derived.Test.YtalhlgiklochdaaDoorPageAdd
import Derived.Deep.RegionLaw
import Derived.Laws.CopyOwn
import Derived.Lib.SliceRun
namespace Go.Proofs.YtalhlgiklochdaaDoor
open Go.ChangeShapes Go.WideShapes Go.ChangeAt Go.RowKit
/-- One block alone has turned. -/
structure OnlyRow (g : Nat) (w w' : World) : Prop where
  os : w'.os = w.os
  tape : w'.tape = w.tape
  output : w'.output = w.output
  size : w'.heap.size = w.heap.size
  block : ∀ k, k ≠ g → w'.heap[k]? = w.heap[k]?
theorem OnlyRow.refl (g : Nat) (w : World) : OnlyRow g w w := ⟨rfl, rfl, rfl, rfl, fun _ _ => rfl⟩
theorem OnlyRow.trans {g : Nat} {w w' w2 : World} (h : OnlyRow g w w') (h2 : OnlyRow g w' w2) : OnlyRow g w w2 :=
  ⟨h2.os.trans h.os, h2.tape.trans h.tape, h2.output.trans h.output, h2.size.trans h.size, fun k hk => (h2.block k hk).trans (h.block k hk)⟩
theorem OnlyRow.row (g : Nat) (w : World) (cs : Array Value) : OnlyRow g w (w.setRow g cs) := ⟨rfl, rfl, rfl, by simp [World.setRow], fun k hk => setRow_other w g k cs hk⟩
theorem OnlyRow.ofDrew {g : Nat} {w w' : World} (h : OnlyRow g w.drew w') : OnlyRow g w w' := ⟨h.os, h.tape, h.output, h.size, h.block⟩
theorem OnlyRow.cell (g j : Nat) (w : World) (v : Value) : OnlyRow g w (w.setCell ⟨g, j, none⟩ v) := ⟨rfl, rfl, rfl, by simp, fun k hk => Below.heap_setCell _ _ _ _ hk⟩
/-- The page whose front rows went. -/
theorem PageAt.cut {w w' : World} {base g : Nat} {vs : List Value} {rows : List PRow} (h : PageAt w base g vs rows) (ho : OnlyRow g w w') (k : Nat) (hg : w'.heap[g]? = some (.cells (pageCells (vs.drop k)).toArray 90 (0, 0))) : PageAt w' base g (vs.drop k) (rows.drop k) := by
  refine ⟨hg, h.from', by rw [List.length_drop, List.length_drop, h.many], by rw [List.length_drop]; have := h.few; omega, fun i u r hu hr => ?_, fun r hr => h.may r (List.mem_of_mem_drop hr)⟩
  rw [List.getElem?_drop] at hu hr
  obtain ⟨hb, hne⟩ := h.row (k + i) u r hu hr
  refine ⟨⟨hb.1, ?_⟩, hne⟩
  rcases hb.2 with e | ⟨b, cap, cur, rfl, e2, e3, rr⟩
  · exact .inl e
  · refine .inr ⟨b, cap, cur, rfl, e2, ?_, rr⟩
    rw [ho.block b (fun e => hne (by rw [e]; rfl))]
    exact e3
/-- copy within blocks, as one step of a region that draws its order. -/
theorem step_copy_only {P : Program} {ops : Array Oper} {o : Oper} {a : Act} {w : World} {K : Act → World → Prop} {Q : Exit → Act → World → Prop} {E : Prop} (hgd : o.guard = none) (d s : Operand) (dT sT : TypeId)
    (ho : o.op = .call { callee := .builtin .copy, args := #[d, s], argTypes := #[dT, sT] }) (elem : TypeId) (hu : P.underlying dT = some (.slice elem)) (hsz : (P.info? elem).map (·.size) = some 1)
    (ad : Addr) (dLen dCap sLen sCap : Nat) (g off : Nat) (hd : a.eval d = .slice (some ⟨g, off, none⟩) dLen dCap) (hs : a.eval s = .slice (some ad) sLen sCap)
    (cur : List Value) (t : TypeId) (hg : w.heap[g]? = some (.cells cur.toArray t (0, 0))) (cs : List Value) (q : Nat) (hq : cs.length = q) (hn : q = Nat.min sLen dLen)
    (hsrc : ∀ j v, cs[j]? = some v → w.cell? (ad.add j) = some v) (hfit : off + cs.length ≤ cur.length) (h1 : ∀ v ∈ cs, v.oneCell' = true)
    (h : ∀ w', Hid (w'.heap[g]? = some (.cells (splice cur off cs).toArray t (0, 0))) → Hid (OnlyRow g w w') → K (a.put o.dst (.int .i64 (q : Int))) w') :
    if Region.wanted o (yielded ops a.tmps) = true then Oper.wp P o a w K Q else E := by
  have hw : Region.wanted o (yielded ops a.tmps) = true := by simp [Region.wanted, hgd]
  rw [if_pos hw]
  have hrun := run_copy_row (P := P) w dT sT o.type elem g off dLen dCap ad sLen sCap cur.toArray t cs hu hsz hg (hq.trans hn) hsrc (by simpa using hfit) h1
  unfold Oper.wp
  simp [execOp, ho, resolve, invoke, builtin, hd, hs, hrun, Result.andThen]
  subst hq
  exact h _ (show _ = _ by simpa [splice] using setRow_heap w g _ _ t _ hg) (OnlyRow.row g w _)
/-- clear of a part of a block. -/
theorem step_clear_only {P : Program} {ops : Array Oper} {o : Oper} {a : Act} {w : World} {K : Act → World → Prop} {Q : Exit → Act → World → Prop} {E : Prop} (hgd : o.guard = none) (d : Operand) (dT : TypeId)
    (ho : o.op = .call { callee := .builtin .clear, args := #[d], argTypes := #[dT] }) (elem : TypeId) (hu : P.underlying dT = some (.slice elem)) (z : Value) (hv : ∀ w, (zeroValue elem).run P w = .ok z w) (hz : z.cells = #[z]) (h1 : z.oneCell' = true)
    (n c : Nat) (g off : Nat) (hd : a.eval d = .slice (some ⟨g, off, none⟩) n c)
    (cur : List Value) (t : TypeId) (hg : w.heap[g]? = some (.cells cur.toArray t (0, 0))) (hfit : off + n ≤ cur.length)
    (h : ∀ w', Hid (w'.heap[g]? = some (.cells (splice cur off (List.replicate n z)).toArray t (0, 0))) → Hid (OnlyRow g w w') → K (a.put o.dst (.tuple #[])) w') :
    if Region.wanted o (yielded ops a.tmps) = true then Oper.wp P o a w K Q else E := by
  have hw : Region.wanted o (yielded ops a.tmps) = true := by simp [Region.wanted, hgd]
  rw [if_pos hw]
  cases n with
  | zero =>
    have hrun : (Builtin.clear_ #[dT] o.type #[.slice (some ⟨g, off, none⟩) 0 c]).run P w = .ok (.tuple #[]) w := by simp [Builtin.clear_, run_underlying hu]
    unfold Oper.wp
    simp [execOp, ho, resolve, invoke, builtin, hd, hrun, Result.andThen]
    exact h _ (show _ = _ by simpa [splice] using hg) (OnlyRow.refl g w)
  | succ m =>
    have hzc : (Builtin.zeroCells z.cells (m + 1)).toList = List.replicate (m + 1) z := by
      rw [hz]
      simp [Builtin.zeroCells]
      apply List.ext_getElem
      · simp
      · intro i h1 h2
        simp [Nat.mod_one]
    have hst := run_storeCells_at P g off t (List.replicate (m + 1) z) 0 cur.toArray w hg (by simpa using hfit) (by intro v hv'; rw [List.eq_of_mem_replicate hv']; exact h1)
    simp only [Nat.add_zero] at hst
    have hrun : (Builtin.clear_ #[dT] o.type #[.slice (some ⟨g, off, none⟩) (m + 1) c]).run P w = .ok (.tuple #[]) (w.setRow g (cur.toArray.toList.take off ++ List.replicate (m + 1) z ++ cur.toArray.toList.drop (off + (List.replicate (m + 1) z).length)).toArray) := by
      simp [Builtin.clear_, run_underlying hu, hv, hzc, hst]
    unfold Oper.wp
    simp [execOp, ho, resolve, invoke, builtin, hd, hrun, Result.andThen]
    exact h _ (show _ = _ by simpa [splice] using setRow_heap w g _ _ t _ hg) (OnlyRow.row g w _)
theorem pageCells_cut (vs : List Value) (k q : Nat) (h : vs.length = q + k) (h16 : q + k ≤ 16) :
    ((splice (splice (pageCells vs) 0 (vs.drop k)) q (List.replicate k (.slice none 0 0))).set 16 (.int .i64 (q : Int))) = pageCells (vs.drop k) := by
  have hl : (vs.drop k).length = q := by rw [List.length_drop]; omega
  have e1 : splice (pageCells vs) 0 (vs.drop k) = vs.drop k ++ (pageCells vs).drop q := by simp [splice, hl]
  have e2 : (vs.drop k ++ (pageCells vs).drop q).take q = vs.drop k := by rw [← hl]; exact List.take_left
  have e3 : (vs.drop k ++ (pageCells vs).drop q).drop (q + k) = List.replicate (16 - (q + k)) (.slice none 0 0) ++ [.int .i64 ((q + k : Nat) : Int)] := by
    rw [List.drop_append, hl, List.drop_of_length_le (by omega), List.nil_append, List.drop_drop, show q + (q + k - q) = vs.length by omega]
    unfold pageCells
    rw [List.drop_left, h]
  rw [e1]
  unfold splice
  rw [e2, List.length_replicate, e3]
  unfold pageCells
  rw [hl, ← List.append_assoc (List.replicate k _), List.replicate_append_replicate, show k + (16 - (q + k)) = 16 - q by omega, List.set_append_right _ _ (by omega), hl, List.set_append_right _ _ (by simp), List.length_replicate, Nat.sub_self]
  rfl
set_option maxRecDepth 100000 in
set_option maxHeartbeats 3200000 in
theorem pageCut_main (base g : Nat) (vs : List Value) (rows : List PRow) (k : Nat) (w : World) (h : PageAt w base g vs rows) (hk : k ≤ rows.length) (hk16 : ¬ 16 = k) (hq16 : ¬ (k = 0 ∧ rows.length = 16)) :
    Calls Tryd.prog 35 #[.pointer (some ⟨g, 0, none⟩), .int .i64 (k : Int)] w fun e w' => e = .returned (.bool true) ∧ PageAt w' base g (vs.drop k) (rows.drop k) ∧ OnlyRow g w w' := by
  obtain ⟨q, hq⟩ : ∃ q, rows.length = q + k := ⟨rows.length - k, by omega⟩
  have h16 : q + k ≤ 16 := by have := h.few; omega
  have hl : vs.length = q + k := by rw [h.many, hq]
  have h1 := PageAt.below h (Below.refl w.heap.size w).drew
  have m1 : w.cell? ⟨g, 16, none⟩ = some (.int .i64 ((q : Int) + (k : Int))) := by rw [h.get, pageCells_many _ (by omega), hl]; rfl
  have m2 : w.drew.cell? ⟨g, 16, none⟩ = some (.int .i64 ((q : Int) + (k : Int))) := m1
  have d0 : ¬ ((k : Int) < 0) := by omega
  have d1 : ¬ ((q : Int) + (k : Int) < (k : Int)) := by omega
  have d2 : (k : Int) ≤ (q : Int) + (k : Int) := by omega
  have d3 : (q : Int) + (k : Int) ≤ 16 := by omega
  have n1 : ((q : Int) + (k : Int)).toNat = q + k := by omega
  have HG := Lib.hid h1.cells
  have HS := Lib.hid (show ∀ j v, (vs.drop k)[j]? = some v → w.drew.cell? ((⟨g, k, none⟩ : Addr).add j) = some v from fun j v hj => by
    have hj2 := (List.getElem?_eq_some_iff.1 hj).1
    rw [List.length_drop] at hj2
    rw [List.getElem?_drop] at hj
    have e : (⟨g, k, none⟩ : Addr).add j = ⟨g, k + j, none⟩ := by
      unfold Addr.add
      split
      · subst j; rfl
      · rfl
    rw [e]
    exact (h1.get (k + j)).trans (pageCells_row vs hj))
  have HO := Lib.hid (show ∀ v ∈ vs.drop k, v.oneCell' = true from fun v hv => by
    obtain ⟨i, hi⟩ := List.mem_iff_getElem?.1 (List.mem_of_mem_drop hv)
    obtain ⟨A, c, e⟩ := (h.row i v (rows[i]'(by have := (List.getElem?_eq_some_iff.1 hi).1; rw [h.many] at this; exact this)) hi (List.getElem?_eq_getElem _)).1.shape
    rw [e]
    rfl)
  have H := Lib.hid h
  have LQ := Lib.hid (show (vs.drop k).length = q by rw [List.length_drop]; omega)
  have LP := Lib.hid (pageCells_len (vs := vs) (by omega))
  have HV := Lib.hid hl
  have HR := Lib.hid hq
  have q16 : ¬ 16 = q := by omega
  clear h h1 hl hq hk hq16
  go_enter Tryd.func35, Tryd.ntmps35
  go_wp2_with fail
  go_region_law (refine step_copy_only rfl (.tmp 23) (.tmp 32) 92 92 rfl 23 rfl rfl ⟨g, k, none⟩ 16 16 q (16 - k) g 0 (by simp [Act.eval, Act.put]) (by simp [Act.eval, Act.put]) (pageCells vs) 90 HG.out (vs.drop k) q LQ.out (Nat.min_eq_left (by omega)).symm HS.out (by rw [LQ.out, LP.out]; omega) HO.out ?_; intro w2 hg2 ho2)
  have G2 := Lib.hid (show w2.drew.heap[g]? = some (.cells (splice (pageCells vs) 0 (vs.drop k)).toArray 90 (0, 0)) from hg2.out)
  have L2 := Lib.hid (show (splice (pageCells vs) 0 (vs.drop k)).length = 17 by rw [length_splice _ _ _ (by rw [LQ.out, LP.out]; omega), LP.out])
  have c16 : (splice (pageCells vs) 0 (vs.drop k))[16]? = some (.int .i64 ((q : Int) + (k : Int))) := by
    unfold splice
    rw [List.take_zero, List.nil_append, List.getElem?_append_right (by rw [LQ.out]; omega), LQ.out, List.getElem?_drop, show 0 + q + (16 - q) = 16 by omega, pageCells_many _ (by rw [HV.out]; exact h16), HV.out]
    rfl
  have m3 : w2.drew.cell? ⟨g, 16, none⟩ = some (.int .i64 ((q : Int) + (k : Int))) := by
    rw [cell_of_row _ g 16 _ _ (0, 0) G2.out]
    simpa using c16
  have d4 : ¬ ((q : Int) < 0) := by omega
  have d5 : (q : Int) ≤ (q : Int) + (k : Int) := by omega
  clear c16 hg2
  have O2 := Lib.hid ho2.out
  clear ho2
  go_wp2_with fail
  go_region_law (refine step_clear_only rfl (.tmp 42) 92 rfl 23 rfl (.slice none 0 0) (fun _ => rfl) rfl rfl k (16 - q) g q (by simp [Act.eval, Act.put]) (splice (pageCells vs) 0 (vs.drop k)) 90 G2.out (by rw [L2.out]; omega) ?_; intro w3 hg3 ho3)
  have G3 := Lib.hid (show w3.heap[g]? = some (.cells (splice (splice (pageCells vs) 0 (vs.drop k)) q (List.replicate k (.slice none 0 0))).toArray 90 (0, 0)) from hg3.out)
  have f3 : w3.frozen? ⟨g, 16, none⟩ = false := frozen_of_row w3 g 16 _ _ G3.out
  have m4 : ∃ v, w3.cell? ⟨g, 16, none⟩ = some v := by
    rw [cell_of_row _ g 16 _ _ (0, 0) G3.out]
    exact ⟨_, Array.getElem?_eq_getElem (by
      have e := length_splice (splice (pageCells vs) 0 (vs.drop k)) q (List.replicate k (.slice none 0 0)) (by rw [L2.out, List.length_replicate]; omega)
      rw [L2.out] at e
      rw [List.size_toArray, e]
      omega)⟩
  obtain ⟨v16, m4⟩ := m4
  have O3 := Lib.hid (show OnlyRow g w w3 from (OnlyRow.ofDrew O2.out).trans (OnlyRow.ofDrew ho3.out))
  clear hg3 ho3 m3
  go_wp2
  have O4 := O3.out.trans (OnlyRow.cell g 16 w3 (.int .i64 (q : Int)))
  have G4 : (w3.setCell ⟨g, 16, none⟩ (.int .i64 (q : Int))).heap[g]? = some (.cells (pageCells (vs.drop k)).toArray 90 (0, 0)) := by
    rw [heap_setCell_same w3 g 16 _ _ (.int .i64 (q : Int)) G3.out, ← pageCells_cut vs k q HV.out h16]
    congr 2
    simp
  go_ret
  exact ⟨rfl, H.out.cut O4 k G4, O4⟩
set_option maxRecDepth 100000 in
set_option maxHeartbeats 3200000 in
theorem pageCut_allSixteen (base g : Nat) (vs : List Value) (rows : List PRow) (w : World) (h : PageAt w base g vs rows) (hk : rows.length = 16) :
    Calls Tryd.prog 35 #[.pointer (some ⟨g, 0, none⟩), .int .i64 16] w fun e w' => e = .returned (.bool true) ∧ PageAt w' base g (vs.drop 16) (rows.drop 16) ∧ OnlyRow g w w' := by
  have hl : vs.length = 16 := h.many.trans hk
  have h1 := PageAt.below h (Below.refl w.heap.size w).drew
  have m1 : w.cell? ⟨g, 16, none⟩ = some (.int .i64 16) := by rw [h.get, pageCells_many _ (by omega), hl]; rfl
  have m2 : w.drew.cell? ⟨g, 16, none⟩ = some (.int .i64 16) := m1
  have HG := Lib.hid h1.cells
  have HS := Lib.hid (show ∀ j v, (vs.drop 16)[j]? = some v → w.drew.cell? ((⟨g, 0, none⟩ : Addr).add j) = some v from fun j v hj => by
    have hj2 := (List.getElem?_eq_some_iff.1 hj).1
    rw [List.length_drop] at hj2
    rw [List.getElem?_drop] at hj
    first
      | (exfalso; omega)
      | (have e : (⟨g, 0, none⟩ : Addr).add j = ⟨g, 0 + j, none⟩ := by
          unfold Addr.add
          split
          · subst j; rfl
          · rfl
         rw [e]
         exact (h1.get (0 + j)).trans (pageCells_row vs hj)))
  have HO := Lib.hid (show ∀ v ∈ vs.drop 16, v.oneCell' = true from fun v hv => by
    obtain ⟨i, hi⟩ := List.mem_iff_getElem?.1 (List.mem_of_mem_drop hv)
    obtain ⟨A, c, e⟩ := (h.row i v (rows[i]'(by have := (List.getElem?_eq_some_iff.1 hi).1; rw [h.many] at this; exact this)) hi (List.getElem?_eq_getElem _)).1.shape
    rw [e]
    rfl)
  have H := Lib.hid h
  have LQ := Lib.hid (show (vs.drop 16).length = 0 by rw [List.length_drop, hl])
  have LP := Lib.hid (pageCells_len (vs := vs) (by omega))
  have HV := Lib.hid hl
  clear h h1 hl hk
  go_enter Tryd.func35, Tryd.ntmps35
  go_wp2_with fail
  go_region_law (refine step_copy_only rfl (.tmp 23) (.tmp 32) 92 92 rfl 23 rfl rfl ⟨g, 0, none⟩ 16 16 0 0 g 0 (by simp [Act.eval, Act.put]) (by simp [Act.eval, Act.put]) (pageCells vs) 90 HG.out (vs.drop 16) 0 LQ.out rfl HS.out (by rw [LQ.out, LP.out]; omega) HO.out ?_; intro w2 hg2 ho2)
  have G2 := Lib.hid (show w2.drew.heap[g]? = some (.cells (splice (pageCells vs) 0 (vs.drop 16)).toArray 90 (0, 0)) from hg2.out)
  have L2 := Lib.hid (show (splice (pageCells vs) 0 (vs.drop 16)).length = 17 by rw [length_splice _ _ _ (by rw [LQ.out, LP.out]; omega), LP.out])
  have c16 : (splice (pageCells vs) 0 (vs.drop 16))[16]? = some (.int .i64 16) := by
    unfold splice
    rw [List.take_zero, List.nil_append, List.getElem?_append_right (by rw [LQ.out]; omega), LQ.out, List.getElem?_drop, show 0 + 0 + (16 - 0) = 16 by omega, pageCells_many _ (by rw [HV.out]; omega), HV.out]
    rfl
  have m3 : w2.drew.cell? ⟨g, 16, none⟩ = some (.int .i64 16) := by
    rw [cell_of_row _ g 16 _ _ (0, 0) G2.out]
    simpa using c16
  clear c16 hg2
  have O2 := Lib.hid ho2.out
  clear ho2
  go_wp2_with fail
  go_region_law (refine step_clear_only rfl (.tmp 42) 92 rfl 23 rfl (.slice none 0 0) (fun _ => rfl) rfl rfl 16 16 g 0 (by simp [Act.eval, Act.put]) (splice (pageCells vs) 0 (vs.drop 16)) 90 G2.out (by rw [L2.out]; omega) ?_; intro w3 hg3 ho3)
  have ES : splice (splice (pageCells vs) 0 (vs.drop 16)) 0 (List.replicate 16 (.slice none 0 0)) = splice (splice (pageCells vs) 0 (vs.drop 16)) 0 (List.replicate 16 (.slice none 0 0)) := by first | rfl | simp [splice]
  have G3 := Lib.hid (show w3.heap[g]? = some (.cells (splice (splice (pageCells vs) 0 (vs.drop 16)) 0 (List.replicate 16 (.slice none 0 0))).toArray 90 (0, 0)) by rw [← ES]; exact hg3.out)
  clear ES
  have f3 : w3.frozen? ⟨g, 16, none⟩ = false := frozen_of_row w3 g 16 _ _ G3.out
  have m4 : ∃ v, w3.cell? ⟨g, 16, none⟩ = some v := by
    rw [cell_of_row _ g 16 _ _ (0, 0) G3.out]
    exact ⟨_, Array.getElem?_eq_getElem (by
      have e := length_splice (splice (pageCells vs) 0 (vs.drop 16)) 0 (List.replicate 16 (.slice none 0 0)) (by rw [L2.out, List.length_replicate]; omega)
      rw [L2.out] at e
      rw [List.size_toArray, e]
      omega)⟩
  obtain ⟨v16, m4⟩ := m4
  have O3 := Lib.hid (show OnlyRow g w w3 from (OnlyRow.ofDrew O2.out).trans (OnlyRow.ofDrew ho3.out))
  clear hg3 ho3 m3
  go_wp2
  have O4 := O3.out.trans (OnlyRow.cell g 16 w3 (.int .i64 0))
  have G4 : (w3.setCell ⟨g, 16, none⟩ (.int .i64 0)).heap[g]? = some (.cells (pageCells (vs.drop 16)).toArray 90 (0, 0)) := by
    rw [heap_setCell_same w3 g 16 _ _ (.int .i64 0) G3.out, ← pageCells_cut vs 16 0 HV.out (by omega)]
    congr 2
    simp
  go_ret
  exact ⟨rfl, H.out.cut O4 16 G4, O4⟩
set_option maxRecDepth 100000 in
set_option maxHeartbeats 3200000 in
theorem pageCut_noneOfSixteen (base g : Nat) (vs : List Value) (rows : List PRow) (w : World) (h : PageAt w base g vs rows) (hk : rows.length = 16) :
    Calls Tryd.prog 35 #[.pointer (some ⟨g, 0, none⟩), .int .i64 0] w fun e w' => e = .returned (.bool true) ∧ PageAt w' base g (vs.drop 0) (rows.drop 0) ∧ OnlyRow g w w' := by
  have hl : vs.length = 16 := h.many.trans hk
  have h1 := PageAt.below h (Below.refl w.heap.size w).drew
  have m1 : w.cell? ⟨g, 16, none⟩ = some (.int .i64 16) := by rw [h.get, pageCells_many _ (by omega), hl]; rfl
  have m2 : w.drew.cell? ⟨g, 16, none⟩ = some (.int .i64 16) := m1
  have HG := Lib.hid h1.cells
  have HS := Lib.hid (show ∀ j v, (vs.drop 0)[j]? = some v → w.drew.cell? ((⟨g, 0, none⟩ : Addr).add j) = some v from fun j v hj => by
    have hj2 := (List.getElem?_eq_some_iff.1 hj).1
    rw [List.length_drop] at hj2
    rw [List.getElem?_drop] at hj
    first
      | (exfalso; omega)
      | (have e : (⟨g, 0, none⟩ : Addr).add j = ⟨g, 0 + j, none⟩ := by
          unfold Addr.add
          split
          · subst j; rfl
          · rfl
         rw [e]
         exact (h1.get (0 + j)).trans (pageCells_row vs hj)))
  have HO := Lib.hid (show ∀ v ∈ vs.drop 0, v.oneCell' = true from fun v hv => by
    obtain ⟨i, hi⟩ := List.mem_iff_getElem?.1 (List.mem_of_mem_drop hv)
    obtain ⟨A, c, e⟩ := (h.row i v (rows[i]'(by have := (List.getElem?_eq_some_iff.1 hi).1; rw [h.many] at this; exact this)) hi (List.getElem?_eq_getElem _)).1.shape
    rw [e]
    rfl)
  have H := Lib.hid h
  have LQ := Lib.hid (show (vs.drop 0).length = 16 by rw [List.length_drop, hl])
  have LP := Lib.hid (pageCells_len (vs := vs) (by omega))
  have HV := Lib.hid hl
  clear h h1 hl hk
  go_enter Tryd.func35, Tryd.ntmps35
  go_wp2_with fail
  go_region_law (refine step_copy_only rfl (.tmp 23) (.tmp 32) 92 92 rfl 23 rfl rfl ⟨g, 0, none⟩ 16 16 16 16 g 0 (by simp [Act.eval, Act.put]) (by simp [Act.eval, Act.put]) (pageCells vs) 90 HG.out (vs.drop 0) 16 LQ.out rfl HS.out (by rw [LQ.out, LP.out]; omega) HO.out ?_; intro w2 hg2 ho2)
  have G2 := Lib.hid (show w2.drew.heap[g]? = some (.cells (splice (pageCells vs) 0 (vs.drop 0)).toArray 90 (0, 0)) from hg2.out)
  have L2 := Lib.hid (show (splice (pageCells vs) 0 (vs.drop 0)).length = 17 by rw [length_splice _ _ _ (by rw [LQ.out, LP.out]; omega), LP.out])
  have c16 : (splice (pageCells vs) 0 (vs.drop 0))[16]? = some (.int .i64 16) := by
    unfold splice
    rw [List.take_zero, List.nil_append, List.getElem?_append_right (by rw [LQ.out]; omega), LQ.out, List.getElem?_drop, show 0 + 16 + (16 - 16) = 16 by omega, pageCells_many _ (by rw [HV.out]; omega), HV.out]
    rfl
  have m3 : w2.drew.cell? ⟨g, 16, none⟩ = some (.int .i64 16) := by
    rw [cell_of_row _ g 16 _ _ (0, 0) G2.out]
    simpa using c16
  clear c16 hg2
  have O2 := Lib.hid ho2.out
  clear ho2
  go_wp2_with fail
  go_region_law (refine step_clear_only rfl (.tmp 42) 92 rfl 23 rfl (.slice none 0 0) (fun _ => rfl) rfl rfl 0 0 g 0 (by simp [Act.eval, Act.put]) (splice (pageCells vs) 0 (vs.drop 0)) 90 G2.out (by rw [L2.out]; omega) ?_; intro w3 hg3 ho3)
  have ES : splice (splice (pageCells vs) 0 (vs.drop 0)) 0 (List.replicate 0 (.slice none 0 0)) = splice (splice (pageCells vs) 0 (vs.drop 0)) 16 (List.replicate 0 (.slice none 0 0)) := by first | rfl | simp [splice]
  have G3 := Lib.hid (show w3.heap[g]? = some (.cells (splice (splice (pageCells vs) 0 (vs.drop 0)) 16 (List.replicate 0 (.slice none 0 0))).toArray 90 (0, 0)) by rw [← ES]; exact hg3.out)
  clear ES
  have f3 : w3.frozen? ⟨g, 16, none⟩ = false := frozen_of_row w3 g 16 _ _ G3.out
  have m4 : ∃ v, w3.cell? ⟨g, 16, none⟩ = some v := by
    rw [cell_of_row _ g 16 _ _ (0, 0) G3.out]
    exact ⟨_, Array.getElem?_eq_getElem (by
      have e := length_splice (splice (pageCells vs) 0 (vs.drop 0)) 16 (List.replicate 0 (.slice none 0 0)) (by rw [L2.out, List.length_replicate]; omega)
      rw [L2.out] at e
      rw [List.size_toArray, e]
      omega)⟩
  obtain ⟨v16, m4⟩ := m4
  have O3 := Lib.hid (show OnlyRow g w w3 from (OnlyRow.ofDrew O2.out).trans (OnlyRow.ofDrew ho3.out))
  clear hg3 ho3 m3
  go_wp2
  have O4 := O3.out.trans (OnlyRow.cell g 16 w3 (.int .i64 16))
  have G4 : (w3.setCell ⟨g, 16, none⟩ (.int .i64 16)).heap[g]? = some (.cells (pageCells (vs.drop 0)).toArray 90 (0, 0)) := by
    rw [heap_setCell_same w3 g 16 _ _ (.int .i64 16) G3.out, ← pageCells_cut vs 0 16 HV.out (by omega)]
    congr 2
    simp
  go_ret
  exact ⟨rfl, H.out.cut O4 0 G4, O4⟩
theorem pageCut_walk (base g : Nat) (vs : List Value) (rows : List PRow) (k : Nat) (w : World) (h : PageAt w base g vs rows) (hk : k ≤ rows.length) :
    Calls Tryd.prog 35 #[.pointer (some ⟨g, 0, none⟩), .int .i64 (k : Int)] w fun e w' => e = .returned (.bool true) ∧ PageAt w' base g (vs.drop k) (rows.drop k) ∧ OnlyRow g w w' := by
  by_cases h1 : k = 16
  · subst h1
    exact pageCut_allSixteen base g vs rows w h (by have := h.few; omega)
  · by_cases h2 : k = 0 ∧ rows.length = 16
    · obtain ⟨rfl, e⟩ := h2
      exact pageCut_noneOfSixteen base g vs rows w h e
    · exact pageCut_main base g vs rows k w h hk (fun e => h1 e.symm) h2
end Go.Proofs.YtalhlgiklochdaaDoor
