/-
  store.copied: copies of the pages, one behind the other.
-/
import Derived.Test.YtalhlgiklochdaaDoorStoreA
import Derived.Test.YtalhlgiklochdaaDoorPage
namespace Go.Proofs.YtalhlgiklochdaaDoor
open Go.ChangeShapes Go.WideShapes Go.ChangeAt Go.RowKit
theorem infoPage : (Tryd.prog.info? 90).map (fun i => (i.zero, i.size, i.bytes)) = some (some (.agg (Array.replicate 16 (.slice none 0 0) ++ #[.int .i64 0])), 17, 392) := by kernel_rfl
def flatP (ps : List Pg) : List Value := ps.flatMap fun p => pageCells p.vs
theorem flatP_next {ps : List Pg} {k : Nat} {p : Pg} (h : ps[k]? = some p) : flatP (ps.take (k + 1)) = flatP (ps.take k) ++ pageCells p.vs := by
  obtain ⟨h1, h2⟩ := List.getElem?_eq_some_iff.1 h
  unfold flatP
  rw [List.take_succ_eq_append_getElem h1, h2]
  simp
def CopyPost (ps : List Pg) (w : World) (e : Ending) (w' : World) : Prop := ∃ u, e = .returned u ∧ w'.ownsRow w.heap.size 90 17 u ps.length (flatP ps) ∧ Below w.heap.size w w'
theorem list17 : ∀ (l : List Value), l.length = 17 → ∃ x0 x1 x2 x3 x4 x5 x6 x7 x8 x9 x10 x11 x12 x13 x14 x15 x16, l = [x0, x1, x2, x3, x4, x5, x6, x7, x8, x9, x10, x11, x12, x13, x14, x15, x16]
  | [x0, x1, x2, x3, x4, x5, x6, x7, x8, x9, x10, x11, x12, x13, x14, x15, x16], _ => ⟨x0, x1, x2, x3, x4, x5, x6, x7, x8, x9, x10, x11, x12, x13, x14, x15, x16, rfl⟩
set_option maxRecDepth 100000 in
theorem run_loadPage {w : World} {g : Nat} {x0 x1 x2 x3 x4 x5 x6 x7 x8 x9 x10 x11 x12 x13 x14 x15 x16 : Value} (h : ∀ j, w.cell? ⟨g, j, none⟩ = [x0, x1, x2, x3, x4, x5, x6, x7, x8, x9, x10, x11, x12, x13, x14, x15, x16][j]?) : (Instr.loadAt 90 (ptr g)).run Tryd.prog w = .ok (.agg #[x0, x1, x2, x3, x4, x5, x6, x7, x8, x9, x10, x11, x12, x13, x14, x15, x16]) w := by
  have ha : (isAgg 90).run Tryd.prog w = .ok true w := by kernel_rfl
  have hl := run_loadCells_list (P := Tryd.prog) w ⟨g, 0, none⟩ [x0, x1, x2, x3, x4, x5, x6, x7, x8, x9, x10, x11, x12, x13, x14, x15, x16] (fun j v hv => by rw [add_spot, Nat.zero_add, h j]; exact hv)
  simp only [List.length_cons, List.length_nil, Nat.zero_add, Nat.reduceAdd] at hl
  simp [Instr.loadAt, Instr.sureAddr, loadVar, ha, hl]
theorem wpl_load {P : Program} {w : World} {ops : Array Oper} {rest : List Oper} {o : Oper} {a : Act} {Q : Exit → Act → World → Prop} (hgd : o.guard = none) (x : Operand) (t : TypeId) (ho : o.op = .load t x) (v xv : Value) (hx : a.eval x = xv) (hr : (Instr.loadAt t xv).run P w = .ok v w)
    (h : wpList P ops Q rest (a.put o.dst v) w) : wpList P ops Q (o :: rest) a w := by
  refine wpList_plain hgd fun K hK => ?_
  unfold Oper.wp
  simp [execOp, ho, hx, hr, Result.andThen]
  exact hK _ _ h
set_option maxRecDepth 100000 in
set_option maxHeartbeats 6400000 in
theorem copied_walk {base g : Nat} {v : Value} {ps : List Pg} {lim many bytes gone : Int} {w : World} (h : StR w base g v ps lim many bytes gone) (hn : ps.length ≤ 1000001) :
    Calls Tryd.prog 68 #[ptr g] w fun e w' => CopyPost ps w e w' := by
  obtain ⟨i0, hi, hz0, hz1, hz2⟩ := info_parts infoPage
  obtain ⟨A, c, rfl, hc⟩ := h.sl.shape
  have H := Lib.hid h
  have gl := h.lt
  obtain ⟨n, hnn⟩ : ∃ n, ps.length = n := ⟨_, rfl⟩
  rw [hnn] at hn hc h
  have c0 : w.cell? ⟨g, 0, none⟩ = some (.slice A n c) := h.get 0
  have NN := Lib.hid hnn
  clear h hnn
  go_enter Tryd.func68, Tryd.ntmps68
  go_wp2_with (first
    | (refine wpList_make_own w rfl (.const (.int .i64 0)) (.tmp 12) 99 rfl w.heap.size 90 i0 _ 17 Tryd.underlying99 hi hz0 hz1 .i64 .i64 (n : Int) n rfl rfl rfl (by rw [hz2]; omega) (by unfold maxLen; omega) (Nat.le_refl _) ?_; intro w1 hown hg1; (have B1 := Lib.hid ((Below.refl w.heap.size w).grown hg1 (Nat.le_refl _) (fun k e => by cases e))); (have O1 := Lib.hid hown); (have c1 : w1.cell? ⟨g, 0, none⟩ = some (.slice A n c) := (B1.out.cell (p := ⟨g, 0, none⟩) gl).trans c0); clear hown hg1))
  go_loopw [3, 5, 19] (fun u _ i wr => ∃ k : Nat, i = .int .i64 k ∧ k ≤ n ∧ Hid (wr.ownsRow w.heap.size 90 17 u k (flatP (ps.take k))) ∧ Hid (Below w.heap.size w wr)) (fun _ _ i _ => n - (intOf i).toNat)
  case atStart => exact ⟨0, rfl, Nat.zero_le _, O1, B1⟩
  case round =>
    obtain ⟨k, rfl, hk, O, B⟩ := hrel
    clear O1 B1 c1
    by_cases hlt : k < n
    · obtain ⟨p, hp⟩ : ∃ p, ps[k]? = some p := ⟨_, List.getElem?_eq_getElem (by rw [NN.out]; exact hlt)⟩
      have HW := H.out.below B.out
      obtain ⟨b, off, cap, e', _, _, _, hcc, _⟩ := HW.pageCell hp
      injection e' with e1 e3 e4
      subst e1
      clear e3 e4
      have hpg := HW.page p (List.mem_of_getElem? hp)
      have h17 := pageCells_len (vs := p.vs) (by rw [hpg.many]; exact hpg.few)
      obtain ⟨x0, x1, x2, x3, x4, x5, x6, x7, x8, x9, x10, x11, x12, x13, x14, x15, x16, hx⟩ := list17 _ h17
      have LD := Lib.hid (run_loadPage (w := wr) (g := p.g) (fun j => by rw [hpg.get j, hx]))
      have NX := Lib.hid (show flatP (ps.take (k + 1)) = flatP (ps.take k) ++ [x0, x1, x2, x3, x4, x5, x6, x7, x8, x9, x10, x11, x12, x13, x14, x15, x16] by rw [flatP_next hp, hx])
      have ON := Lib.hid (show ∀ u ∈ [x0, x1, x2, x3, x4, x5, x6, x7, x8, x9, x10, x11, x12, x13, x14, x15, x16], u.oneCell' = true by
        intro y hy
        rw [← hx] at hy
        unfold pageCells at hy
        rcases List.mem_append.1 hy with hy | hy
        · obtain ⟨j, hj⟩ := List.mem_iff_getElem?.1 hy
          obtain ⟨A, c, e⟩ := (hpg.row j y (p.rows[j]'(by have := (List.getElem?_eq_some_iff.1 hj).1; rw [hpg.many] at this; exact this)) hj (List.getElem?_eq_getElem _)).1.shape
          rw [e]
          rfl
        · rcases List.mem_append.1 hy with hy | hy
          · rw [(List.mem_replicate.1 hy).2]; rfl
          · rw [List.mem_singleton.1 hy]; rfl)
      clear HW hpg h17 hx hp
      have hsz := B.out.size
      have SQ := Lib.hid (show Sq (wr.alloc (.cells #[x0, x1, x2, x3, x4, x5, x6, x7, x8, x9, x10, x11, x12, x13, x14, x15, x16] 90)) (wr.heap.size + 1) 17 1 (some ⟨wr.heap.size, 0, none⟩) [x0, x1, x2, x3, x4, x5, x6, x7, x8, x9, x10, x11, x12, x13, x14, x15, x16] from
        ⟨rfl, fun _ => ⟨wr.heap.size, 0, rfl, Nat.lt_succ_self _, fun j u hu => (cell_of_row _ _ _ _ _ (0, 0) (heap_alloc_new wr _)).trans (by rw [Nat.zero_add, List.getElem?_toArray]; exact hu)⟩⟩)
      go_wp2_with (first
        | (refine wpl_load rfl (.tmp 25) 90 rfl _ (ptr p.g) rfl LD.out ?_)
        | (at_builtin; refine wpl_app rfl (.tmp 23) (.tmp 27) 99 rfl w.heap.size 90 i0 _ 17 392 Tryd.underlying99 hi hz0 hz1 hz2 rfl (by decide) _ k (flatP (ps.take k)) rfl (World.ownsRow.alloc O.out _) (some ⟨wr.heap.size, 0, none⟩) 1 1 [x0, x1, x2, x3, x4, x5, x6, x7, x8, x9, x10, x11, x12, x13, x14, x15, x16] rfl (wr.heap.size + 1) SQ.out ON.out (by unfold maxLen; omega) (by omega) (by simp; omega) ?_; intro v4 w4 h4 g4 o4; (have O4 := Lib.hid h4); (have B4 := Lib.hid ((B.out.alloc hsz _).grown g4 (by simp; omega) (fun j e => (World.ownsRow.lt O.out j e).1))); clear h4 g4 o4))
      rw [← NX.out] at O4
      clear O B SQ ON LD NX
      go_roundw
      case rel => exact ⟨k + 1, by go_num, by omega, O4, B4⟩
      case measure => simp [intOf]; omega
    · obtain rfl : k = n := by omega
      have OF := Lib.hid (show wr.ownsRow w.heap.size 90 17 u3 k (flatP ps) by have h := O.out; rw [List.take_of_length_le (by rw [NN.out]; exact Nat.le_refl _)] at h; exact h)
      clear O
      go_wp2
      go_ret
      exact ⟨_, rfl, by rw [NN.out]; exact OF.out, B.out⟩
set_option maxRecDepth 100000 in
theorem copied_nil (w : World) : Calls Tryd.prog 68 #[.pointer none] w fun e w' => CopyPost [] w e w' := by
  go_enter Tryd.func68, Tryd.ntmps68
  go_wp2
  go_ret
  exact ⟨_, rfl, World.ownsRow_nil _ _ _ _, Below.refl _ _⟩
/-- What All answers: a function that has the copies in its box. -/
def SAllPost (ps : List Pg) (w : World) (e : Ending) (w' : World) : Prop :=
  ∃ B u, e = .returned (.func (.func 69) #[] #[.pointer (some ⟨B, 0, none⟩)]) ∧ w.heap.size ≤ B ∧ w'.heap[B]? = some (.cells #[u] 99 (0, 0)) ∧ w'.ownsRow w.heap.size 90 17 u ps.length (flatP ps) ∧ Below w.heap.size w w'
theorem SAllPost.make {ps : List Pg} {w w2 : World} {u : Value} (ho : w2.ownsRow w.heap.size 90 17 u ps.length (flatP ps)) (hb : Below w.heap.size w w2) :
    SAllPost ps w (.returned (.func (.func 69) #[] #[.pointer (some ⟨w2.heap.size, 0, none⟩)])) (w2.alloc (.cells #[u] 99)) :=
  ⟨w2.heap.size, u, rfl, hb.size, heap_alloc_new w2 _, World.ownsRow.alloc ho _, hb.alloc hb.size _⟩
set_option maxRecDepth 100000 in
set_option maxHeartbeats 1600000 in
theorem all_walk' {base g : Nat} {v : Value} {ps : List Pg} {lim many bytes gone : Int} {w : World} (h : StR w base g v ps lim many bytes gone) (hn : ps.length ≤ 1000001) :
    Calls Tryd.prog 48 #[ptr g] w fun e w' => SAllPost ps w e w' := by
  have CW := Lib.hid (copied_walk h hn)
  clear h
  go_enter Tryd.func48, Tryd.ntmps48
  go_wp2_with fail
  refine CW.out.mono ?_
  rintro e w2 ⟨u, rfl, ho, hb⟩
  have D := Lib.hid (SAllPost.make ho hb)
  have us : u.oneCell' = true ∧ ∃ A n c, u = .slice A n c := by
    rcases ho.2 with ⟨rfl, _⟩ | ⟨_, _, _, rfl, _⟩
    · exact ⟨rfl, _, _, _, rfl⟩
    · exact ⟨rfl, _, _, _, rfl⟩
  obtain ⟨_, A, n, c, rfl⟩ := us
  clear ho hb CW
  go_wp2
  go_ret
  exact D.out
set_option maxRecDepth 100000 in
set_option maxHeartbeats 1600000 in
theorem all_nil (w : World) : Calls Tryd.prog 48 #[.pointer none] w fun e w' => SAllPost [] w e w' := by
  have CW := Lib.hid (copied_nil w)
  go_enter Tryd.func48, Tryd.ntmps48
  go_wp2_with fail
  refine CW.out.mono ?_
  rintro e w2 ⟨u, rfl, ho, hb⟩
  have D := Lib.hid (SAllPost.make ho hb)
  have us : u.oneCell' = true ∧ ∃ A n c, u = .slice A n c := by
    rcases ho.2 with ⟨rfl, _⟩ | ⟨_, _, _, rfl, _⟩
    · exact ⟨rfl, _, _, _, rfl⟩
    · exact ⟨rfl, _, _, _, rfl⟩
  obtain ⟨_, A, n, c, rfl⟩ := us
  clear ho hb CW
  go_wp2
  go_ret
  exact D.out
end Go.Proofs.YtalhlgiklochdaaDoor
