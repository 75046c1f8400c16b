/-
  The statement StoreEnds: who goes through a store's rows may stop anywhere, and begin anew. For every list of rows (of which the statement looks at the first forty, and of each at the first 310 cells) and every place; it holds where the table of widths is as its initialiser lays it, which the card ties to the program's text.
-/
import Derived.Test.YtikdlikdknfcfaaDoorBegun
import Derived.Test.YtikdlikdknfcfaaDoorBegun4
import Derived.Test.YtikdlikdknfcfaaDoorRowsAt
import Derived.Test.YtikdlikdknfcfaaDoorStoreIter
namespace Go.Proofs.YtikdlikdknfcfaaDoor.storeEnds
open Go.ChangeShapes Go.WideShapes Go.ChangeAt Go.RowKit
attribute [local go_sem] Oper.semAt_some

/-- What abides while rows are told: the store, and the place at which to stop. -/
structure EndS (w0 : World) (g3 gs : Nat) (y : Int) (v : Value) (ps : List Pg) (W : World) : Prop where
  old : Below w0.heap.size w0 W
  at_ : Boxed W g3 3 (.int .i64 y)
  st : StoreAt W gs gs v ps 100 0
namespace EndS
variable {w0 W W' : World} {g3 gs : Nat} {y y' : Int} {v : Value} {ps : List Pg}
theorem turned {M : Nat → Prop} (h : EndS w0 g3 gs y v ps W) (ht : Turned M W W') (h0 : ∀ j, M j → w0.heap.size ≤ j) (h1 : ∀ j, M j → ∀ e, e ≠ 3 → ¬ Typed W e j) (hb : Boxed W' g3 3 (.int .i64 y')) : EndS w0 g3 gs y' v ps W' := by
  refine ⟨h.old.trans (ht.toBelow h.old.size fun k hk m => by have := h0 k m; omega), hb, h.st.turned ht (fun k hk m => ?_) (fun j m => h1 j m _ (by decide))⟩
  rcases hk with hk | hk | ⟨q, hq, hk⟩
  · rw [hk] at m; exact h1 _ m _ (by decide) h.st.raw.typed
  · exact h1 _ m _ (by decide) (h.st.raw.slTyped k hk)
  · rw [← hk] at m; exact h1 _ m _ (by decide) (h.st.raw.page q hq).typed
theorem laid (h : EndS w0 g3 gs y v ps W) (hb : Laid W W') : EndS w0 g3 gs y v ps W' :=
  h.turned (M := fun _ => False) (Turned.ofBelow hb _) (fun _ h => h.elim) (fun _ h => h.elim) ((hb.block _ h.at_.lt).trans h.at_)
theorem put (h : EndS w0 g3 gs y v ps W) {l : Nat} {o o' : Obj} (hl : w0.heap.size ≤ l) (ho : W.heap[l]? = some o) (hc : o.isCells = false) : EndS w0 g3 gs y v ps (W.putObj l o') :=
  h.turned (Turned.put W l o') (fun j e => by rw [e]; exact hl) (fun j e t _ => by subst e; exact Typed.noncells ho hc t) ((World.putObj_heap_other (fun e => by
    have hb : W.heap[g3]? = _ := h.at_
    rw [e, ho] at hb
    injection hb with hb
    subst hb
    cases hc)).trans h.at_)
end EndS
theorem boxed_put {W : World} {g : Nat} {e : TypeId} {x : Value} (h : Boxed W g e x) {l : Nat} {o o' : Obj} (ho : W.heap[l]? = some o) (hc : o.isCells = false) : Boxed (W.putObj l o') g e x :=
  (World.putObj_heap_other (fun e' => by
    have hb : W.heap[g]? = _ := h
    rw [e', ho] at hb
    injection hb with hb
    subst hb
    cases hc)).trans h
theorem int_only {W : World} {g : Nat} {x : Value} (h : Boxed W g 3 x) : ∀ j, j = g → ∀ e, e ≠ 3 → ¬ Typed W e j := fun j hj e he ht => by
  subst hj
  exact (show Typed W 3 j from ⟨_, _, h⟩).apart ht (fun x => he x.symm) rfl
/-- How many rows of a list may be. -/
def mayN (l : List RowIn) : Nat := (l.filter fun r => mayL (cut310 r.l)).length
theorem mayN_le (l : List RowIn) : mayN l ≤ l.length := List.length_filter_le ..
theorem mayN_next {l : List RowIn} {k : Nat} {r : RowIn} (h : l[k]? = some r) : mayN (l.take (k + 1)) = mayN (l.take k) + if mayL (cut310 r.l) then 1 else 0 := by
  obtain ⟨h1, h2⟩ := List.getElem?_eq_some_iff.1 h
  unfold mayN
  rw [List.take_succ_eq_append_getElem h1, h2, List.filter_append, List.length_append]
  by_cases hm : mayL (cut310 r.l) = true <;> simp [hm]

set_option maxRecDepth 100000 in
theorem seq_is_not_nil (lb : Array Value) (w : World) : (binOp .neq 65 (.func (.func 69) #[] lb) .nilFunc).run Tryd.prog w = .ok (.bool true) w := by first | rfl | kernel_rfl
theorem tmod_range (x : Int) (m : Int) (hm : 0 < m) : -m < x.tmod m ∧ x.tmod m < m := by
  have h1 := Int.tmod_lt_of_pos x hm
  have h2 := Int.tmod_lt_of_pos (-x) hm
  rw [Int.neg_tmod] at h2
  omega
set_option maxRecDepth 100000 in
set_option maxHeartbeats 6400000 in
theorem walk (A : Option Addr) (n c : Nat) (l : List RowIn) (_ : n ≤ c) (_ : c ≤ maxLen) (y : Int) (_ : -9223372036854775808 ≤ y ∧ y ≤ 9223372036854775807) (w : World) (hs : Spans w) (hr : ∀ r ∈ l, r.Ok w w.heap.size) (hq : Sq w w.heap.size 2 n A (l.flatMap RowIn.vals)) :
    Calls Tryd.prog 9 #[.slice A n c, .int .i64 y] w fun e w' => e = .returned (.bool true) ∧ Below w.heap.size w w' := by
  have S := Lib.hid hs
  have Q := Lib.hid hq
  have RS := Lib.hid hr
  have hln : l.length = n := by have := hq.len; rw [flatMap_len RowIn.vals 2 (fun _ => rfl)] at this; omega
  have LN := Lib.hid hln
  obtain ⟨g3, hg3⟩ : ∃ g3, w.heap.size = g3 := ⟨_, rfl⟩
  have G3 := Lib.hid hg3
  clear hs hq hr hln
  refine (callsIn_wide (n := 3)).1 (callsIn_of_wp_marks Tryd.func9 rfl trivial ?_ rfl)
  simp only [Tryd.ntmps9, List.size_toArray, List.length_cons, List.length_nil, Nat.reduceAdd, Nat.reduceSub, Array.replicate_succ, Array.replicate_zero, List.push_toArray, List.append_toArray, List.nil_append, List.cons_append]
  refine wpIn_wide.2 ?_
  have B0 := Lib.hid ((Below.refl w.heap.size w).alloc (Nat.le_refl _) (.cells #[.int .i64 y] 3))
  have A0 := Lib.hid (show Boxed (w.alloc (.cells #[.int .i64 y] 3)) g3 3 (.int .i64 y) by rw [← hg3]; exact Boxed.new w _ _)
  go_wp2_with fail
  generalize w.alloc (.cells #[.int .i64 y] 3) = wa at B0 A0 ⊢
  refine (begun4_walk wa (S.out.below B0.out S.out.size)).mono ?_
  rintro e w1 ⟨rfl, b1⟩
  have B1 := Lib.hid (B0.out.trans (b1.mono B0.out.size))
  have A1 := Lib.hid (show Boxed w1 g3 3 (.int .i64 y) from (b1.block _ A0.out.lt).trans A0.out)
  clear b1 B0 A0
  go_wp2_with fail
  refine (storeNew_walk 100 w1).mono ?_
  rintro e w2 ⟨rfl, st2, b2, z2⟩
  rw [show clampN 100 = 100 by decide] at st2
  obtain ⟨gs, hgs⟩ : ∃ gs, w1.heap.size = gs := ⟨_, rfl⟩
  rw [hgs] at st2 ⊢
  have E2 := Lib.hid (show EndS w g3 gs y (.slice none 0 0) [] w2 from ⟨B1.out.trans (b2.mono B1.out.size), (b2.block _ A1.out.lt).trans A1.out, st2⟩)
  have GW := Lib.hid (show w.heap.size ≤ gs by rw [← hgs]; exact B1.out.size)
  have g3l : g3 < gs := by have := A1.out.lt; omega
  clear st2 b2 z2 hgs B1 A1
  go_wp2_with fail
  go_loopw [7, 8] (fun t i wr => ∃ (k : Nat) (v : Value) (ps : List Pg), t = .int .i64 (mayN (l.take k) : Nat) ∧ i = .int .i64 k ∧ k ≤ n ∧ k ≤ 40 ∧ Hid (EndS w g3 gs y v ps wr) ∧ Hid ((allRows ps).length = mayN (l.take k))) (fun _ i _ => n - (intOf i).toNat)
  case atStart => exact ⟨0, _, [], rfl, rfl, Nat.zero_le _, Nat.zero_le _, E2, Lib.hid rfl⟩
  case round =>
    obtain ⟨k, v, ps, rfl, rfl, hk, hk40, E, HR⟩ := hrel
    clear E2
    by_cases hlt : k < n ∧ k < 40
    · obtain ⟨h1, h2⟩ := hlt
      obtain ⟨r, hr⟩ : ∃ r, l[k]? = some r := ⟨_, List.getElem?_eq_getElem (by rw [LN.out]; exact h1)⟩
      obtain ⟨b, off, rfl, hb, q0, q1⟩ := rows_at (Q.out.below E.out.old) hr h1
      have ok := (RS.out r (List.mem_of_getElem? hr)).below E.out.old
      have okl := ok.le
      have okc := ok.cap
      have OS := Lib.hid ok.signs
      have OQ := Lib.hid (ok.sq.up E.out.old.size)
      have NX := Lib.hid (mayN_next hr)
      have mn := Nat.le_trans (mayN_le (l.take k)) (by rw [List.length_take]; omega : (l.take k).length ≤ k)
      clear hr ok
      obtain ⟨rA, rn, rc, rw_, rl⟩ := r
      simp only at q0 q1 okl okc OS OQ NX
      obtain ⟨L, hL⟩ : ∃ L, cut310 rl = L := ⟨_, rfl⟩
      have SL : Hid (∀ c ∈ L, -2147483648 ≤ c.1 ∧ c.1 ≤ 2147483647) := Lib.hid (fun c h => OS.out c (List.mem_of_mem_take (by rw [← hL] at h; exact h)))
      have L310 : L.length ≤ 310 := by rw [← hL]; exact cut310_len rl
      have HLL := Lib.hid hL
      rw [hL] at NX
      clear hL
      go_wp2_with fail
      refine (lawRow_walk rA rn rc rw_ rl wr OQ.out okl okc).mono ?_
      rintro e w3 ⟨v3, rfl, hv, b3⟩
      rw [HLL.out] at hv
      obtain ⟨A3, c3, rfl, hc3⟩ := HasC.shape hv
      obtain ⟨m, hm⟩ : ∃ m, L.length = m := ⟨_, rfl⟩
      rw [hm] at hc3 hv L310 ⊢
      have VQ := Lib.hid (HasC.sq hv)
      have E3 := Lib.hid (E.out.laid b3)
      clear q0 q1 hv hm b3 E
      go_wp2_with fail
      refine (storeAdd_walk A3 m c3 rw_ L w3 (S.out.below E3.out.old S.out.size) E3.out.st SL.out VQ.out hc3 (by omega) (by rw [HR.out]; omega) (by omega)).mono ?_
      rintro e w4 ⟨v4, ps4, rfl, st4, rows4, t4, _⟩
      have hg0 : addG 100 (allRows ps) (rw_, L) = 0 := by unfold addG; rw [HR.out]; split <;> omega
      rw [hg0] at st4
      have hR4 : (allRows ps4).length = mayN (l.take (k + 1)) := by
        rw [rows4, NX.out]
        unfold addR
        by_cases hmm : mayL L = true
        · rw [if_pos hmm, if_pos hmm, List.length_drop, List.length_append, HR.out]
          simp only [List.length_cons, List.length_nil]
          omega
        · rw [if_neg hmm, if_neg hmm, HR.out, Nat.add_zero]
      have E4 := Lib.hid (show EndS w g3 gs y v4 ps4 w4 from ⟨E3.out.old.trans (t4.toBelow E3.out.old.size (fun j hj m => by have := (E3.out.st.raw.own_ge j m).1; have := GW.out; omega)), (t4.block _ E3.out.at_.lt (fun m => by have := (E3.out.st.raw.own_ge _ m).1; omega)).trans E3.out.at_, st4⟩)
      have HR4 := Lib.hid hR4
      have NX2 := Lib.hid NX.out
      obtain ⟨bb, hbb⟩ : ∃ bb, mayL L = bb := ⟨_, rfl⟩
      rw [show mayL (rw_, L).2 = bb from hbb]
      rw [hbb] at NX2
      clear st4 rows4 t4 hg0 hR4 hbb E3
      obtain ⟨mk, hmk⟩ : ∃ mk, mayN (l.take k) = mk := ⟨_, rfl⟩
      rw [hmk] at NX2 mn ⊢
      clear hmk
      cases bb
      · go_wp2
        go_roundw
        case rel => exact ⟨k + 1, v4, ps4, by rw [NX2.out]; simp, by go_num, by omega, by omega, E4, HR4⟩
        case measure => simp [intOf]; omega
      · go_wp2
        go_roundw
        case rel => exact ⟨k + 1, v4, ps4, by rw [NX2.out]; go_num, by go_num, by omega, by omega, E4, HR4⟩
        case measure => simp [intOf]; omega
    · have hex : (k < n ∧ 40 ≤ k) ∨ n ≤ k := by omega
      have mk40 := Nat.le_trans (mayN_le (l.take k)) (by rw [List.length_take]; omega : (l.take k).length ≤ k)
      obtain ⟨cnt, hcnt⟩ : ∃ cnt, mayN (l.take k) = cnt := ⟨_, rfl⟩
      rw [hcnt] at HR mk40 ⊢
      clear hcnt hlt
      have NP := Lib.hid (show ps.length ≤ 1000001 by have h := E.out.st.kept.last_lt; rw [HR.out] at h; omega)
      have fnn := seq_not_nil
      have fnn2 := seq_is_not_nil
      rcases hex with ⟨h1, h2⟩ | h1
      all_goals
        go_wp2_with fail
        refine (all_walk' E.out.st.raw NP.out).mono ?_
        rintro e w3 ⟨B1, u1, rfl, _, _, _, b3⟩
        have E3 := Lib.hid (E.out.laid (b3.mono (Nat.le_refl _)))
        clear b3 E
        by_cases h0 : cnt = 0
        · have hcb : ((cnt : Int) == 0) = true := by simp [h0]
          clear h0
          go_wp2_with fail
          refine (all_walk' E3.out.st.raw NP.out).mono ?_
          rintro e w4 ⟨B2, u2, rfl, _, _, _, b4⟩
          have E4 := Lib.hid (E3.out.laid (b4.mono (Nat.le_refl _)))
          clear b4 E3
          go_wp2
          exact ⟨_, results_tmp rfl _ _ _, rfl, E4.out.old⟩
        · have hcb : ((cnt : Int) == 0) = false := by simp [h0]
          have hc0 : 0 < cnt := by omega
          clear h0
          have ty := tmod_range y (cnt : Int) (by omega)
          obtain ⟨q, hq1⟩ : ∃ q : Nat, (y.tmod (cnt : Int) + (cnt : Int)).tmod (cnt : Int) = (q : Int) := ⟨((y.tmod (cnt : Int) + (cnt : Int)).tmod (cnt : Int)).toNat, by have := Int.tmod_nonneg (cnt : Int) (show 0 ≤ y.tmod (cnt : Int) + (cnt : Int) by omega); omega⟩
          have hqc : q < cnt := by have := tmod_range (y.tmod (cnt : Int) + (cnt : Int)) (cnt : Int) (by omega); omega
          have hw64 : wrap64 (y.tmod (cnt : Int) + (cnt : Int)) = y.tmod (cnt : Int) + (cnt : Int) := by simp only [wrap64]; omega
          have c0 := E3.out.at_.cell
          have f0 := E3.out.at_.frozen
          have E4 := Lib.hid (E3.out.turned (Turned.ofCell g3 0 w3 (.int .i64 (q : Int))) (fun j e => by rw [e, ← G3.out]; exact Nat.le_refl _) (int_only E3.out.at_) (Boxed.set _ E3.out.at_))
          have W4 := Lib.hid (show w.heap.size ≤ (w3.setCell ⟨g3, 0, none⟩ (.int .i64 (q : Int))).heap.size from E4.out.old.size)
          obtain ⟨g9, hg9⟩ : ∃ g9, (w3.setCell ⟨g3, 0, none⟩ (.int .i64 (q : Int))).heap.size = g9 := ⟨_, rfl⟩
          have hg9' : w3.heap.size = g9 := by rw [← hg9]; exact (World.size_setCell _ _ _).symm
          have b5 := (Below.refl (w3.setCell ⟨g3, 0, none⟩ (.int .i64 (q : Int))).heap.size (w3.setCell ⟨g3, 0, none⟩ (.int .i64 (q : Int)))).alloc (Nat.le_refl _) (.cells #[.int .i64 (-1)] 3)
          have E5 := Lib.hid (E4.out.laid b5)
          have L5 := Lib.hid (show Boxed ((w3.setCell ⟨g3, 0, none⟩ (.int .i64 (q : Int))).alloc (.cells #[.int .i64 (-1)] 3)) g9 3 (.int .i64 (-1)) by rw [← hg9]; exact Boxed.new _ _ _)
          have H9 := Lib.hid (show w.heap.size ≤ g9 by rw [← hg9]; exact W4.out)
          have hne : g9 ≠ g3 := by have := E3.out.at_.lt; omega
          clear b5 E3 E4 W4 hg9 ty
          go_wp2_with fail
          clear c0 f0 hq1 hw64
          generalize (w3.setCell ⟨g3, 0, none⟩ (.int .i64 (q : Int))).alloc (.cells #[.int .i64 (-1)] 3) = w5 at E5 L5 ⊢
          refine (all_walk' E5.out.st.raw NP.out).mono ?_
          rintro e w6 ⟨B2, u2, rfl, _, x6, o6, b6⟩
          have E6 := Lib.hid (E5.out.laid b6)
          have L6 := Lib.hid (show Boxed w6 g9 3 (.int .i64 (-1)) from (b6.block _ L5.out.lt).trans L5.out)
          have SR := Lib.hid (Src2.of_all (S.out.below E5.out.old S.out.size) E5.out.st.raw x6 o6 b6)
          clear x6 o6 b6 E5 L5
          go_wp2_with fail
          have TL := Lib.hid (all1_tells (Kp := KpS B2 u2 ps) (S := w6.heap.size) SR.out (Nat.le_refl _) (fun A B hk hs => ⟨hk.2 hs, hk.1⟩) NP.out (by rw [HR.out]; omega))
          rw [HR.out] at TL
          have SG := Lib.hid (show 0 < w6.heap.size from (S.out.below E6.out.old S.out.size).size)
          have OZ := Lib.hid (show w.heap.size ≤ w6.heap.size from E6.out.old.size)
          have I0 := Lib.hid (And.intro E6.out (And.intro L6.out (Nat.zero_le q)))
          clear SR E6 L6
          refine wp_over (Fit := FitR w6.heap.size (allRows ps)) (Kp := KpS B2 u2 ps) (N := cnt) (gf := 69) (lb := #[.pointer (some ⟨B2, 0, none⟩)]) rfl (enters_of Tryd.func69 (by kernel_rfl) rfl) TL.out KpS.trans (fun A B _ h => KpS.laid h) (fun W l o o' hl ho hc => KpS.put SG.out hl ho hc) (fun k x W h => by obtain ⟨v, r, rfl, _⟩ := h; rfl)
            (fun k W => Hid (EndS w g3 gs (q : Int) v ps W ∧ Boxed W g9 3 (.int .i64 ((k : Int) - 1)) ∧ k ≤ q)) (fun c _ W => c = .exit 2 ∧ Hid (EndS w g3 gs (q : Int) v ps W ∧ Boxed W g9 3 (.int .i64 (q : Int))))
            (fun k A B h hb => Lib.hid ⟨h.out.1.laid hb, (hb.block _ h.out.2.1.lt).trans h.out.2.1, h.out.2.2⟩) (fun k W l o o' hl ho hc h => Lib.hid ⟨h.out.1.put (Nat.le_trans OZ.out hl) ho hc, boxed_put h.out.2.1 ho hc, h.out.2.2⟩)
            (fun c k A B h hb => ⟨h.1, Lib.hid ⟨h.2.out.1.laid hb, (hb.block _ h.2.out.2.lt).trans h.2.out.2⟩⟩) (fun c k W l o o' hl ho hc h => ⟨h.1, Lib.hid ⟨h.2.out.1.put (Nat.le_trans OZ.out hl) ho hc, boxed_put h.2.out.2 ho hc⟩⟩) I0 ?round ?done ?stop
          case round =>
            rintro l2 k2 x W hk2 hl2 ⟨o, ho, hoc⟩ hi ⟨v2, r, rfl, hr, hv⟩
            clear hr hv
            gi_wp2
            refine ⟨Below.refl _ _, fun o1 => ?_⟩
            have H2 := Lib.hid (And.intro (hi.out.1.put (o' := o1) (Nat.le_trans OZ.out hl2) ho hoc) (boxed_put (o' := o1) hi.out.2.1 ho hoc))
            have hkq := hi.out.2.2
            clear hi ho
            generalize W.putObj l2 o1 = W2 at H2 ⊢
            have c0 := H2.out.2.cell
            have f0 := H2.out.2.frozen
            have kp := KpS.turned (Bx := B2) (u := u2) (ps := ps) (Turned.ofCell g9 0 W2 (.int .i64 (k2 : Int))) (int_only H2.out.2) (fun j e => by rw [e]; have := S.out.size; have := H9.out; omega)
            have KF := Lib.hid (show KeepsFrom w6.heap.size W2 (W2.setCell ⟨g9, 0, none⟩ (.int .i64 (k2 : Int))) from (KeepsOthers.setCell _ _ _).from _)
            have KP := Lib.hid kp
            have hb3 : Boxed (W2.setCell ⟨g9, 0, none⟩ (.int .i64 (k2 : Int))) g3 3 (.int .i64 (q : Int)) := (Below.heap_setCell _ _ _ _ (by exact fun e => hne e.symm)).trans H2.out.1.at_
            have H3 := Lib.hid (And.intro (H2.out.1.turned (Turned.ofCell g9 0 W2 (.int .i64 (k2 : Int))) (fun j e => by rw [e]; exact H9.out) (int_only H2.out.2) hb3) (Boxed.set (.int .i64 (k2 : Int)) H2.out.2))
            have c3 := hb3.cell
            clear kp hb3 H2
            by_cases hst : k2 = q
            · subst hst
              have hkb : ((k2 : Int) == (k2 : Int)) = true := by simp
              gi_wp2
              exact ⟨KF.out, rfl, Lib.hid ⟨H3.out.1, H3.out.2⟩⟩
            · have hkb : ((k2 : Int) == (q : Int)) = false := by simp; omega
              gi_wp2
              exact ⟨KF.out, KP.out, Lib.hid ⟨H3.out.1, by rw [show (((k2 + 1 : Nat) : Int) - 1) = (k2 : Int) by omega]; exact H3.out.2, by omega⟩⟩
          case done =>
            rintro D W hD hi hdef
            have := hi.out.2.2
            omega
          case stop =>
            rintro D k2 cx W hD hk2 ⟨rfl, hi⟩ hdef
            have EL := Lib.hid (And.intro hi.out.1 hi.out.2)
            have DF := Lib.hid hdef
            clear hi hdef TL SG I0
            obtain ⟨g11, hg11⟩ : ∃ g11, W.heap.size = g11 := ⟨_, rfl⟩
            have b7 := (Below.refl W.heap.size W).alloc (Nat.le_refl _) (.cells #[.int .i64 0] 3)
            have E7 := Lib.hid (EL.out.1.laid b7)
            have L7 := Lib.hid (show Boxed (W.alloc (.cells #[.int .i64 0] 3)) g9 3 (.int .i64 (q : Int)) from (b7.block _ EL.out.2.lt).trans EL.out.2)
            have C7 := Lib.hid (show Boxed (W.alloc (.cells #[.int .i64 0] 3)) g11 3 (.int .i64 0) by rw [← hg11]; exact Boxed.new _ _ _)
            have D7 := Lib.hid (show (W.alloc (.cells #[.int .i64 0] 3)).heap[D]? = some (.deferred (some [])) from (b7.block D (Array.getElem?_eq_some_iff.1 DF.out).1).trans DF.out)
            have H11 := Lib.hid (show w.heap.size ≤ g11 by rw [← hg11]; exact EL.out.1.old.size)
            have hne2 : g9 ≠ g11 := by have := EL.out.2.lt; omega
            have hne3 : g3 ≠ g11 := by have := EL.out.1.at_.lt; omega
            clear b7 EL DF
            go_wp2_with fail
            clear hg11
            generalize W.alloc (.cells #[.int .i64 0] 3) = w7 at E7 L7 C7 D7 ⊢
            refine (all_walk' E7.out.st.raw NP.out).mono ?_
            rintro e w8 ⟨B3, u3, rfl, _, x8, o8, b8⟩
            have E8 := Lib.hid (E7.out.laid b8)
            have L8 := Lib.hid (show Boxed w8 g9 3 (.int .i64 (q : Int)) from (b8.block _ L7.out.lt).trans L7.out)
            have C8 := Lib.hid (show Boxed w8 g11 3 (.int .i64 0) from (b8.block _ C7.out.lt).trans C7.out)
            have D8 := Lib.hid (show w8.heap[D]? = some (.deferred (some [])) from (b8.block D (Array.getElem?_eq_some_iff.1 D7.out).1).trans D7.out)
            have SR := Lib.hid (Src2.of_all (S.out.below E7.out.old S.out.size) E7.out.st.raw x8 o8 b8)
            clear x8 o8 b8 E7 L7 C7 D7
            have TL := Lib.hid (all1_tells (Kp := KpS B3 u3 ps) (S := w8.heap.size) SR.out (Nat.le_refl _) (fun A B hk hs => ⟨hk.2 hs, hk.1⟩) NP.out (by rw [HR.out]; omega))
            rw [HR.out] at TL
            have SG := Lib.hid (show 0 < w8.heap.size from (S.out.below E8.out.old S.out.size).size)
            have OZ2 := Lib.hid (show w.heap.size ≤ w8.heap.size from E8.out.old.size)
            have DL := Lib.hid (show D < w8.heap.size from (Array.getElem?_eq_some_iff.1 D8.out).1)
            have I0 := Lib.hid (And.intro E8.out (And.intro L8.out (And.intro C8.out D8.out)))
            clear SR E8 L8 C8 D8
            go_wp2_with fail
            refine wp_over (Fit := FitR w8.heap.size (allRows ps)) (Kp := KpS B3 u3 ps) (N := cnt) (gf := 69) (lb := #[.pointer (some ⟨B3, 0, none⟩)]) rfl (enters_of Tryd.func69 (by kernel_rfl) rfl) TL.out KpS.trans (fun A B _ h => KpS.laid h) (fun W l o o' hl ho hc => KpS.put SG.out hl ho hc) (fun k x W h => by obtain ⟨v, r, rfl, _⟩ := h; rfl)
              (fun k W => Hid (EndS w g3 gs (q : Int) v ps W ∧ Boxed W g9 3 (.int .i64 (q : Int)) ∧ Boxed W g11 3 (.int .i64 (k : Int)) ∧ W.heap[D]? = some (.deferred (some [])))) (fun _ _ _ => False)
              (fun k A B h hb => Lib.hid ⟨h.out.1.laid hb, (hb.block _ h.out.2.1.lt).trans h.out.2.1, (hb.block _ h.out.2.2.1.lt).trans h.out.2.2.1, (hb.block D (Array.getElem?_eq_some_iff.1 h.out.2.2.2).1).trans h.out.2.2.2⟩)
              (fun k W l o o' hl ho hc h => Lib.hid ⟨h.out.1.put (Nat.le_trans OZ2.out hl) ho hc, boxed_put h.out.2.1 ho hc, boxed_put h.out.2.2.1 ho hc, (World.putObj_heap_other (by have := DL.out; omega)).trans h.out.2.2.2⟩)
              (fun _ _ _ _ h _ => h) (fun _ _ _ _ _ _ _ _ _ h => h) I0 ?round ?done (fun _ _ _ _ _ _ h _ => h.elim)
            case round =>
              rintro l2 k3 x W2 hk3 hl2 ⟨o, ho, hoc⟩ hi ⟨v2, r, rfl, hr, hv⟩
              clear hr hv
              gi_wp2
              refine ⟨Below.refl _ _, fun o1 => ?_⟩
              have H2 := Lib.hid (And.intro (hi.out.1.put (o' := o1) (Nat.le_trans OZ2.out hl2) ho hoc) (And.intro (boxed_put (o' := o1) hi.out.2.1 ho hoc) (And.intro (boxed_put (o' := o1) hi.out.2.2.1 ho hoc) (show (W2.putObj l2 o1).heap[D]? = some (.deferred (some [])) from (World.putObj_heap_other (by have := DL.out; omega)).trans hi.out.2.2.2))))
              clear hi ho
              generalize W2.putObj l2 o1 = W3 at H2 ⊢
              have c0 := H2.out.2.2.1.cell
              have f0 := H2.out.2.2.1.frozen
              have kp := KpS.turned (Bx := B3) (u := u3) (ps := ps) (Turned.ofCell g11 0 W3 (.int .i64 ((k3 : Int) + 1))) (int_only H2.out.2.2.1) (fun j e => by rw [e]; have := S.out.size; have := H11.out; omega)
              have KF := Lib.hid (show KeepsFrom w8.heap.size W3 (W3.setCell ⟨g11, 0, none⟩ (.int .i64 ((k3 : Int) + 1))) from (KeepsOthers.setCell _ _ _).from _)
              have KP := Lib.hid kp
              have hb3 : Boxed (W3.setCell ⟨g11, 0, none⟩ (.int .i64 ((k3 : Int) + 1))) g3 3 (.int .i64 (q : Int)) := (Below.heap_setCell _ _ _ _ (by exact hne3)).trans H2.out.1.at_
              have hb9 : Boxed (W3.setCell ⟨g11, 0, none⟩ (.int .i64 ((k3 : Int) + 1))) g9 3 (.int .i64 (q : Int)) := (Below.heap_setCell _ _ _ _ (by exact hne2)).trans H2.out.2.1
              have hdD : (W3.setCell ⟨g11, 0, none⟩ (.int .i64 ((k3 : Int) + 1))).heap[D]? = some (.deferred (some [])) := (Below.heap_setCell _ _ _ _ (by
                intro e
                have h1 := H2.out.2.2.2
                rw [e] at h1
                have h2 : W3.heap[g11]? = _ := H2.out.2.2.1
                rw [h2] at h1
                cases h1)).trans H2.out.2.2.2
              have H3 := Lib.hid (And.intro (H2.out.1.turned (Turned.ofCell g11 0 W3 (.int .i64 ((k3 : Int) + 1))) (fun j e => by rw [e]; exact H11.out) (int_only H2.out.2.2.1) hb3) (And.intro hb9 (And.intro (Boxed.set (.int .i64 ((k3 : Int) + 1)) H2.out.2.2.1) hdD)))
              clear kp hb3 hb9 hdD H2
              gi_wp2
              exact ⟨KF.out, KP.out, Lib.hid ⟨H3.out.1, H3.out.2.1, H3.out.2.2.1, H3.out.2.2.2⟩⟩
            case done =>
              rintro D2 W2 hD2 hi hdef
              have HE := Lib.hid (And.intro hi.out hdef)
              have c3 := hi.out.1.at_.cell
              have c9 := hi.out.2.1.cell
              have c11 := hi.out.2.2.1.cell
              clear hi hdef TL SG I0
              have hck : ((cnt : Int) == (cnt : Int)) = true := by simp
              have hqk : ((q : Int) == (q : Int)) = true := by simp
              have hDD : D ≠ D2 := by have := DL.out; omega
              go_wp2
              refine ⟨by simp, .inl ⟨_, _, rfl, run_takeDeferred HE.out.2, by simp, .inl ⟨_, _, rfl, run_takeDeferred ((World.putObj_heap_other hDD).trans HE.out.1.2.2.2), ?_⟩⟩⟩
              have o1 := HE.out.1.1.old.trans ((Turned.put W2 D2 (.deferred none)).toBelow HE.out.1.1.old.size (fun j hj e => by have := OZ2.out; omega))
              exact ⟨_, results_tmp rfl _ _ _, rfl, o1.trans ((Turned.put _ D _).toBelow o1.size (fun j hj e => by have := OZ.out; omega))⟩

-- WHAT THE WALK GIVES, FOR EVERY ARGUMENT AND EVERY WORLD THAT HOLDS THE TABLE.
set_option maxRecDepth 100000 in
theorem contract (H : Type) (enc : TypeId × Value → H) (W : World) (base : Nat) (args : Array Value) (ds gs : List (DataW H)) (before : List MemPlace)
    (hval : ∀ (j : Nat) t v, Tryd.f9.params[j]? = some t → args[j]? = some v → Value.okWide Tryd.prog W .any base t v)
    (hW : DataW.Whole enc Tryd.prog Tryd.f9.params.toList Rows.storeEndsSpec.vars false W args.toList ds gs before) (hL : laidMetH Tryd.prog Rows.storeEndsRow.laid W) :
    Calls Tryd.prog 9 args W fun e W' => ∃ v, e = .returned v ∧ Rows.storeEndsSpec.post enc Tryd.prog Tryd.f9 false true false false W args v W' := by
  have hW' := hW
  obtain ⟨p, q, hA0, hV, rfl, hfz, hnd⟩ := hW
  have hA : DataW.TrodAll enc Tryd.prog W 0 (fun _ => true) true Tryd.f9.params.toList args.toList ds p := hA0
  rw [Tryd.params9] at hA hval
  obtain ⟨v0, vs0, d0, ds0, p0, q0, hargs, rfl, rfl, h0, r0⟩ := trodAll_cons hA
  obtain ⟨v1, vs1, d1, ds1, p1, q1, rfl, rfl, rfl, h1, r1⟩ := trodAll_cons r0
  obtain ⟨rfl, rfl, rfl⟩ := trodAll_nil r1
  obtain rfl : args = #[v0, v1] := by cases args; simp_all
  obtain ⟨rfl, rfl⟩ := trodVars_none hV
  obtain ⟨Ax, nx, cx, x, rfl, hcx, hmx, hrx, hqx⟩ := open_rows (hval 0 47 v0 rfl rfl) h0
  obtain ⟨y, rfl, rfl, rfl, wy⟩ := open_int Tryd.underlying3 (hval 1 3 v1 rfl rfl) h1
  clear hA0
  refine (walk Ax nx cx x hcx hmx y (wf_i64 wy) W (spans_of hL) hrx hqx).mono fun e W' ⟨he, hg⟩ => ?_
  subst he
  exact ⟨_, rfl, close rfl hW' ⟨rfl, rfl, rfl⟩ (by kernel_rfl) (by kernel_rfl) hg⟩

set_option maxRecDepth 100000 in
theorem laid_met (os : Os) : laidMet Tryd.prog Rows.storeEndsRow.laid ((laidWorld os).forCall (fun _ _ => 0) ⟨#[], #[.slice none 0 0, .int .i64 0], []⟩).memory :=
  laidMet_of_run' 8 (by kernel_rfl) (by kernel_rfl)
set_option maxRecDepth 100000 in
theorem reads (os : Os) {H : Type} (enc : TypeId × Value → H) : ∃ places, DataW.whole enc Tryd.prog ((laidWorld os).forCall (fun _ _ => 0) ⟨#[], #[.slice none 0 0, .int .i64 0], []⟩).memory Tryd.f9.params.toList Rows.storeEndsSpec.vars false (#[.slice none 0 0, .int .i64 0] : Array Value).toList 8 = some ([.nil, .lit (.int .i64 0)], [], places) :=
  ⟨[], by kernel_rfl⟩

set_option maxRecDepth 100000 in
theorem lifted (os : Os) (started : os.Started) (H : Type) (enc : TypeId × Value → H) (F : Stop.Interp) :
    ReturnsInHanded {} Tryd.checked os 9 .any ((OpenSpec.ofChange Rows.storeEndsSpec).preRow enc Tryd.prog Tryd.f9 Rows.storeEndsRow.domain false Rows.storeEndsRow.laid) (((OpenSpec.ofChange Rows.storeEndsSpec).at F).post enc Tryd.prog Tryd.f9 false true false false) := by
  obtain ⟨places, hx⟩ := reads os enc
  refine returnsInHanded_of_row (C := Tryd.checked) (s := OpenSpec.ofChange Rows.storeEndsSpec) ownNone started (by kernel_rfl) Tryd.func9
    (witness_row_at (enc := enc) (C := Tryd.checked) false (laidWorld os) #[.slice none 0 0, .int .i64 0] rfl (by kernel_rfl) (by kernel_rfl) (by kernel_rfl)
      (OpenSpec.preRow_of_cond 8 hx (by kernel_rfl) (fun k hk => by cases hk) (by kernel_rfl) (laid_met os))) ?_
  intro W base args ds gs before hval hW _ _ _ hL _ _
  exact contract H enc W base args ds gs before hval hW hL

set_option maxRecDepth 100000 in
theorem said : Rows.StoreEndsSaid :=
  OpenClaim.holds_of_cond 9 Tryd.f9 rfl rfl rfl rfl rfl rfl rfl ⟨rfl, rfl, rfl, rfl, rfl⟩ rfl rfl rfl rfl rfl (by kernel_rfl) Tryd.func9 (by kernel_rfl)
    (of_decide_eq_true (by kernel_rfl)) (by unfold Func.isWrapper; first | (rw [if_pos (by decide +kernel)]; kernel_rfl) | (rw [if_neg (by decide +kernel)]; exact ⟨rfl, rfl⟩))
    (fun os started H enc _ F => by rw [OpenClaim.pre_eq_preRow]; exact lifted os started H enc F)

-- No parameter wants a stand-in; the program's own looks are off: what the card asks.
set_option maxRecDepth 100000 in
theorem plain (f : FuncId) (fn : Func) (hf : Tryd.pinned.checked.prog.funcNamed "rotulus/rotuluslaw4.StoreEnds" = some f) (hfn : Tryd.pinned.checked.prog.funcs[f]? = some fn) :
    false = Tryd.pinned.checked.prog.looks [] ∧ ∀ (j : Nat) t, fn.params[j]? = some t → Tryd.pinned.checked.prog.wantsStandIn t = false := by
  obtain rfl : f = 9 := Option.some.inj ((show Tryd.prog.funcNamed "rotulus/rotuluslaw4.StoreEnds" = some 9 by kernel_rfl).symm.trans hf) |>.symm
  obtain rfl : fn = Tryd.f9 := (Option.some.inj (Tryd.func9.symm.trans hfn)).symm
  refine ⟨by kernel_rfl, fun j t ht => ?_⟩
  rw [Tryd.params9] at ht
  have hm := Array.mem_of_getElem? ht
  simp at hm
  rcases hm with rfl | rfl
  · exact (show Tryd.prog.wantsStandIn 47 = false by kernel_rfl)
  · exact (show Tryd.prog.wantsStandIn 3 = false by kernel_rfl)

-- The card.
set_option maxRecDepth 100000 in
theorem card : Rows.StoreEndsCardSaid :=
  Claim7.holds_tied_plain_at .later [] _ _ _ _ said (fun _ h => by cases h) (by kernel_rfl) (fun _ h => by cases h) storeEnds_row_tie rfl ⟨rfl, rfl⟩ (by kernel_rfl) rfl plain (by kernel_rfl)
end Go.Proofs.YtikdlikdknfcfaaDoor.storeEnds
