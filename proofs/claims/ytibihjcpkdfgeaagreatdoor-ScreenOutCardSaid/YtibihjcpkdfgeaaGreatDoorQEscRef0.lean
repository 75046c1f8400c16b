/-
  The reference's parser of escapes: the numbers of a CSI.
  The reference's parser of escapes: Put.
  The reference's parser of escapes: Put, at rest, behind an escape.
  The reference's parser of escapes: Put, behind an escape, in a CSI, in an OSC.
  The reference's parser of escapes: Put, in a CSI, in an OSC.
  The reference's parser of escapes: Put, in an OSC; Put in any place.
  Two events that are the same: EqEvent.
  EscAll: what is asked behind each sign, step by step.
  EscAll: the two parsers side by side, whatever signs come (its first statement taken as given).
-/
import Derived.Test.YtibihjcpkdfgeaaGreatDoorQEsc0
import Derived.Test.YtibihjcpkdfgeaaGreatDoorQBase0
import Derived.Test.YtibihjcpkdfgeaaGreatDoorQBase1
import Derived.Deep.CutRange
import Derived.Deep.CutBlock
namespace Go.Proofs.YtibihjcpkdfgeaaGreatDoor
open Go.ChangeShapes Go.WideShapes Go.ChangeAt Go.RowKit
namespace Esc

theorem Nums.at {W : World} {base : Nat} {v : Value} {l : List Int} (h : Nums W base v l) (hl : 0 < l.length) : ∃ b c, v = .slice (some ⟨b, 0, none⟩) l.length c ∧ l.length ≤ c ∧ base ≤ b ∧ b < W.heap.size ∧ (∀ i x, l[i]? = some x → W.cell? ⟨b, i, none⟩ = some (.int .i64 x)) ∧ (∀ i, W.frozen? ⟨b, i, none⟩ = false) := by
  rcases h.2 with ⟨_, h0⟩ | ⟨g, cap, cur, e, e2, e3, e4, e5, e6, e7⟩
  · omega
  · refine ⟨g, cap, e, e4, e2, (Array.getElem?_eq_some_iff.1 e3).1, fun i x hx => ?_, fun i => frozen_of_row W g i _ _ e3⟩
    rw [cell_of_row W g i _ _ (0, 0) e3]
    have hi := (List.getElem?_eq_some_iff.1 hx).1
    have hm : (l.map (Value.int .i64))[i]? = some (.int .i64 x) := by rw [List.getElem?_map, hx]; rfl
    rw [← e7, List.getElem?_take, if_pos (by omega)] at hm
    rwa [Array.getElem?_toList] at hm
theorem Nums.set {W : World} {base b c : Nat} {l : List Int} {n : Nat} (h : Nums W base (.slice (some ⟨b, 0, none⟩) n c) l) (i : Nat) (x : Int) : Nums (W.setCell ⟨b, i, none⟩ (.int .i64 x)) base (.slice (some ⟨b, 0, none⟩) n c) (l.set i x) := by
  refine ⟨by rw [List.length_map, List.length_set]; omega, .inr ?_⟩
  rcases h.2 with ⟨e, _⟩ | ⟨g, cap, cur, e, e2, e3, e4, e5, e6, e7⟩
  · cases e
  · injection e with e ea eb
    injection e with e
    injection e with e
    subst e ea eb
    rw [List.length_set]
    refine ⟨b, c, _, rfl, e2, heap_setCell_same W b i _ _ _ e3, e4, e5, by simpa using e6, ?_⟩
    rw [Array.toList_setIfInBounds, List.map_set, ← e7, List.take_set]
/-- Its first ones alone. -/
theorem Nums.first {W : World} {base b c n : Nat} {l : List Int} (h : Nums W base (.slice (some ⟨b, 0, none⟩) n c) l) {m : Nat} (hm : m ≤ l.length) : Nums W base (.slice (some ⟨b, 0, none⟩) m c) (l.take m) := by
  have hlt : (l.take m).length = m := by rw [List.length_take]; omega
  refine ⟨by rw [List.length_map]; omega, .inr ?_⟩
  rcases h.2 with ⟨e, _⟩ | ⟨g, cap, cur, e, e2, e3, e4, e5, e6, e7⟩
  · cases e
  · injection e with e ea eb
    injection e with e
    injection e with e
    subst e ea eb
    rw [hlt]
    refine ⟨b, c, cur, rfl, e2, e3, by omega, e5, e6, ?_⟩
    rw [List.map_take, ← e7, List.take_take]
    congr 1
    omega
theorem bad_take {t : List Int} {k : Nat} (hk : k < t.length) : bad (t.take (k + 1)) = (bad (t.take k) || !okSign (nth t k)) := by rw [take_next hk, bad_snoc]
theorem bad_more {t : List Int} {k : Nat} (h : bad (t.take k) = true) : bad t = true := by
  have e : t = t.take k ++ t.drop k := (List.take_append_drop k t).symm
  rw [e]
  unfold bad at h ⊢
  rw [List.any_append, h, Bool.true_or]
def NumPost (t : List Int) (w : World) (e : Ending) (w' : World) : Prop :=
  ∃ va, e = .returned (.tuple #[va, .bool (!bad t)]) ∧ (bad t = false → Nums w' w.heap.size va (csiArgs t)) ∧ (∃ A n c, va = .slice A n c) ∧ Below w.heap.size w w'
set_option maxRecDepth 100000 in
set_option maxHeartbeats 6400000 in
theorem numbers_walk (A : Option Addr) (n c : Nat) (t : List Int) (w : World) (hn : n ≤ 1000000) (hq : Sq w w.heap.size 1 n A (t.map (Value.int .i32))) :
    Calls Tryz.prog 70 #[.slice A n c] w fun e w' => NumPost t w e w' := by
  obtain ⟨iI, hiI, iz0, iz1, iz2⟩ := info_parts infoInt
  have LN := Lib.hid hq.size_ints
  have Q := Lib.hid hq
  clear hq
  by_cases h0 : n = 0
  · have e : t = [] := List.eq_nil_of_length_eq_zero (by have := LN.out; omega)
    subst e
    subst h0
    go_enter Tryz.func70, Tryz.ntmps70
    go_wp2
    go_ret2
    exact ⟨_, rfl, fun _ => Nums.nothing _ _, ⟨_, _, _, rfl⟩, Below.refl _ _⟩
  · have hnb : ((n : Int) == 0) = false := by simp; omega
    have hne : t ≠ [] := by rintro rfl; have := LN.out; simp at this; omega
    have HNE := Lib.hid hne
    clear hne
    go_enter Tryz.func70, Tryz.ntmps70
    go_wp2_with fail
    have b1 := (Below.refl w.heap.size w).alloc (Nat.le_refl _) (.cells #[.int .i64 0] 3)
    have N1 := Lib.hid (show Nums (w.alloc (.cells #[.int .i64 0] 3)) w.heap.size (.slice (some ⟨w.heap.size, 0, none⟩) 1 1) [0] from ⟨rfl, .inr ⟨w.heap.size, 1, #[.int .i64 0], rfl, Nat.le_refl _, heap_alloc_new w _, Nat.le_refl _, by unfold maxLen; omega, rfl, rfl⟩⟩)
    have B1 := Lib.hid b1
    clear b1
    generalize w.alloc (.cells #[.int .i64 0] 3) = w1 at N1 B1 ⊢
    go_loopw [4, 5, 6] (fun va i _ wr => ∃ k : Nat, i = .int .i64 k ∧ k ≤ n ∧ Hid (Nums wr w.heap.size va (nums (t.take k))) ∧ Hid (bad (t.take k) = false) ∧ Hid (Below w.heap.size w wr)) (fun _ i _ _ => n - (intOf i).toNat)
    case atStart => exact ⟨0, rfl, Nat.zero_le _, N1, Lib.hid rfl, B1⟩
    case round =>
      obtain ⟨k, rfl, hk, NK, BK, BB⟩ := hrel
      clear N1 B1
      have hlen := nums_len (t.take k)
      have hlt0 : (t.take k).length ≤ k := List.length_take_le _ _
      obtain ⟨b, cp, rfl, hcp, hbb, hbl, hcell, hfree⟩ := NK.out.at (by omega)
      obtain ⟨m, hm⟩ : ∃ m, (nums (t.take k)).length = m := ⟨_, rfl⟩
      have HM := Lib.hid hm
      rw [hm] at hlen NK hcp ⊢
      have hm1 : m ≤ 1000002 := by omega
      obtain ⟨j, rfl⟩ : ∃ j, m = j + 1 := ⟨m - 1, by omega⟩
      by_cases hlt : k < n
      · obtain ⟨bq, off, rfl, _, hc⟩ := (Q.out.below BB.out).int_at hlt
        have hbt := bad_take (t := t) (k := k) (by have := LN.out; omega)
        rw [BK.out, Bool.false_or] at hbt
        have hns := nums_snoc (t.take k) (nth t k)
        rw [← take_next (by have := LN.out; omega)] at hns
        obtain ⟨r, hr⟩ : ∃ r, nth t k = r := ⟨_, rfl⟩
        rw [hr] at hc hbt hns
        by_cases h59 : r = 59
        · subst h59
          have hnn : nums (t.take (k + 1)) = nums (t.take k) ++ [0] := by rw [hns]; unfold stepN; rw [if_pos rfl]
          have b2 := (Below.refl wr.heap.size wr).alloc (Nat.le_refl _) (.cells #[.int .i64 0] 3)
          have NK2 := Lib.hid (show (wr.alloc (.cells #[.int .i64 0] 3)).ownsRow w.heap.size 3 1 (.slice (some ⟨b, 0, none⟩) (j + 1) cp) (j + 1) ((nums (t.take k)).map (Value.int .i64)) by
            have h := NK.out.kept (W' := wr.alloc (.cells #[.int .i64 0] 3)) (fun q e => b2.block q (NK.out.lt q e).2)
            unfold Nums at h
            rw [HM.out] at h
            exact h)
          have SQ2 := Lib.hid (sq_cells (w := wr.alloc (.cells #[.int .i64 0] 3)) (b := wr.heap.size) (off := 0) (l := [0]) (n := 1) rfl (by simp) (fun i x hx => by
            rw [cell_of_row _ wr.heap.size _ _ _ (0, 0) (heap_alloc_new wr _), Nat.zero_add]
            cases i with
            | zero => simp at hx; subst hx; rfl
            | succ i => simp at hx))
          have BK2 := Lib.hid (show bad (t.take (k + 1)) = false by rw [hbt]; rfl)
          have NN := Lib.hid hnn
          have hsw := BB.out.size
          have BB2 := Lib.hid (BB.out.alloc hsw (.cells #[.int .i64 0] 3))
          clear b2 hnn hns hbt hcell hfree
          go_wp2_with (
            at_builtin
            refine wpl_app rfl (.tmp 26) (.tmp 27) 35 rfl w.heap.size 3 iI (.int .i64 0) 1 8 Tryz.underlying35 hiI iz0 iz1 iz2 rfl (by omega) (.slice (some ⟨b, 0, none⟩) (j + 1) cp) (j + 1) ((nums (t.take k)).map (Value.int .i64)) rfl NK2.out (some ⟨wr.heap.size, 0, none⟩) 1 1 ([(0 : Int)].map (Value.int .i64)) rfl (wr.alloc (.cells #[.int .i64 0] 3)).heap.size SQ2.out (by intro u hu; simp at hu; subst hu; rfl) (by unfold maxLen; omega) (by omega) (by simp; omega) ?_
            intro v7 w7 h7 g7 _
            have N7 := Lib.hid (show Nums w7 w.heap.size v7 (nums (t.take (k + 1))) by
              unfold Nums
              rw [NN.out, List.map_append, List.length_append, HM.out]
              exact h7)
            have B7 := Lib.hid (BB2.out.grown g7 (by simp; omega) (fun q e => (by have e2 : b = q := (by injection e); omega)))
            clear h7 g7 NK2 SQ2 BB2)
          go_roundw
          case rel => exact ⟨k + 1, by go_num, by omega, N7, BK2, B7⟩
          case measure => first | (simp [intOf]; done) | (simp [intOf]; omega)
        · have b59 : (r == 59) = false := by simp; omega
          by_cases hd : 48 ≤ r ∧ r ≤ 57
          · obtain ⟨r0, r9⟩ := hd
            obtain ⟨x, hx⟩ : ∃ x, (nums (t.take k)).getD j 0 = x := ⟨_, rfl⟩
            have hxs : (nums (t.take k))[j]? = some x := by
              rw [← hx, List.getD_eq_getElem?_getD, List.getElem?_eq_getElem (by omega)]
              rfl
            obtain ⟨hx0, hx9⟩ := nums_range (t.take k) x (List.mem_of_getElem? hxs)
            have hok : okSign r = true := by simp [okSign, r0, r9]
            have BK2 := Lib.hid (show bad (t.take (k + 1)) = false by rw [hbt, hok]; rfl)
            have hnn : nums (t.take (k + 1)) = (nums (t.take k)).set j (min (x * 10 + (r - 48)) 9999) := by
              rw [hns]
              unfold stepN
              rw [if_neg h59, if_pos hok, HM.out, Nat.add_sub_cancel, hx]
            have di : wr.drew.cell? ⟨b, j, none⟩ = some (.int .i64 x) := hcell j x hxs
            have dfi : wr.drew.frozen? ⟨b, j, none⟩ = false := hfree j
            have dc : wr.drew.cell? ⟨bq, off + k, none⟩ = some (.int .i32 r) := hc
            have NS := Lib.hid (show ∀ w2, w2 = wr.drew.setCell ⟨b, j, none⟩ (.int .i64 (min (x * 10 + (r - 48)) 9999)) → Nums w2 w.heap.size (.slice (some ⟨b, 0, none⟩) (j + 1) cp) (nums (t.take (k + 1))) ∧ Below w.heap.size w w2 by
              rintro w2 rfl
              have h1 : Nums wr.drew w.heap.size (.slice (some ⟨b, 0, none⟩) (j + 1) cp) (nums (t.take k)) := NK.out.kept (fun _ _ => rfl)
              refine ⟨by rw [hnn]; exact h1.set j _, BB.out.drew.setCell (p := ⟨b, j, none⟩) hbb _⟩)
            have hj0 : (0 : Int) ≤ (j : Int) := by omega
            have hjl : (j : Int) < (j : Int) + 1 := by omega
            clear hnn hns hbt hcell hfree hx hxs hok hlt0 hlen HM NK BB BK
            go_wp2_with fail
            refine wp_region_still_tail 15 (by kernel_rfl) (by kernel_rfl) ?_
            rw [show ({ wr with drawn := wr.drawn + 1 } : World) = wr.drew from rfl]
            generalize wr.drew = wd at di dfi dc NS ⊢
            simp only [List.take_succ_cons, List.take_zero, List.drop_succ_cons, List.drop_zero]
            repeat still_step
            refine wpStill_nil ?_
            go_wp2_with fail
            go_roundw
            case rel => exact ⟨k + 1, by go_num, by omega, Lib.hid (NS.out _ rfl).1, BK2, Lib.hid (NS.out _ rfl).2⟩
            case measure => first | (simp [intOf]; done) | (simp [intOf]; omega)
          · have hok : okSign r = false := by
              simp only [okSign, Bool.or_eq_false_iff, Bool.and_eq_false_iff, decide_eq_false_iff_not]
              exact ⟨b59, by omega⟩
            have hbad : bad t = true := bad_more (k := k + 1) (by rw [hbt, hok]; rfl)
            have DN := Lib.hid (show NumPost t w (.returned (.tuple #[.slice none 0 0, .bool false])) wr from ⟨_, by rw [hbad]; rfl, fun e => by (rw [hbad] at e; cases e), ⟨_, _, _, rfl⟩, BB.out⟩)
            clear hns hbt hcell hfree hok hlt0 hlen HM NK BB BK hbad
            by_cases h48 : 48 ≤ r
            · have h57 : ¬ r ≤ 57 := by omega
              go_wp2
              go_ret2
              exact DN.out
            · go_wp2
              go_ret2
              exact DN.out
      · have hkn : t.take k = t := List.take_of_length_le (by have := LN.out; omega)
        rw [hkn] at HM NK BK
        obtain ⟨m8, hm8⟩ : ∃ m8, min (j + 1) 8 = m8 := ⟨_, rfl⟩
        have hmI : min ((j : Int) + 1) 8 = (m8 : Int) := by omega
        have hm0 : (0 : Int) ≤ (m8 : Int) := by omega
        have hmc : (m8 : Int) ≤ (cp : Int) := by omega
        have hcp0 : cp ≠ 0 := by omega
        have DN := Lib.hid (show NumPost t w (.returned (.tuple #[.slice (some ⟨b, 0, none⟩) m8 cp, .bool true])) wr from ⟨_, by rw [BK.out]; rfl, fun _ => by
          have h := NK.out.first (m := m8) (by have := HM.out; omega)
          have e : csiArgs t = (nums t).take m8 := by
            unfold csiArgs
            rw [if_neg HNE.out, ← hm8, ← HM.out]
            rw [List.take_eq_take_iff]
            omega
          rw [e]
          exact h, ⟨_, _, _, rfl⟩, BB.out⟩)
        clear hcell hfree hlt0 hlen HM NK BB BK hm8 hkn
        go_wp2_with fail
        go_ret2
        exact DN.out
end Esc
end Go.Proofs.YtibihjcpkdfgeaaGreatDoor
namespace Go.Proofs.YtibihjcpkdfgeaaGreatDoor
open Go.ChangeShapes Go.WideShapes Go.ChangeAt Go.RowKit
namespace Esc

def HasR (w : World) (base : Nat) (v : Value) (t : List Int) : Prop := w.ownsRow base 21 1 v t.length (t.map (Value.int .i32))
theorem HasR.shape {w : World} {base : Nat} {v : Value} {t : List Int} (h : HasR w base v t) : ∃ A c, v = .slice A t.length c := by
  rcases h.2 with ⟨rfl, h0⟩ | ⟨g, cap, cur, rfl, _⟩
  · rw [h0]; exact ⟨_, _, rfl⟩
  · exact ⟨_, _, rfl⟩
theorem HasR.lt {w : World} {base : Nat} {v : Value} {t : List Int} (h : HasR w base v t) : ∀ k, v.ownBlock = some k → base ≤ k ∧ k < w.heap.size := fun k e => World.ownsRow.lt h k e
theorem HasR.kept {w w' : World} {base : Nat} {v : Value} {t : List Int} (h : HasR w base v t) (hk : ∀ k, v.ownBlock = some k → w'.heap[k]? = w.heap[k]?) : HasR w' base v t := by
  refine ⟨h.1, ?_⟩
  rcases h.2 with e | ⟨g, cap, cur, rfl, e2, e3, r⟩
  · exact .inl e
  · exact .inr ⟨g, cap, cur, rfl, e2, (hk g rfl).trans e3, r⟩
theorem HasR.typed {w : World} {base : Nat} {v : Value} {t : List Int} (h : HasR w base v t) : ∀ k, v.ownBlock = some k → Typed w 21 k := by
  intro k e
  rcases h.2 with ⟨rfl, _⟩ | ⟨g, cap, cur, rfl, _, e3, _⟩
  · cases e
  · injection e with e
    subst e
    exact ⟨_, _, e3⟩
theorem HasR.sq {w : World} {base n c : Nat} {A : Option Addr} {t : List Int} (h : HasR w base (.slice A n c) t) : Sq w w.heap.size 1 n A (t.map (Value.int .i32)) := by
  obtain ⟨A', c', e⟩ := HasR.shape h
  injection e with e1 e2 e3
  subst e1 e2 e3
  exact Sq.own h
abbrev RCells (w : World) (g : Nat) (cs : Array Value) : Prop := w.heap[g]? = some (.cells cs 32 (0, 0))
def signsOf : St → Option (List Int)
  | .csi t => some t
  | .osc t => some t
  | .oscEsc t => some t
  | _ => none
/-- The reference's parser behind some signs; at rest what it kept is of no account. -/
structure RAt (w : World) (g : Nat) (v : Value) (st : St) : Prop where
  cells : RCells w g #[.int .i64 (placeN st), v]
  old : ∃ t, HasR w g v t
  text : ∀ t, signsOf st = some t → HasR w g v t ∧ Runes t
theorem RAt.slice {w : World} {g : Nat} {v : Value} {st : St} (h : RAt w g v st) : ∃ A n c, v = .slice A n c :=
  let ⟨_, ht⟩ := h.old
  let ⟨A, c, e⟩ := ht.shape
  ⟨A, _, c, e⟩
abbrev ECells (w : World) (g : Nat) (cs : Array Value) : Prop := w.heap[g]? = some (.cells cs 37 (0, 0))
def RPost (g : Nat) (v : Value) (st' : St) (o : Option Ev) (w : World) (e : Ending) (w' : World) : Prop :=
  ∃ (k r : Int) (A : Option Addr) (n c : Nat) (s : ByteArray) (v' : Value), e = .returned (.tuple #[.agg #[.int .i64 k, .int .i32 r, .slice A n c, .string s], .bool o.isSome]) ∧
    (∀ x, o = some x → k = x.kind ∧ r = x.r ∧ s = ⟨x.text.toArray⟩ ∧ Nums w' w.heap.size (.slice A n c) x.args) ∧ RAt w' g v' st' ∧ Turned (Own g v) w w'
theorem event_put4 {w : World} {g : Nat} {c0 c1 c2 c3 : Value} (h : ECells w g #[c0, c1, c2, c3]) (u0 u1 u2 u3 : Value) : ECells ((((w.setCell ⟨g, 0, none⟩ u0).setCell ⟨g, 1, none⟩ u1).setCell ⟨g, 2, none⟩ u2).setCell ⟨g, 3, none⟩ u3) g #[u0, u1, u2, u3] := by
  have h0 : ECells (w.setCell ⟨g, 0, none⟩ u0) g #[u0, c1, c2, c3] := heap_setCell_same w g 0 _ _ _ h
  have h1 : ECells ((w.setCell ⟨g, 0, none⟩ u0).setCell ⟨g, 1, none⟩ u1) g #[u0, u1, c2, c3] := heap_setCell_same _ g 1 _ _ _ h0
  have h2 : ECells (((w.setCell ⟨g, 0, none⟩ u0).setCell ⟨g, 1, none⟩ u1).setCell ⟨g, 2, none⟩ u2) g #[u0, u1, u2, c3] := heap_setCell_same _ g 2 _ _ _ h1
  exact heap_setCell_same _ g 3 _ _ _ h2
theorem event_only (w : World) (g : Nat) (u0 u1 u2 u3 : Value) : OnlyRow g w ((((w.setCell ⟨g, 0, none⟩ u0).setCell ⟨g, 1, none⟩ u1).setCell ⟨g, 2, none⟩ u2).setCell ⟨g, 3, none⟩ u3) :=
  (((OnlyRow.cell g 0 w u0).trans (OnlyRow.cell g 1 _ u1)).trans (OnlyRow.cell g 2 _ u2)).trans (OnlyRow.cell g 3 _ u3)
set_option maxRecDepth 100000 in
set_option maxHeartbeats 3200000 in
theorem refOsc_walk (g : Nat) (v : Value) (st : St) (t : List Int) (w : World) (hst : signsOf st = some t) (hpl : ∃ pl, placeN st = pl) (h : RAt w g v st) (ht : t.length ≤ 1000000) :
    Calls Tryz.prog 69 #[ptrP g] w fun e w' => RPost g v .rest (oscEv t) w e w' := by
  obtain ⟨pl, hpl⟩ := hpl
  obtain ⟨hx, hru⟩ := h.text t hst
  obtain ⟨A, c, rfl⟩ := HasR.shape hx
  obtain ⟨n, hn⟩ : ∃ n, t.length = n := ⟨_, rfl⟩
  have hc := h.cells
  rw [hpl] at hc
  rw [hn] at hx hc ht ⊢
  have hgl : g < w.heap.size := (Array.getElem?_eq_some_iff.1 hc).1
  have o1 := OnlyRow.cell g 0 w (.int .i64 0)
  have hc1 : RCells (w.setCell ⟨g, 0, none⟩ (.int .i64 0)) g #[.int .i64 0, .slice A n c] := heap_setCell_same w g 0 _ _ _ hc
  have hx1 := hx.kept (w' := w.setCell ⟨g, 0, none⟩ (.int .i64 0)) (fun k e => o1.block k (fun e2 => by
    subst e2
    exact (hx.typed k e).apart ⟨_, _, hc⟩ (by decide) rfl))
  have hs1 : (w.setCell ⟨g, 0, none⟩ (.int .i64 0)).heap.size = w.heap.size := o1.size
  have T1 := Lib.hid (show Turned (Own g (.slice A n c)) w (w.setCell ⟨g, 0, none⟩ (.int .i64 0)) from (Turned.ofOnly o1).mono (fun k _ e => .inl e))
  have C1 := Lib.hid hc1
  have X1 := Lib.hid hx1
  have S1 := Lib.hid hs1
  have RU := Lib.hid hru
  have HN := Lib.hid hn
  have c0 : w.cell? ⟨g, 0, none⟩ = some (.int .i64 pl) := cell_of_row _ g 0 _ _ (0, 0) hc
  have f0 : w.frozen? ⟨g, 0, none⟩ = false := frozen_of_row _ g 0 _ _ hc
  have c1 : w.cell? ⟨g, 1, none⟩ = some (.slice A n c) := cell_of_row _ g 1 _ _ (0, 0) hc
  clear h hx hc hru hst hpl hn o1 hc1 hx1 hs1
  go_enter Tryz.func69, Tryz.ntmps69
  go_wp2_with fail
  obtain ⟨g1, hg1⟩ : ∃ g1, w.heap.size = g1 := ⟨_, rfl⟩
  have HG1 := Lib.hid hg1
  have hne : g1 ≠ g := by omega
  rw [hg1] at S1 ⊢
  generalize w.setCell ⟨g, 0, none⟩ (.int .i64 0) = w1 at C1 X1 T1 S1 ⊢
  have b2 := (Below.refl w1.heap.size w1).alloc (Nat.le_refl _) (.cells #[.int .i64 0, .int .i32 0, .slice none 0 0, .string ⟨#[]⟩] 37)
  have C2 := Lib.hid (show RCells (w1.alloc (.cells #[.int .i64 0, .int .i32 0, .slice none 0 0, .string ⟨#[]⟩] 37)) g #[.int .i64 0, .slice A n c] from (b2.block g (Array.getElem?_eq_some_iff.1 C1.out).1).trans C1.out)
  have E2 := Lib.hid (show ECells (w1.alloc (.cells #[.int .i64 0, .int .i32 0, .slice none 0 0, .string ⟨#[]⟩] 37)) g1 #[.int .i64 0, .int .i32 0, .slice none 0 0, .string ⟨#[]⟩] by rw [← S1.out]; exact heap_alloc_new w1 _)
  have X2 := Lib.hid (X1.out.kept (w' := w1.alloc (.cells #[.int .i64 0, .int .i32 0, .slice none 0 0, .string ⟨#[]⟩] 37)) (fun k e => b2.block k (X1.out.lt k e).2))
  have T2 := Lib.hid (Turned.laidMore T1.out b2)
  clear b2 c0 f0 c1 hg1 C1 X1 T1
  generalize w1.alloc (.cells #[.int .i64 0, .int .i32 0, .slice none 0 0, .string ⟨#[]⟩] 37) = w2 at C2 E2 X2 T2 ⊢
  refine (refWrite_walk A n c t w2 RU.out (by omega) (HasR.sq X2.out)).mono ?_
  rintro e w3 ⟨rfl, b3⟩
  have E3 := Lib.hid (show ECells w3 g1 #[.int .i64 0, .int .i32 0, .slice none 0 0, .string ⟨#[]⟩] from (b3.block g1 (Array.getElem?_eq_some_iff.1 E2.out).1).trans E2.out)
  have C3 := Lib.hid (show RCells w3 g #[.int .i64 0, .slice A n c] from (b3.block g (Array.getElem?_eq_some_iff.1 C2.out).1).trans C2.out)
  have T3 := Lib.hid (Turned.laidMore T2.out b3)
  have X3 := Lib.hid (X2.out.kept (w' := w3) (fun k e => b3.block k (X2.out.lt k e).2))
  have e0 : w3.cell? ⟨g1, 0, none⟩ = some (.int .i64 0) := cell_of_row _ g1 0 _ _ (0, 0) E3.out
  have e1 : w3.cell? ⟨g1, 1, none⟩ = some (.int .i32 0) := cell_of_row _ g1 1 _ _ (0, 0) E3.out
  have e2 : w3.cell? ⟨g1, 2, none⟩ = some (.slice none 0 0) := cell_of_row _ g1 2 _ _ (0, 0) E3.out
  have e3 : w3.cell? ⟨g1, 3, none⟩ = some (.string ⟨#[]⟩) := cell_of_row _ g1 3 _ _ (0, 0) E3.out
  have g0 := frozen_of_row _ g1 0 _ _ E3.out
  have g1' := frozen_of_row _ g1 1 _ _ E3.out
  have g2 := frozen_of_row _ g1 2 _ _ E3.out
  have g3 := frozen_of_row _ g1 3 _ _ E3.out
  obtain ⟨m, hm⟩ : ∃ m, (encL t).length = m := ⟨_, rfl⟩
  have hsz : ({ data := (encL t).toArray } : ByteArray).size = m := hm
  have HM := Lib.hid hm
  have P4 := Lib.hid (event_put4 E3.out (.int .i64 4) (.int .i32 0) (.slice none 0 0) (.string ⟨(encL t).toArray⟩))
  have O4 := Lib.hid (event_only w3 g1 (.int .i64 4) (.int .i32 0) (.slice none 0 0) (.string ⟨(encL t).toArray⟩))
  clear b3 C2 E2 X2 T2 hm
  go_wp2
  generalize (((w3.setCell ⟨g1, 0, none⟩ (.int .i64 4)).setCell ⟨g1, 1, none⟩ (.int .i32 0)).setCell ⟨g1, 2, none⟩ (.slice none 0 0)).setCell ⟨g1, 3, none⟩ (.string ⟨(encL t).toArray⟩) = w4 at P4 O4 ⊢
  have q0 : w4.cell? ⟨g1, 0, none⟩ = some (.int .i64 4) := cell_of_row _ g1 0 _ _ (0, 0) P4.out
  have q1 : w4.cell? ⟨g1, 1, none⟩ = some (.int .i32 0) := cell_of_row _ g1 1 _ _ (0, 0) P4.out
  have q2 : w4.cell? ⟨g1, 2, none⟩ = some (.slice none 0 0) := cell_of_row _ g1 2 _ _ (0, 0) P4.out
  have q3 : w4.cell? ⟨g1, 3, none⟩ = some (.string ⟨(encL t).toArray⟩) := cell_of_row _ g1 3 _ _ (0, 0) P4.out
  have hos : (oscEv t).isSome = decide ((m : Int) ≤ 4000) := by
    unfold oscEv
    rw [HM.out]
    by_cases h4 : m ≤ 4000
    · rw [if_pos h4, decide_eq_true (by omega)]; rfl
    · rw [if_neg h4, decide_eq_false (by omega)]; rfl
  have X4 := X3.out.kept (w' := w4) (fun k e => O4.out.block k (fun e2 => by subst e2; exact (X3.out.typed k e).apart ⟨_, _, E3.out⟩ (by decide) rfl))
  have DN : RPost g (.slice A n c) .rest (oscEv t) w (.returned (.tuple #[.agg #[.int .i64 4, .int .i32 0, .slice none 0 0, .string ⟨(encL t).toArray⟩], .bool (decide ((m : Int) ≤ 4000))])) w4 := by
    refine ⟨4, 0, none, 0, 0, _, .slice A n c, by rw [hos], fun x hx => ?_, ⟨?_, ⟨t, X4⟩, fun t' h => by cases h⟩, ?_⟩
    · unfold oscEv at hx
      split at hx
      · injection hx with hx
        subst hx
        exact ⟨rfl, rfl, rfl, Nums.nothing _ _⟩
      · cases hx
    · exact (O4.out.block g (fun e => hne e.symm)).trans C3.out
    · exact T3.out.trans (Turned.ofOnly O4.out) (fun k hk e => by subst e; have := HG1.out; omega)
  exact bodyPost_ret (by simp [results, Tryz.results69, go_sem, q0, q1, q2, q3]) rfl DN
theorem numsTyped {W : World} {base : Nat} {v : Value} {l : List Int} (h : Nums W base v l) : ∀ k, v.ownBlock = some k → Typed W 3 k := by
  intro k e
  rcases h.2 with ⟨rfl, _⟩ | ⟨g, cap, cur, rfl, _, e3, _⟩
  · cases e
  · injection e with e
    subst e
    exact ⟨_, _, e3⟩
theorem RAt.kept {w w' : World} {g : Nat} {v : Value} {st : St} (h : RAt w g v st) (hg : w'.heap[g]? = w.heap[g]?) (hk : ∀ k, v.ownBlock = some k → Typed w 21 k → w'.heap[k]? = w.heap[k]?) : RAt w' g v st :=
  ⟨hg.trans h.cells, let ⟨t, ht⟩ := h.old; ⟨t, ht.kept fun k e => hk k e (ht.typed k e)⟩, fun t ht => ⟨(h.text t ht).1.kept fun k e => hk k e ((h.text t ht).1.typed k e), (h.text t ht).2⟩⟩
theorem RAt.lt {w : World} {g : Nat} {v : Value} {st : St} (h : RAt w g v st) : g < w.heap.size := (Array.getElem?_eq_some_iff.1 h.cells).1
theorem RAt.laid {w w' : World} {g : Nat} {v : Value} {st : St} (h : RAt w g v st) (hb : Below w.heap.size w w') : RAt w' g v st :=
  h.kept (hb.block g h.lt) (fun k _ ⟨_, _, e⟩ => hb.block k (Array.getElem?_eq_some_iff.1 e).1)
/-- What is told lies in its own block; then all is as it should be. -/
theorem fin {g g1 : Nat} {v v' : Value} {st' : St} {o : Option Ev} {w wx : World} {c0 c1 c2 c3 : Value} (hE : ECells wx g1 #[c0, c1, c2, c3]) (hg1 : w.heap.size ≤ g1) (hg : g < w.heap.size) (hR : RAt wx g v' st') (hT : Turned (Own g v) w wx)
    (k r : Int) (A : Option Addr) (n c : Nat) (s : ByteArray) (ho : ∀ x, o = some x → k = x.kind ∧ r = x.r ∧ s = ⟨x.text.toArray⟩ ∧ Nums wx w.heap.size (.slice A n c) x.args) :
    RPost g v st' o w (.returned (.tuple #[.agg #[.int .i64 k, .int .i32 r, .slice A n c, .string s], .bool o.isSome])) ((((wx.setCell ⟨g1, 0, none⟩ (.int .i64 k)).setCell ⟨g1, 1, none⟩ (.int .i32 r)).setCell ⟨g1, 2, none⟩ (.slice A n c)).setCell ⟨g1, 3, none⟩ (.string s)) ∧
    ECells ((((wx.setCell ⟨g1, 0, none⟩ (.int .i64 k)).setCell ⟨g1, 1, none⟩ (.int .i32 r)).setCell ⟨g1, 2, none⟩ (.slice A n c)).setCell ⟨g1, 3, none⟩ (.string s)) g1 #[.int .i64 k, .int .i32 r, .slice A n c, .string s] := by
  have o4 := event_only wx g1 (.int .i64 k) (.int .i32 r) (.slice A n c) (.string s)
  have e4 := event_put4 hE (.int .i64 k) (.int .i32 r) (.slice A n c) (.string s)
  refine ⟨⟨k, r, A, n, c, s, v', rfl, fun x hx => ?_, ?_, ?_⟩, e4⟩
  · obtain ⟨h1, h2, h3, h4⟩ := ho x hx
    exact ⟨h1, h2, h3, h4.kept fun q e => o4.block q fun e2 => by subst e2; exact (numsTyped h4 q e).apart ⟨_, _, hE⟩ (by decide) rfl⟩
  · exact hR.kept (o4.block g (by omega)) fun q _ ty => o4.block q fun e2 => by subst e2; exact ty.apart ⟨_, _, hE⟩ (by decide) rfl
  · exact hT.trans (Turned.ofOnly o4) fun q hq e => by omega
theorem RAt.put {w : World} {g : Nat} {v : Value} {st : St} (h : RAt w g v st) (st' : St) (hs : signsOf st' = none ∨ signsOf st' = signsOf st) : RAt (w.setCell ⟨g, 0, none⟩ (.int .i64 (placeN st'))) g v st' := by
  have o := OnlyRow.cell g 0 w (.int .i64 (placeN st'))
  have hk : ∀ t, HasR w g v t → HasR (w.setCell ⟨g, 0, none⟩ (.int .i64 (placeN st'))) g v t := fun t h1 => h1.kept fun k e => o.block k fun e2 => by subst e2; exact (h1.typed k e).apart ⟨_, _, h.cells⟩ (by decide) rfl
  refine ⟨heap_setCell_same w g 0 _ _ _ h.cells, let ⟨t, ht⟩ := h.old; ⟨t, hk t ht⟩, fun t ht => ?_⟩
  rcases hs with e | e
  · rw [e] at ht; cases ht
  · rw [e] at ht
    obtain ⟨h1, h2⟩ := h.text t ht
    exact ⟨hk t h1, h2⟩
/-- Behind an escape: the list is new. -/
theorem RAt.begun {w : World} {g : Nat} {v : Value} {st : St} (h : RAt w g v st) (st' : St) (hs : ∀ t, signsOf st' = some t → t = []) : RAt ((w.setCell ⟨g, 1, none⟩ (.slice none 0 0)).setCell ⟨g, 0, none⟩ (.int .i64 (placeN st'))) g (.slice none 0 0) st' := by
  have h1 : RCells (w.setCell ⟨g, 1, none⟩ (.slice none 0 0)) g #[.int .i64 (placeN st), .slice none 0 0] := heap_setCell_same w g 1 _ _ _ h.cells
  refine ⟨heap_setCell_same _ g 0 _ _ _ h1, ⟨[], World.ownsRow_nil _ _ _ _⟩, fun t ht => ?_⟩
  have := hs t ht
  subst this
  exact ⟨World.ownsRow_nil _ _ _ _, fun r h => by cases h⟩
theorem evz_new (w : World) {n : Nat} (hn : w.heap.size = n) : ECells (w.alloc (.cells #[.int .i64 0, .int .i32 0, .slice none 0 0, .string ⟨#[]⟩] 37)) n #[.int .i64 0, .int .i32 0, .slice none 0 0, .string ⟨#[]⟩] := by subst hn; exact heap_alloc_new w _
end Esc
end Go.Proofs.YtibihjcpkdfgeaaGreatDoor
namespace Go.Proofs.YtibihjcpkdfgeaaGreatDoor
open Go.ChangeShapes Go.WideShapes Go.ChangeAt Go.RowKit
namespace Esc

/-- What is told lies in a new block. -/
theorem fin2 {g n0 : Nat} {v v' : Value} {st' : St} {o : Option Ev} {w w1 : World} (hn : w1.heap.size = n0) (hR : RAt w1 g v' st') (hT : Turned (Own g v) w w1)
    (k r : Int) (s : ByteArray) (ho : ∀ x, o = some x → k = x.kind ∧ r = x.r ∧ s = ⟨x.text.toArray⟩ ∧ x.args = []) :
    RPost g v st' o w (.returned (.tuple #[.agg #[.int .i64 k, .int .i32 r, .slice none 0 0, .string s], .bool o.isSome])) (w1.alloc (.cells #[.int .i64 k, .int .i32 r, .slice none 0 0, .string s] 37)) ∧
    ECells (w1.alloc (.cells #[.int .i64 k, .int .i32 r, .slice none 0 0, .string s] 37)) n0 #[.int .i64 k, .int .i32 r, .slice none 0 0, .string s] := by
  have b := (Below.refl w1.heap.size w1).alloc (Nat.le_refl _) (.cells #[.int .i64 k, .int .i32 r, .slice none 0 0, .string s] 37)
  refine ⟨⟨k, r, none, 0, 0, s, v', rfl, fun x hx => ?_, hR.laid b, Turned.laidMore hT b⟩, by subst hn; exact heap_alloc_new w1 _⟩
  obtain ⟨h1, h2, h3, h4⟩ := ho x hx
  exact ⟨h1, h2, h3, by rw [h4]; exact Nums.nothing _ _⟩

set_option maxRecDepth 100000 in
set_option maxHeartbeats 3200000 in
theorem rrest_walk (g : Nat) (A : Option Addr) (n c : Nat) (r : Int) (w : World) (h : RAt w g (.slice A n c) .rest) :
    Calls Tryz.prog 24 #[ptrP g, .int .i32 r] w fun e w' => RPost g (.slice A n c) (stepS .rest r) (stepE .rest r) w e w' := by
  have hgl := h.lt
  have c0 : w.cell? ⟨g, 0, none⟩ = some (.int .i64 0) := cell_of_row _ g 0 _ _ (0, 0) h.cells
  have f0 : w.frozen? ⟨g, 0, none⟩ = false := frozen_of_row _ g 0 _ _ h.cells
  have c1 : w.cell? ⟨g, 1, none⟩ = some (.slice A n c) := cell_of_row _ g 1 _ _ (0, 0) h.cells
  have f1 : w.frozen? ⟨g, 1, none⟩ = false := frozen_of_row _ g 1 _ _ h.cells
  by_cases h8 : r = 8 ∨ r = 9 ∨ r = 10 ∨ r = 13
  · have hs : stepS .rest r = .rest := by simp only [stepS]; rw [if_neg (by omega)]
    have he : stepE .rest r = some ⟨2, r, [], []⟩ := by simp only [stepE]; rw [if_pos h8]
    rw [hs, he]
    have F := Lib.hid (fin2 (o := some ⟨2, r, [], []⟩) rfl h (Turned.refl (Own g (.slice A n c)) w) 2 r ⟨#[]⟩ (fun x hx => by injection hx with hx; subst hx; exact ⟨rfl, rfl, rfl, rfl⟩))
    clear h hs he
    rcases h8 with rfl | rfl | rfl | rfl
    all_goals
      go_enter Tryz.func24, Tryz.ntmps24
      go_wp2
      generalize (w.alloc (.cells #[.int .i64 2, .int .i32 _, (.slice none 0 0), .string ⟨#[]⟩] 37)) = w4 at F ⊢
      have q0 : w4.cell? ⟨w.heap.size, 0, none⟩ = some (.int .i64 2) := cell_of_row _ _ 0 _ _ (0, 0) F.out.2
      have q1 : w4.cell? ⟨w.heap.size, 1, none⟩ = some (.int .i32 _) := cell_of_row _ _ 1 _ _ (0, 0) F.out.2
      have q2 : w4.cell? ⟨w.heap.size, 2, none⟩ = some (.slice none 0 0) := cell_of_row _ _ 2 _ _ (0, 0) F.out.2
      have q3 : w4.cell? ⟨w.heap.size, 3, none⟩ = some (.string ⟨#[]⟩) := cell_of_row _ _ 3 _ _ (0, 0) F.out.2
      exact bodyPost_ret (by simp [results, Tryz.results24, go_sem, q0, q1, q2, q3] <;> rfl) rfl F.out.1
  by_cases h27 : r = 27
  · subst h27
    have o1 := OnlyRow.cell g 0 w (.int .i64 1)
    have R1 := h.put .esc (.inl rfl)
    have hs1 : (w.setCell ⟨g, 0, none⟩ (.int .i64 1)).heap.size = w.heap.size := o1.size
    have F := Lib.hid (fin2 (o := none) hs1 R1 ((Turned.ofOnly o1).mono (fun k _ e => .inl e) : Turned (Own g (.slice A n c)) w _) 0 0 ⟨#[]⟩ (fun x hx => by cases hx))
    have hs : stepS .rest 27 = .esc := rfl
    have he : stepE .rest 27 = none := rfl
    rw [hs, he]
    clear h hs he o1 R1 hs1
    go_enter Tryz.func24, Tryz.ntmps24
    go_wp2
    generalize ((w.setCell ⟨g, 0, none⟩ (.int .i64 1)).alloc (.cells #[.int .i64 0, .int .i32 0, (.slice none 0 0), .string ⟨#[]⟩] 37)) = w4 at F ⊢
    have q0 : w4.cell? ⟨w.heap.size, 0, none⟩ = some (.int .i64 0) := cell_of_row _ _ 0 _ _ (0, 0) F.out.2
    have q1 : w4.cell? ⟨w.heap.size, 1, none⟩ = some (.int .i32 0) := cell_of_row _ _ 1 _ _ (0, 0) F.out.2
    have q2 : w4.cell? ⟨w.heap.size, 2, none⟩ = some (.slice none 0 0) := cell_of_row _ _ 2 _ _ (0, 0) F.out.2
    have q3 : w4.cell? ⟨w.heap.size, 3, none⟩ = some (.string ⟨#[]⟩) := cell_of_row _ _ 3 _ _ (0, 0) F.out.2
    exact bodyPost_ret (by simp [results, Tryz.results24, go_sem, q0, q1, q2, q3] <;> rfl) rfl F.out.1
  have hs : stepS .rest r = .rest := by simp only [stepS]; rw [if_neg h27]
  rw [hs]
  have n8 : (r == 8) = false := by simp; omega
  have n9 : (r == 9) = false := by simp; omega
  have n10 : (r == 10) = false := by simp; omega
  have n13 : (r == 13) = false := by simp; omega
  have n27 : (r == 27) = false := by simp; omega
  by_cases hp : 32 ≤ r ∧ r ≠ 127
  · have he : stepE .rest r = some ⟨1, r, [], []⟩ := by simp only [stepE]; rw [if_neg h8, if_pos hp]
    rw [he]
    have F := Lib.hid (fin2 (o := some ⟨1, r, [], []⟩) rfl h (Turned.refl (Own g (.slice A n c)) w) 1 r ⟨#[]⟩ (fun x hx => by injection hx with hx; subst hx; exact ⟨rfl, rfl, rfl, rfl⟩))
    obtain ⟨h32, h127⟩ := hp
    have n127 : (r == 127) = false := by simp; omega
    have n127' : (r != 127) = true := by simp; omega
    have d32 : decide (32 ≤ r) = true := by simp; omega
    clear h hs he h8
    go_enter Tryz.func24, Tryz.ntmps24
    go_wp2
    generalize (w.alloc (.cells #[.int .i64 1, .int .i32 r, (.slice none 0 0), .string ⟨#[]⟩] 37)) = w4 at F ⊢
    have q0 : w4.cell? ⟨w.heap.size, 0, none⟩ = some (.int .i64 1) := cell_of_row _ _ 0 _ _ (0, 0) F.out.2
    have q1 : w4.cell? ⟨w.heap.size, 1, none⟩ = some (.int .i32 r) := cell_of_row _ _ 1 _ _ (0, 0) F.out.2
    have q2 : w4.cell? ⟨w.heap.size, 2, none⟩ = some (.slice none 0 0) := cell_of_row _ _ 2 _ _ (0, 0) F.out.2
    have q3 : w4.cell? ⟨w.heap.size, 3, none⟩ = some (.string ⟨#[]⟩) := cell_of_row _ _ 3 _ _ (0, 0) F.out.2
    exact bodyPost_ret (by simp [results, Tryz.results24, go_sem, q0, q1, q2, q3] <;> rfl) rfl F.out.1
  · have he : stepE .rest r = none := by simp only [stepE]; rw [if_neg h8, if_neg hp]
    rw [he]
    have F := Lib.hid (fin2 (o := none) rfl h (Turned.refl (Own g (.slice A n c)) w) 0 0 ⟨#[]⟩ (fun x hx => by cases hx))
    clear h hs he h8
    by_cases h32 : 32 ≤ r
    · obtain rfl : r = 127 := by omega
      clear hp
      go_enter Tryz.func24, Tryz.ntmps24
      go_wp2
      generalize (w.alloc (.cells #[.int .i64 0, .int .i32 0, (.slice none 0 0), .string ⟨#[]⟩] 37)) = w4 at F ⊢
      have q0 : w4.cell? ⟨w.heap.size, 0, none⟩ = some (.int .i64 0) := cell_of_row _ _ 0 _ _ (0, 0) F.out.2
      have q1 : w4.cell? ⟨w.heap.size, 1, none⟩ = some (.int .i32 0) := cell_of_row _ _ 1 _ _ (0, 0) F.out.2
      have q2 : w4.cell? ⟨w.heap.size, 2, none⟩ = some (.slice none 0 0) := cell_of_row _ _ 2 _ _ (0, 0) F.out.2
      have q3 : w4.cell? ⟨w.heap.size, 3, none⟩ = some (.string ⟨#[]⟩) := cell_of_row _ _ 3 _ _ (0, 0) F.out.2
      exact bodyPost_ret (by simp [results, Tryz.results24, go_sem, q0, q1, q2, q3] <;> rfl) rfl F.out.1
    · have d32 : decide (32 ≤ r) = false := by simp; omega
      clear hp
      go_enter Tryz.func24, Tryz.ntmps24
      go_wp2
      generalize (w.alloc (.cells #[.int .i64 0, .int .i32 0, (.slice none 0 0), .string ⟨#[]⟩] 37)) = w4 at F ⊢
      have q0 : w4.cell? ⟨w.heap.size, 0, none⟩ = some (.int .i64 0) := cell_of_row _ _ 0 _ _ (0, 0) F.out.2
      have q1 : w4.cell? ⟨w.heap.size, 1, none⟩ = some (.int .i32 0) := cell_of_row _ _ 1 _ _ (0, 0) F.out.2
      have q2 : w4.cell? ⟨w.heap.size, 2, none⟩ = some (.slice none 0 0) := cell_of_row _ _ 2 _ _ (0, 0) F.out.2
      have q3 : w4.cell? ⟨w.heap.size, 3, none⟩ = some (.string ⟨#[]⟩) := cell_of_row _ _ 3 _ _ (0, 0) F.out.2
      exact bodyPost_ret (by simp [results, Tryz.results24, go_sem, q0, q1, q2, q3] <;> rfl) rfl F.out.1
end Esc
end Go.Proofs.YtibihjcpkdfgeaaGreatDoor
namespace Go.Proofs.YtibihjcpkdfgeaaGreatDoor
open Go.ChangeShapes Go.WideShapes Go.ChangeAt Go.RowKit
namespace Esc

theorem begin_signs (r : Int) : ∀ t, signsOf (begin' r) = some t → t = [] := by
  intro t ht
  unfold begin' at ht
  split at ht
  · injection ht with ht; exact ht.symm
  · split at ht
    · injection ht with ht; exact ht.symm
    · split at ht <;> cases ht
set_option maxRecDepth 100000 in
set_option maxHeartbeats 3200000 in
theorem resc_walk (g : Nat) (A : Option Addr) (n c : Nat) (r : Int) (w : World) (h : RAt w g (.slice A n c) .esc) :
    Calls Tryz.prog 24 #[ptrP g, .int .i32 r] w fun e w' => RPost g (.slice A n c) (begin' r) none w e w' := by
  have hgl := h.lt
  have c0 : w.cell? ⟨g, 0, none⟩ = some (.int .i64 1) := cell_of_row _ g 0 _ _ (0, 0) h.cells
  have f0 : w.frozen? ⟨g, 0, none⟩ = false := frozen_of_row _ g 0 _ _ h.cells
  have c1 : w.cell? ⟨g, 1, none⟩ = some (.slice A n c) := cell_of_row _ g 1 _ _ (0, 0) h.cells
  have f1 : w.frozen? ⟨g, 1, none⟩ = false := frozen_of_row _ g 1 _ _ h.cells
  have BS := Lib.hid (begin_signs r)
  by_cases h1 : r = 91
  · subst h1
    have o1 : OnlyRow g w ((w.setCell ⟨g, 1, none⟩ (.slice none 0 0)).setCell ⟨g, 0, none⟩ (.int .i64 2)) := (OnlyRow.cell g 1 w _).trans (OnlyRow.cell g 0 _ _)
    have he : begin' 91 = (.csi []) := rfl
    rw [he] at BS ⊢
    have F := Lib.hid (fin2 (o := none) o1.size (h.begun (.csi []) BS.out) ((Turned.ofOnly o1).mono (fun k _ e => .inl e) : Turned (Own g (.slice A n c)) w _) 0 0 ⟨#[]⟩ (fun x hx => by cases hx))
    clear h he o1 BS
    go_enter Tryz.func24, Tryz.ntmps24
    go_wp2
    generalize (((w.setCell ⟨g, 1, none⟩ (.slice none 0 0)).setCell ⟨g, 0, none⟩ (.int .i64 2)).alloc (.cells #[.int .i64 0, .int .i32 0, (.slice none 0 0), .string ⟨#[]⟩] 37)) = w4 at F ⊢
    have q0 : w4.cell? ⟨w.heap.size, 0, none⟩ = some (.int .i64 0) := cell_of_row _ _ 0 _ _ (0, 0) F.out.2
    have q1 : w4.cell? ⟨w.heap.size, 1, none⟩ = some (.int .i32 0) := cell_of_row _ _ 1 _ _ (0, 0) F.out.2
    have q2 : w4.cell? ⟨w.heap.size, 2, none⟩ = some (.slice none 0 0) := cell_of_row _ _ 2 _ _ (0, 0) F.out.2
    have q3 : w4.cell? ⟨w.heap.size, 3, none⟩ = some (.string ⟨#[]⟩) := cell_of_row _ _ 3 _ _ (0, 0) F.out.2
    exact bodyPost_ret (by simp [results, Tryz.results24, go_sem, q0, q1, q2, q3] <;> rfl) rfl F.out.1
  by_cases h2 : r = 93
  · subst h2
    have o1 : OnlyRow g w ((w.setCell ⟨g, 1, none⟩ (.slice none 0 0)).setCell ⟨g, 0, none⟩ (.int .i64 3)) := (OnlyRow.cell g 1 w _).trans (OnlyRow.cell g 0 _ _)
    have he : begin' 93 = (.osc []) := rfl
    rw [he] at BS ⊢
    have F := Lib.hid (fin2 (o := none) o1.size (h.begun (.osc []) BS.out) ((Turned.ofOnly o1).mono (fun k _ e => .inl e) : Turned (Own g (.slice A n c)) w _) 0 0 ⟨#[]⟩ (fun x hx => by cases hx))
    clear h he o1 BS
    go_enter Tryz.func24, Tryz.ntmps24
    go_wp2
    generalize (((w.setCell ⟨g, 1, none⟩ (.slice none 0 0)).setCell ⟨g, 0, none⟩ (.int .i64 3)).alloc (.cells #[.int .i64 0, .int .i32 0, (.slice none 0 0), .string ⟨#[]⟩] 37)) = w4 at F ⊢
    have q0 : w4.cell? ⟨w.heap.size, 0, none⟩ = some (.int .i64 0) := cell_of_row _ _ 0 _ _ (0, 0) F.out.2
    have q1 : w4.cell? ⟨w.heap.size, 1, none⟩ = some (.int .i32 0) := cell_of_row _ _ 1 _ _ (0, 0) F.out.2
    have q2 : w4.cell? ⟨w.heap.size, 2, none⟩ = some (.slice none 0 0) := cell_of_row _ _ 2 _ _ (0, 0) F.out.2
    have q3 : w4.cell? ⟨w.heap.size, 3, none⟩ = some (.string ⟨#[]⟩) := cell_of_row _ _ 3 _ _ (0, 0) F.out.2
    exact bodyPost_ret (by simp [results, Tryz.results24, go_sem, q0, q1, q2, q3] <;> rfl) rfl F.out.1
  by_cases h3 : r = 27
  · subst h3
    have o1 : OnlyRow g w ((w.setCell ⟨g, 1, none⟩ (.slice none 0 0)).setCell ⟨g, 0, none⟩ (.int .i64 1)) := (OnlyRow.cell g 1 w _).trans (OnlyRow.cell g 0 _ _)
    have he : begin' 27 = .esc := rfl
    rw [he] at BS ⊢
    have F := Lib.hid (fin2 (o := none) o1.size (h.begun .esc BS.out) ((Turned.ofOnly o1).mono (fun k _ e => .inl e) : Turned (Own g (.slice A n c)) w _) 0 0 ⟨#[]⟩ (fun x hx => by cases hx))
    clear h he o1 BS
    go_enter Tryz.func24, Tryz.ntmps24
    go_wp2
    generalize (((w.setCell ⟨g, 1, none⟩ (.slice none 0 0)).setCell ⟨g, 0, none⟩ (.int .i64 1)).alloc (.cells #[.int .i64 0, .int .i32 0, (.slice none 0 0), .string ⟨#[]⟩] 37)) = w4 at F ⊢
    have q0 : w4.cell? ⟨w.heap.size, 0, none⟩ = some (.int .i64 0) := cell_of_row _ _ 0 _ _ (0, 0) F.out.2
    have q1 : w4.cell? ⟨w.heap.size, 1, none⟩ = some (.int .i32 0) := cell_of_row _ _ 1 _ _ (0, 0) F.out.2
    have q2 : w4.cell? ⟨w.heap.size, 2, none⟩ = some (.slice none 0 0) := cell_of_row _ _ 2 _ _ (0, 0) F.out.2
    have q3 : w4.cell? ⟨w.heap.size, 3, none⟩ = some (.string ⟨#[]⟩) := cell_of_row _ _ 3 _ _ (0, 0) F.out.2
    exact bodyPost_ret (by simp [results, Tryz.results24, go_sem, q0, q1, q2, q3] <;> rfl) rfl F.out.1
  have b91 : (r == 91) = false := by simp; omega
  have b93 : (r == 93) = false := by simp; omega
  have b27 : (r == 27) = false := by simp; omega
  · have o1 : OnlyRow g w ((w.setCell ⟨g, 1, none⟩ (.slice none 0 0)).setCell ⟨g, 0, none⟩ (.int .i64 0)) := (OnlyRow.cell g 1 w _).trans (OnlyRow.cell g 0 _ _)
    have he : begin' r = .rest := by unfold begin'; rw [if_neg h1, if_neg h2, if_neg h3]
    rw [he] at BS ⊢
    have F := Lib.hid (fin2 (o := none) o1.size (h.begun .rest BS.out) ((Turned.ofOnly o1).mono (fun k _ e => .inl e) : Turned (Own g (.slice A n c)) w _) 0 0 ⟨#[]⟩ (fun x hx => by cases hx))
    clear h he o1 BS
    go_enter Tryz.func24, Tryz.ntmps24
    go_wp2
    generalize (((w.setCell ⟨g, 1, none⟩ (.slice none 0 0)).setCell ⟨g, 0, none⟩ (.int .i64 0)).alloc (.cells #[.int .i64 0, .int .i32 0, (.slice none 0 0), .string ⟨#[]⟩] 37)) = w4 at F ⊢
    have q0 : w4.cell? ⟨w.heap.size, 0, none⟩ = some (.int .i64 0) := cell_of_row _ _ 0 _ _ (0, 0) F.out.2
    have q1 : w4.cell? ⟨w.heap.size, 1, none⟩ = some (.int .i32 0) := cell_of_row _ _ 1 _ _ (0, 0) F.out.2
    have q2 : w4.cell? ⟨w.heap.size, 2, none⟩ = some (.slice none 0 0) := cell_of_row _ _ 2 _ _ (0, 0) F.out.2
    have q3 : w4.cell? ⟨w.heap.size, 3, none⟩ = some (.string ⟨#[]⟩) := cell_of_row _ _ 3 _ _ (0, 0) F.out.2
    exact bodyPost_ret (by simp [results, Tryz.results24, go_sem, q0, q1, q2, q3] <;> rfl) rfl F.out.1
set_option maxRecDepth 100000 in
set_option maxHeartbeats 3200000 in
theorem roscEsc_walk (g : Nat) (A : Option Addr) (n c : Nat) (t : List Int) (r : Int) (w : World) (h : RAt w g (.slice A n c) (.oscEsc t)) (h92 : r ≠ 92) :
    Calls Tryz.prog 24 #[ptrP g, .int .i32 r] w fun e w' => RPost g (.slice A n c) (begin' r) none w e w' := by
  have hgl := h.lt
  have c0 : w.cell? ⟨g, 0, none⟩ = some (.int .i64 4) := cell_of_row _ g 0 _ _ (0, 0) h.cells
  have f0 : w.frozen? ⟨g, 0, none⟩ = false := frozen_of_row _ g 0 _ _ h.cells
  have c1 : w.cell? ⟨g, 1, none⟩ = some (.slice A n c) := cell_of_row _ g 1 _ _ (0, 0) h.cells
  have f1 : w.frozen? ⟨g, 1, none⟩ = false := frozen_of_row _ g 1 _ _ h.cells
  have BS := Lib.hid (begin_signs r)
  have b92 : (r == 92) = false := by simp; omega
  by_cases h1 : r = 91
  · subst h1
    have o1 : OnlyRow g w ((w.setCell ⟨g, 1, none⟩ (.slice none 0 0)).setCell ⟨g, 0, none⟩ (.int .i64 2)) := (OnlyRow.cell g 1 w _).trans (OnlyRow.cell g 0 _ _)
    have he : begin' 91 = (.csi []) := rfl
    rw [he] at BS ⊢
    have F := Lib.hid (fin2 (o := none) o1.size (h.begun (.csi []) BS.out) ((Turned.ofOnly o1).mono (fun k _ e => .inl e) : Turned (Own g (.slice A n c)) w _) 0 0 ⟨#[]⟩ (fun x hx => by cases hx))
    clear h he o1 BS
    go_enter Tryz.func24, Tryz.ntmps24
    go_wp2
    generalize (((w.setCell ⟨g, 1, none⟩ (.slice none 0 0)).setCell ⟨g, 0, none⟩ (.int .i64 2)).alloc (.cells #[.int .i64 0, .int .i32 0, (.slice none 0 0), .string ⟨#[]⟩] 37)) = w4 at F ⊢
    have q0 : w4.cell? ⟨w.heap.size, 0, none⟩ = some (.int .i64 0) := cell_of_row _ _ 0 _ _ (0, 0) F.out.2
    have q1 : w4.cell? ⟨w.heap.size, 1, none⟩ = some (.int .i32 0) := cell_of_row _ _ 1 _ _ (0, 0) F.out.2
    have q2 : w4.cell? ⟨w.heap.size, 2, none⟩ = some (.slice none 0 0) := cell_of_row _ _ 2 _ _ (0, 0) F.out.2
    have q3 : w4.cell? ⟨w.heap.size, 3, none⟩ = some (.string ⟨#[]⟩) := cell_of_row _ _ 3 _ _ (0, 0) F.out.2
    exact bodyPost_ret (by simp [results, Tryz.results24, go_sem, q0, q1, q2, q3] <;> rfl) rfl F.out.1
  by_cases h2 : r = 93
  · subst h2
    have o1 : OnlyRow g w ((w.setCell ⟨g, 1, none⟩ (.slice none 0 0)).setCell ⟨g, 0, none⟩ (.int .i64 3)) := (OnlyRow.cell g 1 w _).trans (OnlyRow.cell g 0 _ _)
    have he : begin' 93 = (.osc []) := rfl
    rw [he] at BS ⊢
    have F := Lib.hid (fin2 (o := none) o1.size (h.begun (.osc []) BS.out) ((Turned.ofOnly o1).mono (fun k _ e => .inl e) : Turned (Own g (.slice A n c)) w _) 0 0 ⟨#[]⟩ (fun x hx => by cases hx))
    clear h he o1 BS
    go_enter Tryz.func24, Tryz.ntmps24
    go_wp2
    generalize (((w.setCell ⟨g, 1, none⟩ (.slice none 0 0)).setCell ⟨g, 0, none⟩ (.int .i64 3)).alloc (.cells #[.int .i64 0, .int .i32 0, (.slice none 0 0), .string ⟨#[]⟩] 37)) = w4 at F ⊢
    have q0 : w4.cell? ⟨w.heap.size, 0, none⟩ = some (.int .i64 0) := cell_of_row _ _ 0 _ _ (0, 0) F.out.2
    have q1 : w4.cell? ⟨w.heap.size, 1, none⟩ = some (.int .i32 0) := cell_of_row _ _ 1 _ _ (0, 0) F.out.2
    have q2 : w4.cell? ⟨w.heap.size, 2, none⟩ = some (.slice none 0 0) := cell_of_row _ _ 2 _ _ (0, 0) F.out.2
    have q3 : w4.cell? ⟨w.heap.size, 3, none⟩ = some (.string ⟨#[]⟩) := cell_of_row _ _ 3 _ _ (0, 0) F.out.2
    exact bodyPost_ret (by simp [results, Tryz.results24, go_sem, q0, q1, q2, q3] <;> rfl) rfl F.out.1
  by_cases h3 : r = 27
  · subst h3
    have o1 : OnlyRow g w ((w.setCell ⟨g, 1, none⟩ (.slice none 0 0)).setCell ⟨g, 0, none⟩ (.int .i64 1)) := (OnlyRow.cell g 1 w _).trans (OnlyRow.cell g 0 _ _)
    have he : begin' 27 = .esc := rfl
    rw [he] at BS ⊢
    have F := Lib.hid (fin2 (o := none) o1.size (h.begun .esc BS.out) ((Turned.ofOnly o1).mono (fun k _ e => .inl e) : Turned (Own g (.slice A n c)) w _) 0 0 ⟨#[]⟩ (fun x hx => by cases hx))
    clear h he o1 BS
    go_enter Tryz.func24, Tryz.ntmps24
    go_wp2
    generalize (((w.setCell ⟨g, 1, none⟩ (.slice none 0 0)).setCell ⟨g, 0, none⟩ (.int .i64 1)).alloc (.cells #[.int .i64 0, .int .i32 0, (.slice none 0 0), .string ⟨#[]⟩] 37)) = w4 at F ⊢
    have q0 : w4.cell? ⟨w.heap.size, 0, none⟩ = some (.int .i64 0) := cell_of_row _ _ 0 _ _ (0, 0) F.out.2
    have q1 : w4.cell? ⟨w.heap.size, 1, none⟩ = some (.int .i32 0) := cell_of_row _ _ 1 _ _ (0, 0) F.out.2
    have q2 : w4.cell? ⟨w.heap.size, 2, none⟩ = some (.slice none 0 0) := cell_of_row _ _ 2 _ _ (0, 0) F.out.2
    have q3 : w4.cell? ⟨w.heap.size, 3, none⟩ = some (.string ⟨#[]⟩) := cell_of_row _ _ 3 _ _ (0, 0) F.out.2
    exact bodyPost_ret (by simp [results, Tryz.results24, go_sem, q0, q1, q2, q3] <;> rfl) rfl F.out.1
  have b91 : (r == 91) = false := by simp; omega
  have b93 : (r == 93) = false := by simp; omega
  have b27 : (r == 27) = false := by simp; omega
  · have o1 : OnlyRow g w ((w.setCell ⟨g, 1, none⟩ (.slice none 0 0)).setCell ⟨g, 0, none⟩ (.int .i64 0)) := (OnlyRow.cell g 1 w _).trans (OnlyRow.cell g 0 _ _)
    have he : begin' r = .rest := by unfold begin'; rw [if_neg h1, if_neg h2, if_neg h3]
    rw [he] at BS ⊢
    have F := Lib.hid (fin2 (o := none) o1.size (h.begun .rest BS.out) ((Turned.ofOnly o1).mono (fun k _ e => .inl e) : Turned (Own g (.slice A n c)) w _) 0 0 ⟨#[]⟩ (fun x hx => by cases hx))
    clear h he o1 BS
    go_enter Tryz.func24, Tryz.ntmps24
    go_wp2
    generalize (((w.setCell ⟨g, 1, none⟩ (.slice none 0 0)).setCell ⟨g, 0, none⟩ (.int .i64 0)).alloc (.cells #[.int .i64 0, .int .i32 0, (.slice none 0 0), .string ⟨#[]⟩] 37)) = w4 at F ⊢
    have q0 : w4.cell? ⟨w.heap.size, 0, none⟩ = some (.int .i64 0) := cell_of_row _ _ 0 _ _ (0, 0) F.out.2
    have q1 : w4.cell? ⟨w.heap.size, 1, none⟩ = some (.int .i32 0) := cell_of_row _ _ 1 _ _ (0, 0) F.out.2
    have q2 : w4.cell? ⟨w.heap.size, 2, none⟩ = some (.slice none 0 0) := cell_of_row _ _ 2 _ _ (0, 0) F.out.2
    have q3 : w4.cell? ⟨w.heap.size, 3, none⟩ = some (.string ⟨#[]⟩) := cell_of_row _ _ 3 _ _ (0, 0) F.out.2
    exact bodyPost_ret (by simp [results, Tryz.results24, go_sem, q0, q1, q2, q3] <;> rfl) rfl F.out.1
end Esc
end Go.Proofs.YtibihjcpkdfgeaaGreatDoor
namespace Go.Proofs.YtibihjcpkdfgeaaGreatDoor
open Go.ChangeShapes Go.WideShapes Go.ChangeAt Go.RowKit
namespace Esc

theorem infoRune : (Tryz.prog.info? 21).map (fun i => (i.zero, i.size, i.bytes)) = some (some (.int .i32 0), 1, 4) := by kernel_rfl
theorem runes_snoc {t : List Int} {r : Int} (h : Runes t) (hr0 : -2147483648 ≤ r) (hr1 : r ≤ 2147483647) : Runes (t ++ [r]) := by
  intro x hx
  rcases List.mem_append.1 hx with hx | hx
  · exact h x hx
  · rw [List.mem_singleton.1 hx]; exact ⟨hr0, hr1⟩
/-- One sign more behind the others. -/
theorem RAt.more {w w' : World} {g : Nat} {v v' : Value} {st st' : St} {t : List Int} {r : Int} (h : RAt w g v st) (ht : signsOf st = some t) (hp : placeN st' = placeN st) (hs : signsOf st' = some (t ++ [r])) (hr0 : -2147483648 ≤ r) (hr1 : r ≤ 2147483647)
    (hg : w.grownBy w' v.ownBlock) (hv : HasR w' g v' (t ++ [r])) : RAt (w'.setCell ⟨g, 1, none⟩ v') g v' st' ∧ Turned (Own g v) w (w'.setCell ⟨g, 1, none⟩ v') := by
  have hx := h.text t ht
  have hne : v.ownBlock ≠ some g := fun e => (hx.1.typed g e).apart ⟨_, _, h.cells⟩ (by decide) rfl
  have hc : RCells w' g #[.int .i64 (placeN st), v] := (hg.block g h.lt (fun e => hne e.symm)).trans h.cells
  have o := OnlyRow.cell g 1 w' v'
  have hk := hv.kept (w' := w'.setCell ⟨g, 1, none⟩ v') (fun k e => o.block k fun e2 => by subst e2; exact (hv.typed k e).apart ⟨_, _, hc⟩ (by decide) rfl)
  refine ⟨⟨by rw [hp]; exact heap_setCell_same w' g 1 _ _ _ hc, ⟨_, hk⟩, fun t' ht' => ?_⟩, (Turned.ofGrown hg).mono (fun k _ e => .inr e) |>.trans (Turned.ofOnly o) (fun k _ e => .inl e)⟩
  rw [hs] at ht'
  injection ht' with ht'
  subst ht'
  exact ⟨hk, runes_snoc hx.2 hr0 hr1⟩
set_option maxRecDepth 100000 in
set_option maxHeartbeats 3200000 in
theorem rcsi_walk (g : Nat) (A : Option Addr) (n c : Nat) (t : List Int) (r : Int) (w : World) (h : RAt w g (.slice A n c) (.csi t)) (ht : t.length ≤ 1000000) (hr0 : -2147483648 ≤ r) (hr1 : r ≤ 2147483647) :
    Calls Tryz.prog 24 #[ptrP g, .int .i32 r] w fun e w' => RPost g (.slice A n c) (stepS (.csi t) r) (stepE (.csi t) r) w e w' := by
  have hgl := h.lt
  have c0 : w.cell? ⟨g, 0, none⟩ = some (.int .i64 2) := cell_of_row _ g 0 _ _ (0, 0) h.cells
  have f0 : w.frozen? ⟨g, 0, none⟩ = false := frozen_of_row _ g 0 _ _ h.cells
  have c1 : w.cell? ⟨g, 1, none⟩ = some (.slice A n c) := cell_of_row _ g 1 _ _ (0, 0) h.cells
  have f1 : w.frozen? ⟨g, 1, none⟩ = false := frozen_of_row _ g 1 _ _ h.cells
  by_cases h27 : r = 27
  · subst h27
    have o1 := OnlyRow.cell g 0 w (.int .i64 1)
    have R1 := h.put .esc (.inl rfl)
    have F := Lib.hid (fin2 (o := none) o1.size R1 ((Turned.ofOnly o1).mono (fun k _ e => .inl e) : Turned (Own g (.slice A n c)) w _) 0 0 ⟨#[]⟩ (fun x hx => by cases hx))
    have hs : stepS (.csi t) 27 = .esc := rfl
    have he : stepE (.csi t) 27 = none := rfl
    rw [hs, he]
    clear h hs he o1 R1
    go_enter Tryz.func24, Tryz.ntmps24
    go_wp2
    generalize ((w.setCell ⟨g, 0, none⟩ (.int .i64 1)).alloc (.cells #[.int .i64 0, .int .i32 0, (.slice none 0 0), .string ⟨#[]⟩] 37)) = w4 at F ⊢
    have q0 : w4.cell? ⟨w.heap.size, 0, none⟩ = some (.int .i64 0) := cell_of_row _ _ 0 _ _ (0, 0) F.out.2
    have q1 : w4.cell? ⟨w.heap.size, 1, none⟩ = some (.int .i32 0) := cell_of_row _ _ 1 _ _ (0, 0) F.out.2
    have q2 : w4.cell? ⟨w.heap.size, 2, none⟩ = some (.slice none 0 0) := cell_of_row _ _ 2 _ _ (0, 0) F.out.2
    have q3 : w4.cell? ⟨w.heap.size, 3, none⟩ = some (.string ⟨#[]⟩) := cell_of_row _ _ 3 _ _ (0, 0) F.out.2
    exact bodyPost_ret (by simp [results, Tryz.results24, go_sem, q0, q1, q2, q3] <;> rfl) rfl F.out.1
  have b27 : (r == 27) = false := by simp; omega
  by_cases h32 : r < 32
  · have o1 := OnlyRow.cell g 0 w (.int .i64 0)
    have R1 := h.put .rest (.inl rfl)
    have F := Lib.hid (fin2 (o := none) o1.size R1 ((Turned.ofOnly o1).mono (fun k _ e => .inl e) : Turned (Own g (.slice A n c)) w _) 0 0 ⟨#[]⟩ (fun x hx => by cases hx))
    have hs : stepS (.csi t) r = .rest := by simp only [stepS]; rw [if_neg (by omega), if_neg h27, if_pos h32]
    have he : stepE (.csi t) r = none := by simp only [stepE]; rw [if_neg (by omega)]
    rw [hs, he]
    clear h hs he o1 R1
    go_enter Tryz.func24, Tryz.ntmps24
    go_wp2
    generalize ((w.setCell ⟨g, 0, none⟩ (.int .i64 0)).alloc (.cells #[.int .i64 0, .int .i32 0, (.slice none 0 0), .string ⟨#[]⟩] 37)) = w4 at F ⊢
    have q0 : w4.cell? ⟨w.heap.size, 0, none⟩ = some (.int .i64 0) := cell_of_row _ _ 0 _ _ (0, 0) F.out.2
    have q1 : w4.cell? ⟨w.heap.size, 1, none⟩ = some (.int .i32 0) := cell_of_row _ _ 1 _ _ (0, 0) F.out.2
    have q2 : w4.cell? ⟨w.heap.size, 2, none⟩ = some (.slice none 0 0) := cell_of_row _ _ 2 _ _ (0, 0) F.out.2
    have q3 : w4.cell? ⟨w.heap.size, 3, none⟩ = some (.string ⟨#[]⟩) := cell_of_row _ _ 3 _ _ (0, 0) F.out.2
    exact bodyPost_ret (by simp [results, Tryz.results24, go_sem, q0, q1, q2, q3] <;> rfl) rfl F.out.1
  obtain ⟨hx, hru⟩ := h.text t rfl
  have hnt : t.length = n := by
    obtain ⟨A', c', e⟩ := HasR.shape hx
    injection e with _ e _
    exact e.symm
  by_cases h64 : 64 ≤ r ∧ r ≤ 126
  · have hs : stepS (.csi t) r = .rest := by simp only [stepS]; rw [if_pos h64]
    have he : stepE (.csi t) r = csiEv t r := by simp only [stepE]; rw [if_pos h64]
    rw [hs, he]
    obtain ⟨ha, hb⟩ := h64
    have o1 := OnlyRow.cell g 0 w (.int .i64 0)
    have R1 := Lib.hid (h.put .rest (.inl rfl))
    have X1 := Lib.hid (hx.kept (w' := w.setCell ⟨g, 0, none⟩ (.int .i64 0)) (fun k e => o1.block k fun e2 => by subst e2; exact (hx.typed k e).apart ⟨_, _, h.cells⟩ (by decide) rfl))
    have T1 := Lib.hid (show Turned (Own g (.slice A n c)) w (w.setCell ⟨g, 0, none⟩ (.int .i64 0)) from (Turned.ofOnly o1).mono (fun k _ e => .inl e))
    have S1 := Lib.hid (show (w.setCell ⟨g, 0, none⟩ (.int .i64 0)).heap.size = w.heap.size from o1.size)
    have HGL := Lib.hid hgl
    clear h hs he hx hru o1
    go_enter Tryz.func24, Tryz.ntmps24
    go_wp2_with fail
    obtain ⟨g1, hg1⟩ : ∃ g1, w.heap.size = g1 := ⟨_, rfl⟩
    have HG1 := Lib.hid hg1
    rw [hg1] at S1 ⊢
    have R1' := Lib.hid (show RAt (w.setCell ⟨g, 0, none⟩ (.int .i64 0)) g (.slice A n c) .rest from R1.out)
    clear R1
    generalize w.setCell ⟨g, 0, none⟩ (.int .i64 0) = w1 at R1' X1 T1 S1 ⊢
    have b2 := (Below.refl w1.heap.size w1).alloc (Nat.le_refl _) (.cells #[.int .i64 0, .int .i32 0, .slice none 0 0, .string ⟨#[]⟩] 37)
    have R2 := Lib.hid (R1'.out.laid b2)
    have E2 := Lib.hid (evz_new w1 S1.out)
    have X2 := Lib.hid (X1.out.kept (w' := w1.alloc (.cells #[.int .i64 0, .int .i32 0, .slice none 0 0, .string ⟨#[]⟩] 37)) (fun k e => b2.block k (X1.out.lt k e).2))
    have T2 := Lib.hid (Turned.laidMore T1.out b2)
    clear b2 c0 f0 c1 f1 hg1 R1' X1 T1
    generalize w1.alloc (.cells #[.int .i64 0, .int .i32 0, .slice none 0 0, .string ⟨#[]⟩] 37) = w2 at R2 E2 X2 T2 ⊢
    refine (numbers_walk A n c t w2 (by omega) (HasR.sq X2.out)).mono ?_
    rintro e w3 ⟨va, rfl, hnum, ⟨A5, n5, c5, rfl⟩, b3⟩
    have E3 := Lib.hid (show ECells w3 g1 #[.int .i64 0, .int .i32 0, .slice none 0 0, .string ⟨#[]⟩] from (b3.block g1 (Array.getElem?_eq_some_iff.1 E2.out).1).trans E2.out)
    have T3 := Lib.hid (Turned.laidMore T2.out b3)
    have F := Lib.hid (fin (o := csiEv t r) E3.out (Nat.le_of_eq HG1.out) HGL.out (R2.out.laid b3) T3.out 3 r A5 n5 c5 ⟨#[]⟩ (fun x hx => by
      unfold csiEv at hx
      split at hx
      · cases hx
      · rename_i hbd
        injection hx with hx
        subst hx
        exact ⟨rfl, rfl, rfl, (hnum (by simpa using hbd)).base T2.out.size⟩))
    have CS := Lib.hid (show (csiEv t r).isSome = (!bad t) by unfold csiEv; cases bad t <;> rfl)
    have e0 : w3.cell? ⟨g1, 0, none⟩ = some (.int .i64 0) := cell_of_row _ g1 0 _ _ (0, 0) E3.out
    have e1 : w3.cell? ⟨g1, 1, none⟩ = some (.int .i32 0) := cell_of_row _ g1 1 _ _ (0, 0) E3.out
    have e2 : w3.cell? ⟨g1, 2, none⟩ = some (.slice none 0 0) := cell_of_row _ g1 2 _ _ (0, 0) E3.out
    have e3 : w3.cell? ⟨g1, 3, none⟩ = some (.string ⟨#[]⟩) := cell_of_row _ g1 3 _ _ (0, 0) E3.out
    have y0 := frozen_of_row _ g1 0 _ _ E3.out
    have y1 := frozen_of_row _ g1 1 _ _ E3.out
    have y2 := frozen_of_row _ g1 2 _ _ E3.out
    have y3 := frozen_of_row _ g1 3 _ _ E3.out
    rw [CS.out] at F
    clear hnum b3 R2 E2 X2 T2 T3 E3 CS
    go_wp2
    generalize ((((w3.setCell ⟨g1, 0, none⟩ (.int .i64 3)).setCell ⟨g1, 1, none⟩ (.int .i32 r)).setCell ⟨g1, 2, none⟩ (.slice A5 n5 c5)).setCell ⟨g1, 3, none⟩ (.string ⟨#[]⟩)) = w4 at F ⊢
    have q0 : w4.cell? ⟨g1, 0, none⟩ = some (.int .i64 3) := cell_of_row _ _ 0 _ _ (0, 0) F.out.2
    have q1 : w4.cell? ⟨g1, 1, none⟩ = some (.int .i32 r) := cell_of_row _ _ 1 _ _ (0, 0) F.out.2
    have q2 : w4.cell? ⟨g1, 2, none⟩ = some (.slice A5 n5 c5) := cell_of_row _ _ 2 _ _ (0, 0) F.out.2
    have q3 : w4.cell? ⟨g1, 3, none⟩ = some (.string ⟨#[]⟩) := cell_of_row _ _ 3 _ _ (0, 0) F.out.2
    exact bodyPost_ret (by simp [results, Tryz.results24, go_sem, q0, q1, q2, q3] <;> rfl) rfl F.out.1
  · have hs : stepS (.csi t) r = .csi (t ++ [r]) := by simp only [stepS]; rw [if_neg h64, if_neg h27, if_neg h32]
    have he : stepE (.csi t) r = none := by simp only [stepE]; rw [if_neg h64]
    rw [hs, he]
    have d32 : decide (r < 32) = false := by simp; omega
    rcases (show (64 ≤ r ∧ ¬ r ≤ 126) ∨ ¬ 64 ≤ r by omega) with ⟨ha, hb⟩ | ha
    all_goals
      obtain ⟨iR, hiR, rz0, rz1, rz2⟩ := info_parts infoRune
      have bz := (Below.refl w.heap.size w).alloc (Nat.le_refl _) (.cells #[.int .i64 0, .int .i32 0, .slice none 0 0, .string ⟨#[]⟩] 37)
      have hz1 : (w.alloc (.cells #[.int .i64 0, .int .i32 0, .slice none 0 0, .string ⟨#[]⟩] 37)).heap.size = w.heap.size + 1 := by simp
      have ez := evz_new w rfl
      obtain ⟨wz, hwz⟩ : ∃ wz, w.alloc (.cells #[.int .i64 0, .int .i32 0, .slice none 0 0, .string ⟨#[]⟩] 37) = wz := ⟨_, rfl⟩
      rw [hwz] at bz hz1 ez
      have br := (Below.refl wz.heap.size wz).alloc (Nat.le_refl _) (.cells #[.int .i32 r] 21)
      have RZ := (h.laid bz).laid br
      have ER := Lib.hid (show ECells (wz.alloc (.cells #[.int .i32 r] 21)) w.heap.size #[.int .i64 0, .int .i32 0, .slice none 0 0, .string ⟨#[]⟩] from (br.block w.heap.size (Array.getElem?_eq_some_iff.1 ez).1).trans ez)
      have OWN := Lib.hid (show (wz.alloc (.cells #[.int .i32 r] 21)).ownsRow g 21 1 (.slice A n c) n (t.map (Value.int .i32)) by
        have h := (RZ.text t rfl).1
        unfold HasR at h
        rw [hnt] at h
        exact h)
      have SQ := Lib.hid (show Sq (wz.alloc (.cells #[.int .i32 r] 21)) (wz.alloc (.cells #[.int .i32 r] 21)).heap.size 1 1 (some ⟨w.heap.size + 1, 0, none⟩) ([r].map (Value.int .i32)) from ⟨rfl, fun _ => ⟨w.heap.size + 1, 0, rfl, by simp [hz1], fun j u hu => by
        rw [← hz1, cell_of_row _ wz.heap.size _ _ _ (0, 0) (heap_alloc_new wz _), Nat.zero_add]
        simpa using hu⟩⟩)
      have TR := Lib.hid (show Turned (Own g (.slice A n c)) w (wz.alloc (.cells #[.int .i32 r] 21)) from Turned.laidMore (Turned.ofBelow bz _) br)
      have RZ' := Lib.hid RZ
      have HGL := Lib.hid hgl
      have hne : w.heap.size ≠ g := by omega
      have hgs : g ≤ (wz.alloc (.cells #[.int .i32 r] 21)).heap.size := by simp [hz1]; omega
      have HWZ := Lib.hid hwz
      clear bz br ez RZ hwz h hx hru hs he h64 h27 h32
      go_enter Tryz.func24, Tryz.ntmps24
      go_wp2_with (
        at_builtin
        rw [HWZ.out]
        refine wpl_app rfl (.tmp 86) (.tmp 88) 22 rfl g 21 iR (.int .i32 0) 1 4 Tryz.underlying22 hiR rz0 rz1 rz2 rfl (by omega) (.slice A n c) n (t.map (Value.int .i32)) rfl OWN.out (some ⟨w.heap.size + 1, 0, none⟩) 1 1 ([r].map (Value.int .i32)) rfl (wz.alloc (.cells #[.int .i32 r] 21)).heap.size SQ.out (by intro u hu; simp at hu; subst hu; rfl) (by unfold maxLen; omega) (by omega) hgs ?_
        intro v7 w7 h7 g7 _
        have HV := Lib.hid (show HasR w7 g v7 (t ++ [r]) by
          unfold HasR
          rw [List.map_append, List.length_append, hnt]
          exact h7)
        have RM := Lib.hid (RZ'.out.more (st' := (.csi (t ++ [r]))) (t := t) rfl rfl rfl hr0 hr1 g7 HV.out)
        have C7 := Lib.hid (show RCells w7 g #[.int .i64 (placeN (.csi t)), .slice A n c] from (g7.block g RZ'.out.lt (fun e => ((RZ'.out.text t rfl).1.typed g e.symm).apart ⟨_, _, RZ'.out.cells⟩ (by decide) rfl)).trans RZ'.out.cells)
        have E7 := Lib.hid (show ECells w7 w.heap.size #[.int .i64 0, .int .i32 0, .slice none 0 0, .string ⟨#[]⟩] from (g7.block w.heap.size (Array.getElem?_eq_some_iff.1 ER.out).1 (fun e => ((RZ'.out.text t rfl).1.typed _ e.symm).apart ⟨_, _, ER.out⟩ (by decide) rfl)).trans ER.out)
        obtain ⟨A7, c7, rfl⟩ := HasR.shape HV.out
        obtain ⟨n7, hn7⟩ : ∃ n7, (t ++ [r]).length = n7 := ⟨_, rfl⟩
        rw [hn7] at HV RM ⊢
        have E8 := Lib.hid (show ECells (w7.setCell ⟨g, 1, none⟩ (.slice A7 n7 c7)) w.heap.size #[.int .i64 0, .int .i32 0, .slice none 0 0, .string ⟨#[]⟩] from ((OnlyRow.cell g 1 w7 _).block w.heap.size hne).trans E7.out)
        have F := Lib.hid (fin (o := none) E8.out (Nat.le_refl _) HGL.out RM.out.1 (TR.out.trans RM.out.2 (fun k _ e => e)) 0 0 none 0 0 ⟨#[]⟩ (fun x hx => by cases hx))
        have k1 : w7.cell? ⟨g, 1, none⟩ = some (.slice A n c) := cell_of_row _ g 1 _ _ (0, 0) C7.out
        have kf1 : w7.frozen? ⟨g, 1, none⟩ = false := frozen_of_row _ g 1 _ _ C7.out
        have e0 : w7.cell? ⟨w.heap.size, 0, none⟩ = some (.int .i64 0) := cell_of_row _ w.heap.size 0 _ _ (0, 0) E7.out
        have e1 : w7.cell? ⟨w.heap.size, 1, none⟩ = some (.int .i32 0) := cell_of_row _ w.heap.size 1 _ _ (0, 0) E7.out
        have e2 : w7.cell? ⟨w.heap.size, 2, none⟩ = some (.slice none 0 0) := cell_of_row _ w.heap.size 2 _ _ (0, 0) E7.out
        have e3 : w7.cell? ⟨w.heap.size, 3, none⟩ = some (.string ⟨#[]⟩) := cell_of_row _ w.heap.size 3 _ _ (0, 0) E7.out
        have y0 := frozen_of_row _ w.heap.size 0 _ _ E7.out
        have y1 := frozen_of_row _ w.heap.size 1 _ _ E7.out
        have y2 := frozen_of_row _ w.heap.size 2 _ _ E7.out
        have y3 := frozen_of_row _ w.heap.size 3 _ _ E7.out
        clear h7 g7 OWN SQ RM HV RZ' C7 E7 E8 ER TR hn7)
      generalize (((((w7.setCell ⟨g, 1, none⟩ (.slice A7 n7 c7)).setCell ⟨w.heap.size, 0, none⟩ (.int .i64 0)).setCell ⟨w.heap.size, 1, none⟩ (.int .i32 0)).setCell ⟨w.heap.size, 2, none⟩ (.slice none 0 0)).setCell ⟨w.heap.size, 3, none⟩ (.string ⟨#[]⟩)) = w4 at F ⊢
      have q0 : w4.cell? ⟨w.heap.size, 0, none⟩ = some (.int .i64 0) := cell_of_row _ _ 0 _ _ (0, 0) F.out.2
      have q1 : w4.cell? ⟨w.heap.size, 1, none⟩ = some (.int .i32 0) := cell_of_row _ _ 1 _ _ (0, 0) F.out.2
      have q2 : w4.cell? ⟨w.heap.size, 2, none⟩ = some (.slice none 0 0) := cell_of_row _ _ 2 _ _ (0, 0) F.out.2
      have q3 : w4.cell? ⟨w.heap.size, 3, none⟩ = some (.string ⟨#[]⟩) := cell_of_row _ _ 3 _ _ (0, 0) F.out.2
      exact bodyPost_ret (by simp [results, Tryz.results24, go_sem, q0, q1, q2, q3] <;> rfl) rfl F.out.1
end Esc
end Go.Proofs.YtibihjcpkdfgeaaGreatDoor
namespace Go.Proofs.YtibihjcpkdfgeaaGreatDoor
open Go.ChangeShapes Go.WideShapes Go.ChangeAt Go.RowKit
namespace Esc

set_option maxRecDepth 100000 in
set_option maxHeartbeats 3200000 in
theorem rosc_walk (g : Nat) (A : Option Addr) (n c : Nat) (t : List Int) (r : Int) (w : World) (h : RAt w g (.slice A n c) (.osc t)) (ht : t.length ≤ 1000000) (hr0 : -2147483648 ≤ r) (hr1 : r ≤ 2147483647) :
    Calls Tryz.prog 24 #[ptrP g, .int .i32 r] w fun e w' => RPost g (.slice A n c) (stepS (.osc t) r) (stepE (.osc t) r) w e w' := by
  have hgl := h.lt
  have c0 : w.cell? ⟨g, 0, none⟩ = some (.int .i64 3) := cell_of_row _ g 0 _ _ (0, 0) h.cells
  have f0 : w.frozen? ⟨g, 0, none⟩ = false := frozen_of_row _ g 0 _ _ h.cells
  have c1 : w.cell? ⟨g, 1, none⟩ = some (.slice A n c) := cell_of_row _ g 1 _ _ (0, 0) h.cells
  have f1 : w.frozen? ⟨g, 1, none⟩ = false := frozen_of_row _ g 1 _ _ h.cells
  by_cases h7 : r = 7
  · subst h7
    have hs : stepS (.osc t) 7 = .rest := rfl
    have he : stepE (.osc t) 7 = oscEv t := rfl
    rw [hs, he]
    have bz := (Below.refl w.heap.size w).alloc (Nat.le_refl _) (.cells #[.int .i64 0, .int .i32 0, .slice none 0 0, .string ⟨#[]⟩] 37)
    have RZ := Lib.hid (h.laid bz)
    have EZ := Lib.hid (evz_new w rfl)
    have BZ := Lib.hid bz
    have HGL := Lib.hid hgl
    have hne : w.heap.size ≠ g := by omega
    clear bz h hs he
    go_enter Tryz.func24, Tryz.ntmps24
    go_wp2_with fail
    obtain ⟨g1, hg1⟩ : ∃ g1, w.heap.size = g1 := ⟨_, rfl⟩
    have HG1 := Lib.hid hg1
    have BZ' := Lib.hid (show Below w.heap.size w (w.alloc (.cells #[.int .i64 0, .int .i32 0, .slice none 0 0, .string ⟨#[]⟩] 37)) from BZ.out)
    clear BZ c0 f0 c1 f1
    rw [hg1] at EZ hne ⊢
    generalize w.alloc (.cells #[.int .i64 0, .int .i32 0, .slice none 0 0, .string ⟨#[]⟩] 37) = w2 at RZ EZ BZ' ⊢
    refine (refOsc_walk g (.slice A n c) (.osc t) t w2 rfl ⟨_, rfl⟩ RZ.out ht).mono ?_
    rintro e w3 ⟨kk, rr, A5, n5, c5, ss, v5, rfl, hnum, R3, t3⟩
    have E3 := Lib.hid (show ECells w3 g1 #[.int .i64 0, .int .i32 0, .slice none 0 0, .string ⟨#[]⟩] from (t3.block g1 (Array.getElem?_eq_some_iff.1 EZ.out).1 (by
      rintro (e | e)
      · exact hne e
      · exact ((RZ.out.text t rfl).1.typed _ e).apart ⟨_, _, EZ.out⟩ (by decide) rfl)).trans EZ.out)
    have F := Lib.hid (fin (o := oscEv t) E3.out (Nat.le_of_eq HG1.out) HGL.out R3 ((Turned.ofBelow BZ'.out (Own g (.slice A n c))).trans t3 (fun k _ e => e)) kk rr A5 n5 c5 ss (fun x hx => by
      obtain ⟨h1, h2, h3, h4⟩ := hnum x hx
      exact ⟨h1, h2, h3, h4.base BZ'.out.size⟩))
    have e0 : w3.cell? ⟨g1, 0, none⟩ = some (.int .i64 0) := cell_of_row _ g1 0 _ _ (0, 0) E3.out
    have e1 : w3.cell? ⟨g1, 1, none⟩ = some (.int .i32 0) := cell_of_row _ g1 1 _ _ (0, 0) E3.out
    have e2 : w3.cell? ⟨g1, 2, none⟩ = some (.slice none 0 0) := cell_of_row _ g1 2 _ _ (0, 0) E3.out
    have e3 : w3.cell? ⟨g1, 3, none⟩ = some (.string ⟨#[]⟩) := cell_of_row _ g1 3 _ _ (0, 0) E3.out
    have y0 := frozen_of_row _ g1 0 _ _ E3.out
    have y1 := frozen_of_row _ g1 1 _ _ E3.out
    have y2 := frozen_of_row _ g1 2 _ _ E3.out
    have y3 := frozen_of_row _ g1 3 _ _ E3.out
    clear hnum R3 t3 E3 RZ EZ BZ'
    go_wp2
    generalize ((((w3.setCell ⟨g1, 0, none⟩ (.int .i64 kk)).setCell ⟨g1, 1, none⟩ (.int .i32 rr)).setCell ⟨g1, 2, none⟩ (.slice A5 n5 c5)).setCell ⟨g1, 3, none⟩ (.string ss)) = w4 at F ⊢
    have q0 : w4.cell? ⟨g1, 0, none⟩ = some (.int .i64 kk) := cell_of_row _ _ 0 _ _ (0, 0) F.out.2
    have q1 : w4.cell? ⟨g1, 1, none⟩ = some (.int .i32 rr) := cell_of_row _ _ 1 _ _ (0, 0) F.out.2
    have q2 : w4.cell? ⟨g1, 2, none⟩ = some (.slice A5 n5 c5) := cell_of_row _ _ 2 _ _ (0, 0) F.out.2
    have q3 : w4.cell? ⟨g1, 3, none⟩ = some (.string ss) := cell_of_row _ _ 3 _ _ (0, 0) F.out.2
    exact bodyPost_ret (by simp [results, Tryz.results24, go_sem, q0, q1, q2, q3] <;> rfl) rfl F.out.1
  have b7 : (r == 7) = false := by simp; omega
  have he : stepE (.osc t) r = none := by simp only [stepE]; rw [if_neg h7]
  rw [he]
  by_cases h27 : r = 27
  · subst h27
    have hs : stepS (.osc t) 27 = .oscEsc t := rfl
    rw [hs]
    have o1 := OnlyRow.cell g 0 w (.int .i64 4)
    have R1 := h.put (.oscEsc t) (.inr rfl)
    have F := Lib.hid (fin2 (o := none) o1.size R1 ((Turned.ofOnly o1).mono (fun k _ e => .inl e) : Turned (Own g (.slice A n c)) w _) 0 0 ⟨#[]⟩ (fun x hx => by cases hx))
    clear h hs he o1 R1
    go_enter Tryz.func24, Tryz.ntmps24
    go_wp2
    generalize ((w.setCell ⟨g, 0, none⟩ (.int .i64 4)).alloc (.cells #[.int .i64 0, .int .i32 0, (.slice none 0 0), .string ⟨#[]⟩] 37)) = w4 at F ⊢
    have q0 : w4.cell? ⟨w.heap.size, 0, none⟩ = some (.int .i64 0) := cell_of_row _ _ 0 _ _ (0, 0) F.out.2
    have q1 : w4.cell? ⟨w.heap.size, 1, none⟩ = some (.int .i32 0) := cell_of_row _ _ 1 _ _ (0, 0) F.out.2
    have q2 : w4.cell? ⟨w.heap.size, 2, none⟩ = some (.slice none 0 0) := cell_of_row _ _ 2 _ _ (0, 0) F.out.2
    have q3 : w4.cell? ⟨w.heap.size, 3, none⟩ = some (.string ⟨#[]⟩) := cell_of_row _ _ 3 _ _ (0, 0) F.out.2
    exact bodyPost_ret (by simp [results, Tryz.results24, go_sem, q0, q1, q2, q3] <;> rfl) rfl F.out.1
  · have hs : stepS (.osc t) r = .osc (t ++ [r]) := by simp only [stepS]; rw [if_neg h7, if_neg h27]
    rw [hs]
    have b27 : (r == 27) = false := by simp; omega
    obtain ⟨hx, hru⟩ := h.text t rfl
    have hnt : t.length = n := by
      obtain ⟨A', c', e⟩ := HasR.shape hx
      injection e with _ e _
      exact e.symm
    obtain ⟨iR, hiR, rz0, rz1, rz2⟩ := info_parts infoRune
    have bz := (Below.refl w.heap.size w).alloc (Nat.le_refl _) (.cells #[.int .i64 0, .int .i32 0, .slice none 0 0, .string ⟨#[]⟩] 37)
    have hz1 : (w.alloc (.cells #[.int .i64 0, .int .i32 0, .slice none 0 0, .string ⟨#[]⟩] 37)).heap.size = w.heap.size + 1 := by simp
    have ez := evz_new w rfl
    obtain ⟨wz, hwz⟩ : ∃ wz, w.alloc (.cells #[.int .i64 0, .int .i32 0, .slice none 0 0, .string ⟨#[]⟩] 37) = wz := ⟨_, rfl⟩
    rw [hwz] at bz hz1 ez
    have br := (Below.refl wz.heap.size wz).alloc (Nat.le_refl _) (.cells #[.int .i32 r] 21)
    have RZ := (h.laid bz).laid br
    have ER := Lib.hid (show ECells (wz.alloc (.cells #[.int .i32 r] 21)) w.heap.size #[.int .i64 0, .int .i32 0, .slice none 0 0, .string ⟨#[]⟩] from (br.block w.heap.size (Array.getElem?_eq_some_iff.1 ez).1).trans ez)
    have OWN := Lib.hid (show (wz.alloc (.cells #[.int .i32 r] 21)).ownsRow g 21 1 (.slice A n c) n (t.map (Value.int .i32)) by
      have h := (RZ.text t rfl).1
      unfold HasR at h
      rw [hnt] at h
      exact h)
    have SQ := Lib.hid (show Sq (wz.alloc (.cells #[.int .i32 r] 21)) (wz.alloc (.cells #[.int .i32 r] 21)).heap.size 1 1 (some ⟨w.heap.size + 1, 0, none⟩) ([r].map (Value.int .i32)) from ⟨rfl, fun _ => ⟨w.heap.size + 1, 0, rfl, by simp [hz1], fun j u hu => by
      rw [← hz1, cell_of_row _ wz.heap.size _ _ _ (0, 0) (heap_alloc_new wz _), Nat.zero_add]
      simpa using hu⟩⟩)
    have TR := Lib.hid (show Turned (Own g (.slice A n c)) w (wz.alloc (.cells #[.int .i32 r] 21)) from Turned.laidMore (Turned.ofBelow bz _) br)
    have RZ' := Lib.hid RZ
    have HGL := Lib.hid hgl
    have hne : w.heap.size ≠ g := by omega
    have hgs : g ≤ (wz.alloc (.cells #[.int .i32 r] 21)).heap.size := by simp [hz1]; omega
    have HWZ := Lib.hid hwz
    clear bz br ez RZ hwz h hx hru hs he h7 h27
    go_enter Tryz.func24, Tryz.ntmps24
    go_wp2_with (
      at_builtin
      rw [HWZ.out]
      refine wpl_app rfl (.tmp 133) (.tmp 135) 22 rfl g 21 iR (.int .i32 0) 1 4 Tryz.underlying22 hiR rz0 rz1 rz2 rfl (by omega) (.slice A n c) n (t.map (Value.int .i32)) rfl OWN.out (some ⟨w.heap.size + 1, 0, none⟩) 1 1 ([r].map (Value.int .i32)) rfl (wz.alloc (.cells #[.int .i32 r] 21)).heap.size SQ.out (by intro u hu; simp at hu; subst hu; rfl) (by unfold maxLen; omega) (by omega) hgs ?_
      intro v7 w7 h7 g7 _
      have HV := Lib.hid (show HasR w7 g v7 (t ++ [r]) by
        unfold HasR
        rw [List.map_append, List.length_append, hnt]
        exact h7)
      have RM := Lib.hid (RZ'.out.more (st' := (.osc (t ++ [r]))) (t := t) rfl rfl rfl hr0 hr1 g7 HV.out)
      have C7 := Lib.hid (show RCells w7 g #[.int .i64 (placeN (.osc t)), .slice A n c] from (g7.block g RZ'.out.lt (fun e => ((RZ'.out.text t rfl).1.typed g e.symm).apart ⟨_, _, RZ'.out.cells⟩ (by decide) rfl)).trans RZ'.out.cells)
      have E7 := Lib.hid (show ECells w7 w.heap.size #[.int .i64 0, .int .i32 0, .slice none 0 0, .string ⟨#[]⟩] from (g7.block w.heap.size (Array.getElem?_eq_some_iff.1 ER.out).1 (fun e => ((RZ'.out.text t rfl).1.typed _ e.symm).apart ⟨_, _, ER.out⟩ (by decide) rfl)).trans ER.out)
      obtain ⟨A7, c7, rfl⟩ := HasR.shape HV.out
      obtain ⟨n7, hn7⟩ : ∃ n7, (t ++ [r]).length = n7 := ⟨_, rfl⟩
      rw [hn7] at HV RM ⊢
      have E8 := Lib.hid (show ECells (w7.setCell ⟨g, 1, none⟩ (.slice A7 n7 c7)) w.heap.size #[.int .i64 0, .int .i32 0, .slice none 0 0, .string ⟨#[]⟩] from ((OnlyRow.cell g 1 w7 _).block w.heap.size hne).trans E7.out)
      have F := Lib.hid (fin (o := none) E8.out (Nat.le_refl _) HGL.out RM.out.1 (TR.out.trans RM.out.2 (fun k _ e => e)) 0 0 none 0 0 ⟨#[]⟩ (fun x hx => by cases hx))
      have k1 : w7.cell? ⟨g, 1, none⟩ = some (.slice A n c) := cell_of_row _ g 1 _ _ (0, 0) C7.out
      have kf1 : w7.frozen? ⟨g, 1, none⟩ = false := frozen_of_row _ g 1 _ _ C7.out
      have e0 : w7.cell? ⟨w.heap.size, 0, none⟩ = some (.int .i64 0) := cell_of_row _ w.heap.size 0 _ _ (0, 0) E7.out
      have e1 : w7.cell? ⟨w.heap.size, 1, none⟩ = some (.int .i32 0) := cell_of_row _ w.heap.size 1 _ _ (0, 0) E7.out
      have e2 : w7.cell? ⟨w.heap.size, 2, none⟩ = some (.slice none 0 0) := cell_of_row _ w.heap.size 2 _ _ (0, 0) E7.out
      have e3 : w7.cell? ⟨w.heap.size, 3, none⟩ = some (.string ⟨#[]⟩) := cell_of_row _ w.heap.size 3 _ _ (0, 0) E7.out
      have y0 := frozen_of_row _ w.heap.size 0 _ _ E7.out
      have y1 := frozen_of_row _ w.heap.size 1 _ _ E7.out
      have y2 := frozen_of_row _ w.heap.size 2 _ _ E7.out
      have y3 := frozen_of_row _ w.heap.size 3 _ _ E7.out
      clear h7 g7 OWN SQ RM HV RZ' C7 E7 E8 ER TR hn7)
    generalize (((((w7.setCell ⟨g, 1, none⟩ (.slice A7 n7 c7)).setCell ⟨w.heap.size, 0, none⟩ (.int .i64 0)).setCell ⟨w.heap.size, 1, none⟩ (.int .i32 0)).setCell ⟨w.heap.size, 2, none⟩ (.slice none 0 0)).setCell ⟨w.heap.size, 3, none⟩ (.string ⟨#[]⟩)) = w4 at F ⊢
    have q0 : w4.cell? ⟨w.heap.size, 0, none⟩ = some (.int .i64 0) := cell_of_row _ _ 0 _ _ (0, 0) F.out.2
    have q1 : w4.cell? ⟨w.heap.size, 1, none⟩ = some (.int .i32 0) := cell_of_row _ _ 1 _ _ (0, 0) F.out.2
    have q2 : w4.cell? ⟨w.heap.size, 2, none⟩ = some (.slice none 0 0) := cell_of_row _ _ 2 _ _ (0, 0) F.out.2
    have q3 : w4.cell? ⟨w.heap.size, 3, none⟩ = some (.string ⟨#[]⟩) := cell_of_row _ _ 3 _ _ (0, 0) F.out.2
    exact bodyPost_ret (by simp [results, Tryz.results24, go_sem, q0, q1, q2, q3] <;> rfl) rfl F.out.1
set_option maxRecDepth 100000 in
set_option maxHeartbeats 3200000 in
theorem roscEnd_walk (g : Nat) (A : Option Addr) (n c : Nat) (t : List Int) (w : World) (h : RAt w g (.slice A n c) (.oscEsc t)) (ht : t.length ≤ 1000000) :
    Calls Tryz.prog 24 #[ptrP g, .int .i32 92] w fun e w' => RPost g (.slice A n c) .rest (oscEv t) w e w' := by
  have hgl := h.lt
  have c0 : w.cell? ⟨g, 0, none⟩ = some (.int .i64 4) := cell_of_row _ g 0 _ _ (0, 0) h.cells
  have f0 : w.frozen? ⟨g, 0, none⟩ = false := frozen_of_row _ g 0 _ _ h.cells
  have c1 : w.cell? ⟨g, 1, none⟩ = some (.slice A n c) := cell_of_row _ g 1 _ _ (0, 0) h.cells
  have f1 : w.frozen? ⟨g, 1, none⟩ = false := frozen_of_row _ g 1 _ _ h.cells
  have hs : stepS (.oscEsc t) 92 = .rest := rfl
  have he : stepE (.oscEsc t) 92 = oscEv t := rfl
  have bz := (Below.refl w.heap.size w).alloc (Nat.le_refl _) (.cells #[.int .i64 0, .int .i32 0, .slice none 0 0, .string ⟨#[]⟩] 37)
  have RZ := Lib.hid (h.laid bz)
  have EZ := Lib.hid (evz_new w rfl)
  have BZ := Lib.hid bz
  have HGL := Lib.hid hgl
  have hne : w.heap.size ≠ g := by omega
  clear bz h hs he
  go_enter Tryz.func24, Tryz.ntmps24
  go_wp2_with fail
  obtain ⟨g1, hg1⟩ : ∃ g1, w.heap.size = g1 := ⟨_, rfl⟩
  have HG1 := Lib.hid hg1
  have BZ' := Lib.hid (show Below w.heap.size w (w.alloc (.cells #[.int .i64 0, .int .i32 0, .slice none 0 0, .string ⟨#[]⟩] 37)) from BZ.out)
  clear BZ c0 f0 c1 f1
  rw [hg1] at EZ hne ⊢
  generalize w.alloc (.cells #[.int .i64 0, .int .i32 0, .slice none 0 0, .string ⟨#[]⟩] 37) = w2 at RZ EZ BZ' ⊢
  refine (refOsc_walk g (.slice A n c) (.oscEsc t) t w2 rfl ⟨_, rfl⟩ RZ.out ht).mono ?_
  rintro e w3 ⟨kk, rr, A5, n5, c5, ss, v5, rfl, hnum, R3, t3⟩
  have E3 := Lib.hid (show ECells w3 g1 #[.int .i64 0, .int .i32 0, .slice none 0 0, .string ⟨#[]⟩] from (t3.block g1 (Array.getElem?_eq_some_iff.1 EZ.out).1 (by
    rintro (e | e)
    · exact hne e
    · exact ((RZ.out.text t rfl).1.typed _ e).apart ⟨_, _, EZ.out⟩ (by decide) rfl)).trans EZ.out)
  have F := Lib.hid (fin (o := oscEv t) E3.out (Nat.le_of_eq HG1.out) HGL.out R3 ((Turned.ofBelow BZ'.out (Own g (.slice A n c))).trans t3 (fun k _ e => e)) kk rr A5 n5 c5 ss (fun x hx => by
    obtain ⟨h1, h2, h3, h4⟩ := hnum x hx
    exact ⟨h1, h2, h3, h4.base BZ'.out.size⟩))
  have e0 : w3.cell? ⟨g1, 0, none⟩ = some (.int .i64 0) := cell_of_row _ g1 0 _ _ (0, 0) E3.out
  have e1 : w3.cell? ⟨g1, 1, none⟩ = some (.int .i32 0) := cell_of_row _ g1 1 _ _ (0, 0) E3.out
  have e2 : w3.cell? ⟨g1, 2, none⟩ = some (.slice none 0 0) := cell_of_row _ g1 2 _ _ (0, 0) E3.out
  have e3 : w3.cell? ⟨g1, 3, none⟩ = some (.string ⟨#[]⟩) := cell_of_row _ g1 3 _ _ (0, 0) E3.out
  have y0 := frozen_of_row _ g1 0 _ _ E3.out
  have y1 := frozen_of_row _ g1 1 _ _ E3.out
  have y2 := frozen_of_row _ g1 2 _ _ E3.out
  have y3 := frozen_of_row _ g1 3 _ _ E3.out
  clear hnum R3 t3 E3 RZ EZ BZ'
  go_wp2
  generalize ((((w3.setCell ⟨g1, 0, none⟩ (.int .i64 kk)).setCell ⟨g1, 1, none⟩ (.int .i32 rr)).setCell ⟨g1, 2, none⟩ (.slice A5 n5 c5)).setCell ⟨g1, 3, none⟩ (.string ss)) = w4 at F ⊢
  have q0 : w4.cell? ⟨g1, 0, none⟩ = some (.int .i64 kk) := cell_of_row _ _ 0 _ _ (0, 0) F.out.2
  have q1 : w4.cell? ⟨g1, 1, none⟩ = some (.int .i32 rr) := cell_of_row _ _ 1 _ _ (0, 0) F.out.2
  have q2 : w4.cell? ⟨g1, 2, none⟩ = some (.slice A5 n5 c5) := cell_of_row _ _ 2 _ _ (0, 0) F.out.2
  have q3 : w4.cell? ⟨g1, 3, none⟩ = some (.string ss) := cell_of_row _ _ 3 _ _ (0, 0) F.out.2
  exact bodyPost_ret (by simp [results, Tryz.results24, go_sem, q0, q1, q2, q3] <;> rfl) rfl F.out.1
theorem rput_walk (g : Nat) (v : Value) (st : St) (r : Int) (w : World) (h : RAt w g v st) (hz : sizeS st ≤ 1000000) (hr0 : -2147483648 ≤ r) (hr1 : r ≤ 2147483647) :
    Calls Tryz.prog 24 #[ptrP g, .int .i32 r] w fun e w' => RPost g v (stepS st r) (stepE st r) w e w' := by
  obtain ⟨A, n, c, rfl⟩ := h.slice
  cases st with
  | rest => exact rrest_walk g A n c r w h
  | esc => exact resc_walk g A n c r w h
  | csi t => exact rcsi_walk g A n c t r w h hz hr0 hr1
  | osc t => exact rosc_walk g A n c t r w h hz hr0 hr1
  | oscEsc t =>
    by_cases h92 : r = 92
    · subst h92
      exact roscEnd_walk g A n c t w h hz
    · have hs : stepS (.oscEsc t) r = begin' r := by simp only [stepS]; rw [if_neg h92]
      have he : stepE (.oscEsc t) r = none := by simp only [stepE]; rw [if_neg h92]
      rw [hs, he]
      exact roscEsc_walk g A n c t r w h h92
end Esc
end Go.Proofs.YtibihjcpkdfgeaaGreatDoor
namespace Go.Proofs.YtibihjcpkdfgeaaGreatDoor
open Go.ChangeShapes Go.WideShapes Go.ChangeAt Go.RowKit
namespace Esc

theorem b2i_walk (b : Bool) (w : World) : Calls Tryz.prog 25 #[.bool b] w fun e w' => e = .returned (.int .i64 (if b then 1 else 0)) ∧ w = w' := by
  cases b
  all_goals
    go_enter Tryz.func25, Tryz.ntmps25
    go_wp2
    go_ret
    exact ⟨rfl, rfl⟩
abbrev evV (k r : Int) (A : Option Addr) (n c : Nat) (s : ByteArray) : Value := .agg #[.int .i64 k, .int .i32 r, .slice A n c, .string s]
set_option maxRecDepth 100000 in
set_option maxHeartbeats 3200000 in
theorem eqEvent_walk (k r : Int) (A A' : Option Addr) (n c c' : Nat) (s : ByteArray) (l : List Int) (w : World) (hn : n ≤ 1000000) (hq : Sq w w.heap.size 1 n A (l.map (Value.int .i64))) (hq' : Sq w w.heap.size 1 n A' (l.map (Value.int .i64))) :
    Calls Tryz.prog 26 #[evV k r A n c s, evV k r A' n c' s] w fun e w' => e = .returned (.bool true) ∧ Below w.heap.size w w' := by
  have Q := Lib.hid hq
  have Q' := Lib.hid hq'
  clear hq hq'
  go_enter Tryz.func26, Tryz.ntmps26
  go_wp2_with fail
  have b1 := (Below.refl w.heap.size w).alloc (Nat.le_refl _) (.cells #[.int .i64 k, .int .i32 r, .slice A n c, .string s] 37)
  have e1 : ECells (w.alloc (.cells #[.int .i64 k, .int .i32 r, .slice A n c, .string s] 37)) w.heap.size #[.int .i64 k, .int .i32 r, .slice A n c, .string s] := heap_alloc_new w _
  obtain ⟨w1, hw1⟩ : ∃ w1, w.alloc (.cells #[.int .i64 k, .int .i32 r, .slice A n c, .string s] 37) = w1 := ⟨_, rfl⟩
  have hz1 : w1.heap.size = w.heap.size + 1 := by rw [← hw1]; simp
  rw [hw1] at b1 e1 ⊢
  have b2 := (Below.refl w1.heap.size w1).alloc (Nat.le_refl _) (.cells #[.int .i64 k, .int .i32 r, .slice A' n c', .string s] 37)
  have E2 := Lib.hid (show ECells (w1.alloc (.cells #[.int .i64 k, .int .i32 r, .slice A' n c', .string s] 37)) (w.heap.size + 1) #[.int .i64 k, .int .i32 r, .slice A' n c', .string s] by rw [← hz1]; exact heap_alloc_new w1 _)
  have E1 := Lib.hid (show ECells (w1.alloc (.cells #[.int .i64 k, .int .i32 r, .slice A' n c', .string s] 37)) w.heap.size #[.int .i64 k, .int .i32 r, .slice A n c, .string s] from (b2.block _ (by omega)).trans e1)
  have B2 := Lib.hid (b1.trans (b2.mono b1.size))
  clear b1 e1 hw1 hz1 b2
  generalize w1.alloc (.cells #[.int .i64 k, .int .i32 r, .slice A' n c', .string s] 37) = w2 at E1 E2 B2 ⊢
  go_loopw [5] (fun i wr => ∃ j : Nat, i = .int .i64 j ∧ j ≤ n ∧ Hid (Below w2.heap.size w2 wr)) (fun i _ => n - (intOf i).toNat)
  case atStart => exact ⟨0, rfl, Nat.zero_le _, Lib.hid (Below.refl _ _)⟩
  case round =>
    obtain ⟨j, rfl, hj, BB⟩ := hrel
    have z2 : wr.cell? ⟨w.heap.size, 2, none⟩ = some (.slice A n c) := cell_of_row _ _ 2 _ _ (0, 0) ((BB.out.block _ (Array.getElem?_eq_some_iff.1 E1.out).1).trans E1.out)
    have z3 : wr.cell? ⟨w.heap.size + 1, 2, none⟩ = some (.slice A' n c') := cell_of_row _ _ 2 _ _ (0, 0) ((BB.out.block _ (Array.getElem?_eq_some_iff.1 E2.out).1).trans E2.out)
    have BW := Lib.hid (B2.out.trans (BB.out.mono B2.out.size))
    by_cases hlt : j < n
    · obtain ⟨bq, off, rfl, _, hc⟩ := (Q.out.below BW.out).int_at hlt
      obtain ⟨bq', off', rfl, _, hc'⟩ := (Q'.out.below BW.out).int_at hlt
      have hj0 : (0 : Int) ≤ (j : Int) := by omega
      have hji : (j : Int) < (n : Int) := by omega
      go_wp2_with fail
      go_quiet (fail)
      rename_i nq
      have BD := Lib.hid (Below.drewN BB.out nq)
      clear z2 z3 hc hc'
      go_wp2
      go_roundw
      case rel => exact ⟨j + 1, by go_num, by omega, BD⟩
      case measure => first | (simp [intOf]; done) | (simp [intOf]; omega)
    · go_wp2
      go_ret
      exact ⟨rfl, BW.out⟩
end Esc
end Go.Proofs.YtibihjcpkdfgeaaGreatDoor
namespace Go.Proofs.YtibihjcpkdfgeaaGreatDoor
open Go.ChangeShapes Go.WideShapes Go.ChangeAt Go.RowKit
namespace Esc

def askL : List Ord.Line := [
  (some 42, Go.Op.move (Go.Operand.tmp 7), none, []),
  (some 43, Go.Op.call { callee := Go.Callee.builtin Go.Builtin.len, args := #[Go.Operand.tmp 42], argTypes := #[33] }, none, [0]),
  (some 44, Go.Op.move (Go.Operand.tmp 9), none, []),
  (some 45, Go.Op.call { callee := Go.Callee.value (Go.Operand.func 25), args := #[Go.Operand.tmp 44], argTypes := #[4] }, none, [2]),
  (some 46, Go.Op.binOp Go.BinOp.neq 3 (Go.Operand.tmp 43) (Go.Operand.tmp 45) 3, none, [1, 3]),
  (some 47, Go.Op.move (Go.Operand.tmp 46), none, [4, 3]),
  (some 48, Go.Op.move (Go.Operand.tmp 9), some (5, false), [5]),
  (some 49, Go.Op.move (Go.Operand.tmp 48), some (5, false), [6, 5, 5]),
  (some 50, Go.Op.move (Go.Operand.tmp 7), some (7, true), [7]),
  (some 51, Go.Op.indexAddr 33 (Go.Operand.tmp 50) (Go.Operand.const (Go.Value.int Go.IntKind.i64 0)), some (7, true), [8, 7]),
  (some 52, Go.Op.load 37 (Go.Operand.tmp 51), some (7, true), [9, 7]),
  (some 53, Go.Op.load 37 (Go.Operand.tmp 8), some (7, true), [7]),
  (some 54, Go.Op.call { callee := Go.Callee.value (Go.Operand.func 26), args := #[Go.Operand.tmp 52, Go.Operand.tmp 53], argTypes := #[37, 37] }, some (7, true), [10, 11, 7, 7]),
  (some 55, Go.Op.unOp Go.UnOp.not 4 (Go.Operand.tmp 54), some (7, true), [12, 7]),
  (some 56, Go.Op.pick (Go.Operand.tmp 49) (Go.Operand.tmp 55) (Go.Operand.const (Go.Value.bool false)), some (5, false), [7, 13, 5]),
  (some 57, Go.Op.pick (Go.Operand.tmp 47) (Go.Operand.const (Go.Value.bool true)) (Go.Operand.tmp 56), none, [5, 14]),
  (some 58, Go.Op.move (Go.Operand.tmp 57), none, [15, 12]),
  (some 59, Go.Op.move (Go.Operand.tmp 4), some (16, false), [16]),
  (some 60, Go.Op.call { callee := Go.Callee.value (Go.Operand.func 27), args := #[Go.Operand.tmp 59], argTypes := #[24] }, some (16, false), [17, 16, 16]),
  (some 61, Go.Op.move (Go.Operand.tmp 5), some (16, false), [16]),
  (some 62, Go.Op.nilCheck (Go.Operand.tmp 61), some (16, false), [19, 16]),
  (some 63, Go.Op.fieldAddr 32 (Go.Operand.tmp 62) 0, some (16, false), [20, 16]),
  (some 64, Go.Op.load 3 (Go.Operand.tmp 63), some (16, false), [21, 16]),
  (some 65, Go.Op.binOp Go.BinOp.eql 3 (Go.Operand.tmp 64) (Go.Operand.const (Go.Value.int Go.IntKind.i64 0)) 3, some (16, false), [22, 16]),
  (some 66, Go.Op.binOp Go.BinOp.neq 4 (Go.Operand.tmp 60) (Go.Operand.tmp 65) 4, some (16, false), [18, 23, 16]),
  (some 67, Go.Op.pick (Go.Operand.tmp 58) (Go.Operand.const (Go.Value.bool true)) (Go.Operand.tmp 66), none, [16, 24])]

/-- The slots that are known all the way. -/
structure AskFr0 (g gr g8 : Nat) (p0 p1 p2 p3 p6 p10 p11 p12 p13 p14 p15 p16 : Value) (a : Act) : Prop where
  size : a.tmps.size = 68
  defers : a.defers = []
  s0 : Chain.At a 0 (p0)
  s1 : Chain.At a 1 (p1)
  s2 : Chain.At a 2 (p2)
  s3 : Chain.At a 3 (p3)
  s4 : Chain.At a 4 (.pointer (some ⟨g, 0, none⟩))
  s5 : Chain.At a 5 (.pointer (some ⟨gr, 0, none⟩))
  s6 : Chain.At a 6 (p6)
  s7 : Chain.At a 7 (.slice none 0 0)
  s8 : Chain.At a 8 (.pointer (some ⟨g8, 0, none⟩))
  s9 : Chain.At a 9 (.bool false)
  s10 : Chain.At a 10 (p10)
  s11 : Chain.At a 11 (p11)
  s12 : Chain.At a 12 (p12)
  s13 : Chain.At a 13 (p13)
  s14 : Chain.At a 14 (p14)
  s15 : Chain.At a 15 (p15)
  s16 : Chain.At a 16 (p16)
theorem AskFr0.next {g gr g8 : Nat} {p0 p1 p2 p3 p6 p10 p11 p12 p13 p14 p15 p16 : Value} {a a' : Act} {d : Nat} {v : Value} (F : AskFr0 g gr g8 p0 p1 p2 p3 p6 p10 p11 p12 p13 p14 p15 p16 a) (nx : Chain.Next a a' d v) (h : d ≠ 0 ∧ d ≠ 1 ∧ d ≠ 2 ∧ d ≠ 3 ∧ d ≠ 4 ∧ d ≠ 5 ∧ d ≠ 6 ∧ d ≠ 7 ∧ d ≠ 8 ∧ d ≠ 9 ∧ d ≠ 10 ∧ d ≠ 11 ∧ d ≠ 12 ∧ d ≠ 13 ∧ d ≠ 14 ∧ d ≠ 15 ∧ d ≠ 16) : AskFr0 g gr g8 p0 p1 p2 p3 p6 p10 p11 p12 p13 p14 p15 p16 a' := ⟨nx.size.trans F.size, nx.defers.trans F.defers, nx.keep 0 _ h.1 F.s0, nx.keep 1 _ h.2.1 F.s1, nx.keep 2 _ h.2.2.1 F.s2, nx.keep 3 _ h.2.2.2.1 F.s3, nx.keep 4 _ h.2.2.2.2.1 F.s4, nx.keep 5 _ h.2.2.2.2.2.1 F.s5, nx.keep 6 _ h.2.2.2.2.2.2.1 F.s6, nx.keep 7 _ h.2.2.2.2.2.2.2.1 F.s7, nx.keep 8 _ h.2.2.2.2.2.2.2.2.1 F.s8, nx.keep 9 _ h.2.2.2.2.2.2.2.2.2.1 F.s9, nx.keep 10 _ h.2.2.2.2.2.2.2.2.2.2.1 F.s10, nx.keep 11 _ h.2.2.2.2.2.2.2.2.2.2.2.1 F.s11, nx.keep 12 _ h.2.2.2.2.2.2.2.2.2.2.2.2.1 F.s12, nx.keep 13 _ h.2.2.2.2.2.2.2.2.2.2.2.2.2.1 F.s13, nx.keep 14 _ h.2.2.2.2.2.2.2.2.2.2.2.2.2.2.1 F.s14, nx.keep 15 _ h.2.2.2.2.2.2.2.2.2.2.2.2.2.2.2.1 F.s15, nx.keep 16 _ h.2.2.2.2.2.2.2.2.2.2.2.2.2.2.2.2 F.s16⟩
theorem AskFr0.lt {g gr g8 : Nat} {p0 p1 p2 p3 p6 p10 p11 p12 p13 p14 p15 p16 : Value} {a : Act} {d : Nat} (F : AskFr0 g gr g8 p0 p1 p2 p3 p6 p10 p11 p12 p13 p14 p15 p16 a) (h : d < 68) : d < a.tmps.size := by rw [F.size]; exact h

set_option maxRecDepth 100000 in
theorem ask_none {ops : Array Oper} {Q : Exit → Act → World → Prop} (R : Ord.Reg ops askL) (hQ : ∀ c a w d v, Q (.panic c) (Act.put a (some d) v) w → Q (.panic c) a w) {w1 : World} {pl : Int} {qb : Bool} {g gr g8 : Nat} {p0 p1 p2 p3 p6 p10 p11 p12 p13 p14 p15 p16 : Value}
    (QW : ∀ w, Below w1.heap.size w1 w → Calls Tryz.prog 27 #[.pointer (some ⟨g, 0, none⟩)] w fun e w' => e = .returned (.bool qb) ∧ w = w') (cp : ∀ w, Below w1.heap.size w1 w → w.cell? ⟨gr, 0, none⟩ = some (.int .i64 pl)) (hqq : qb = (pl == 0))
    (B2 : ∀ w, Calls Tryz.prog 25 #[.bool false] w fun e w' => e = .returned (.int .i64 0) ∧ w = w')
    (a : Act) (F : AskFr0 g gr g8 p0 p1 p2 p3 p6 p10 p11 p12 p13 p14 p15 p16 a) (h : ∀ a w, Below w1.heap.size w1 w → AskFr0 g gr g8 p0 p1 p2 p3 p6 p10 p11 p12 p13 p14 p15 p16 a → Chain.At a 67 (.bool false) → Q .normal a w) (w : World) (hS : Below w1.heap.size w1 w) :
    wpAnyH Tryz.prog .any ops Q (fun w => Below w1.heap.size w1 w) 26 (List.replicate 26 false).toArray a w := by
  refine Ord.take R (k := 0) (v := .slice none 0 0) (bs' := (Ord.upto 1 26)) rfl (by kernel_rfl) hQ trivial hS (fun w _ hS => Chain.ev_move F.s7.ev) (F.lt (by decide)) fun a0 N => ?_
  replace F := F.next N (by decide)
  have f42 := N.got
  clear N a
  refine Ord.take R (k := 1) (v := .int .i64 0) (bs' := (Ord.upto 2 26)) rfl (by kernel_rfl) hQ trivial hS (fun w _ hS => by have e42 := f42; unfold Chain.At at e42; clear F; go_simp) (F.lt (by decide)) fun a1 N => ?_
  replace F := F.next N (by decide)
  clear f42
  have f43 := N.got
  clear N a0
  refine Ord.take R (k := 2) (v := .bool false) (bs' := (Ord.upto 3 26)) rfl (by kernel_rfl) hQ trivial hS (fun w _ hS => Chain.ev_move F.s9.ev) (F.lt (by decide)) fun a2 N => ?_
  replace F := F.next N (by decide)
  replace f43 := N.keep 43 _ (by decide) f43
  have f44 := N.got
  clear N a1
  refine Ord.call R (k := 3) (args := #[.bool false]) (bs' := (Ord.upto 4 26)) rfl (by kernel_rfl) trivial (by simp [f44.ev]) (by kernel_rfl) (B2 _) (F.lt (by decide)) ?_
  rintro e w ⟨rfl, rfl⟩
  replace hS := hS
  refine ⟨_, rfl, hS, fun a3 N => ?_⟩
  replace F := F.next N (by decide)
  replace f43 := N.keep 43 _ (by decide) f43
  clear f44
  have f45 := N.got
  clear N a2
  refine Ord.take R (k := 4) (v := .bool false) (bs' := (Ord.upto 5 26)) rfl (by kernel_rfl) hQ trivial hS (fun w _ hS => by have e43 := f43; unfold Chain.At at e43; have e45 := f45; unfold Chain.At at e45; clear F; go_simp) (F.lt (by decide)) fun a4 N => ?_
  replace F := F.next N (by decide)
  clear f43
  clear f45
  have f46 := N.got
  clear N a3
  refine Ord.take R (k := 5) (v := .bool false) (bs' := (Ord.upto 6 26)) rfl (by kernel_rfl) hQ trivial hS (fun w _ hS => Chain.ev_move f46.ev) (F.lt (by decide)) fun a5 N => ?_
  replace F := F.next N (by decide)
  clear f46
  have f47 := N.got
  clear N a4
  refine Ord.take R (k := 6) (v := .bool false) (bs' := (Ord.upto 7 26)) rfl (by kernel_rfl) hQ (R.opened (j := 5) rfl f47) hS (fun w _ hS => Chain.ev_move F.s9.ev) (F.lt (by decide)) fun a6 N => ?_
  replace F := F.next N (by decide)
  replace f47 := N.keep 47 _ (by decide) f47
  have f48 := N.got
  clear N a5
  refine Ord.take R (k := 7) (v := .bool false) (bs' := (Ord.upto 8 26)) rfl (by kernel_rfl) hQ (R.opened (j := 5) rfl f47) hS (fun w _ hS => Chain.ev_move f48.ev) (F.lt (by decide)) fun a7 N => ?_
  replace F := F.next N (by decide)
  replace f47 := N.keep 47 _ (by decide) f47
  clear f48
  have f49 := N.got
  clear N a6
  refine Ord.skip R (k := 8) (bs' := (Ord.upto 9 26)) rfl (by kernel_rfl) hQ (R.shut (j := 7) rfl f49 (Ord.ne_not rfl)) hS (F.lt (by decide)) fun a8 N => ?_
  replace F := F.next N (by decide)
  replace f47 := N.keep 47 _ (by decide) f47
  replace f49 := N.keep 49 _ (by decide) f49
  have f50 := N.got
  clear N a7
  refine Ord.skip R (k := 9) (bs' := (Ord.upto 10 26)) rfl (by kernel_rfl) hQ (R.shut (j := 7) rfl f49 (Ord.ne_not rfl)) hS (F.lt (by decide)) fun a9 N => ?_
  replace F := F.next N (by decide)
  replace f47 := N.keep 47 _ (by decide) f47
  replace f49 := N.keep 49 _ (by decide) f49
  clear f50
  have f51 := N.got
  clear N a8
  refine Ord.skip R (k := 10) (bs' := (Ord.upto 11 26)) rfl (by kernel_rfl) hQ (R.shut (j := 7) rfl f49 (Ord.ne_not rfl)) hS (F.lt (by decide)) fun a10 N => ?_
  replace F := F.next N (by decide)
  replace f47 := N.keep 47 _ (by decide) f47
  replace f49 := N.keep 49 _ (by decide) f49
  clear f51
  have f52 := N.got
  clear N a9
  refine Ord.skip R (k := 11) (bs' := (Ord.upto 12 26)) rfl (by kernel_rfl) hQ (R.shut (j := 7) rfl f49 (Ord.ne_not rfl)) hS (F.lt (by decide)) fun a11 N => ?_
  replace F := F.next N (by decide)
  replace f47 := N.keep 47 _ (by decide) f47
  replace f49 := N.keep 49 _ (by decide) f49
  replace f52 := N.keep 52 _ (by decide) f52
  have f53 := N.got
  clear N a10
  refine Ord.skip R (k := 12) (bs' := (Ord.upto 13 26)) rfl (by kernel_rfl) hQ (R.shut (j := 7) rfl f49 (Ord.ne_not rfl)) hS (F.lt (by decide)) fun a12 N => ?_
  replace F := F.next N (by decide)
  replace f47 := N.keep 47 _ (by decide) f47
  replace f49 := N.keep 49 _ (by decide) f49
  clear f52
  clear f53
  have f54 := N.got
  clear N a11
  refine Ord.skip R (k := 13) (bs' := (Ord.upto 14 26)) rfl (by kernel_rfl) hQ (R.shut (j := 7) rfl f49 (Ord.ne_not rfl)) hS (F.lt (by decide)) fun a13 N => ?_
  replace F := F.next N (by decide)
  replace f47 := N.keep 47 _ (by decide) f47
  replace f49 := N.keep 49 _ (by decide) f49
  clear f54
  have f55 := N.got
  clear N a12
  refine Ord.take R (k := 14) (v := Go.Value.bool false) (bs' := (Ord.upto 15 26)) rfl (by kernel_rfl) hQ (R.opened (j := 5) rfl f47) hS (fun w _ hS => Ord.ev_pick_no f49.ev rfl) (F.lt (by decide)) fun a14 N => ?_
  replace F := F.next N (by decide)
  replace f47 := N.keep 47 _ (by decide) f47
  clear f49
  clear f55
  have f56 := N.got
  clear N a13
  refine Ord.take R (k := 15) (v := Go.Value.bool false) (bs' := (Ord.upto 16 26)) rfl (by kernel_rfl) hQ trivial hS (fun w _ hS => Ord.ev_pick_no f47.ev f56.ev) (F.lt (by decide)) fun a15 N => ?_
  replace F := F.next N (by decide)
  clear f47
  clear f56
  have f57 := N.got
  clear N a14
  refine Ord.take R (k := 16) (v := Go.Value.bool false) (bs' := (Ord.upto 17 26)) rfl (by kernel_rfl) hQ trivial hS (fun w _ hS => Chain.ev_move f57.ev) (F.lt (by decide)) fun a16 N => ?_
  replace F := F.next N (by decide)
  clear f57
  have f58 := N.got
  clear N a15
  refine Ord.take R (k := 17) (v := .pointer (some ⟨g, 0, none⟩)) (bs' := (Ord.upto 18 26)) rfl (by kernel_rfl) hQ (R.opened (j := 16) rfl f58) hS (fun w _ hS => Chain.ev_move F.s4.ev) (F.lt (by decide)) fun a17 N => ?_
  replace F := F.next N (by decide)
  replace f58 := N.keep 58 _ (by decide) f58
  have f59 := N.got
  clear N a16
  refine Ord.take R (k := 19) (v := .pointer (some ⟨gr, 0, none⟩)) (bs' := [true, true, true, true, true, true, true, true, true, true, true, true, true, true, true, true, true, true, false, true, false, false, false, false, false, false]) rfl (by kernel_rfl) hQ (R.opened (j := 16) rfl f58) hS (fun w _ hS => Chain.ev_move F.s5.ev) (F.lt (by decide)) fun a19 N => ?_
  replace F := F.next N (by decide)
  replace f58 := N.keep 58 _ (by decide) f58
  replace f59 := N.keep 59 _ (by decide) f59
  have f61 := N.got
  clear N a17
  refine Ord.take R (k := 20) (v := .pointer (some ⟨gr, 0, none⟩)) (bs' := [true, true, true, true, true, true, true, true, true, true, true, true, true, true, true, true, true, true, false, true, true, false, false, false, false, false]) rfl (by kernel_rfl) hQ (R.opened (j := 16) rfl f58) hS (fun w _ hS => by have e61 := f61; unfold Chain.At at e61; clear F; go_simp) (F.lt (by decide)) fun a20 N => ?_
  replace F := F.next N (by decide)
  replace f58 := N.keep 58 _ (by decide) f58
  replace f59 := N.keep 59 _ (by decide) f59
  clear f61
  have f62 := N.got
  clear N a19
  refine Ord.take R (k := 21) (v := .pointer (some ⟨gr, 0, none⟩)) (bs' := [true, true, true, true, true, true, true, true, true, true, true, true, true, true, true, true, true, true, false, true, true, true, false, false, false, false]) rfl (by kernel_rfl) hQ (R.opened (j := 16) rfl f58) hS (fun w _ hS => by have e62 := f62; unfold Chain.At at e62; clear F; go_simp) (F.lt (by decide)) fun a21 N => ?_
  replace F := F.next N (by decide)
  replace f58 := N.keep 58 _ (by decide) f58
  replace f59 := N.keep 59 _ (by decide) f59
  clear f62
  have f63 := N.got
  clear N a20
  refine Ord.take R (k := 22) (v := .int .i64 pl) (bs' := [true, true, true, true, true, true, true, true, true, true, true, true, true, true, true, true, true, true, false, true, true, true, true, false, false, false]) rfl (by kernel_rfl) hQ (R.opened (j := 16) rfl f58) hS (fun w _ hS => by have e63 := f63; unfold Chain.At at e63; have q0 := (cp w hS); clear F; go_simp) (F.lt (by decide)) fun a22 N => ?_
  replace F := F.next N (by decide)
  replace f58 := N.keep 58 _ (by decide) f58
  replace f59 := N.keep 59 _ (by decide) f59
  clear f63
  have f64 := N.got
  clear N a21
  refine Ord.take R (k := 23) (v := .bool (pl == 0)) (bs' := [true, true, true, true, true, true, true, true, true, true, true, true, true, true, true, true, true, true, false, true, true, true, true, true, false, false]) rfl (by kernel_rfl) hQ (R.opened (j := 16) rfl f58) hS (fun w _ hS => by have e64 := f64; unfold Chain.At at e64; clear F; go_simp) (F.lt (by decide)) fun a23 N => ?_
  replace F := F.next N (by decide)
  replace f58 := N.keep 58 _ (by decide) f58
  replace f59 := N.keep 59 _ (by decide) f59
  clear f64
  have f65 := N.got
  clear N a22
  refine Ord.call R (k := 18) (args := #[.pointer (some ⟨g, 0, none⟩)]) (bs' := (Ord.upto 24 26)) rfl (by kernel_rfl) (R.opened (j := 16) rfl f58) (by simp [f59.ev]) (by kernel_rfl) (QW _ hS) (F.lt (by decide)) ?_
  rintro e w ⟨rfl, rfl⟩
  replace hS := hS
  refine ⟨_, rfl, hS, fun a18 N => ?_⟩
  replace F := F.next N (by decide)
  replace f58 := N.keep 58 _ (by decide) f58
  clear f59
  replace f65 := N.keep 65 _ (by decide) f65
  have f60 := N.got
  clear N a23
  refine Ord.take R (k := 24) (v := .bool false) (bs' := (Ord.upto 25 26)) rfl (by kernel_rfl) hQ (R.opened (j := 16) rfl f58) hS (fun w _ hS => by have e60 := f60; unfold Chain.At at e60; have e65 := f65; unfold Chain.At at e65; have q0 := hqq; clear F; go_simp) (F.lt (by decide)) fun a24 N => ?_
  replace F := F.next N (by decide)
  replace f58 := N.keep 58 _ (by decide) f58
  clear f60
  clear f65
  have f66 := N.got
  clear N a18
  refine Ord.take R (k := 25) (v := .bool false) (bs' := (Ord.upto 26 26)) rfl (by kernel_rfl) hQ trivial hS (fun w _ hS => Ord.ev_pick_no f58.ev f66.ev) (F.lt (by decide)) fun a25 N => ?_
  replace F := F.next N (by decide)
  clear f58
  clear f66
  have f67 := N.got
  clear N a24
  exact Ord.finish R (by kernel_rfl) (h _ _ hS F f67)

/-- The slots that are known all the way. -/
structure AskFr1 (g gr g8 b : Nat) (p0 p1 p2 p3 p6 p10 p11 p12 p13 p14 p15 p16 : Value) (a : Act) : Prop where
  size : a.tmps.size = 68
  defers : a.defers = []
  s0 : Chain.At a 0 (p0)
  s1 : Chain.At a 1 (p1)
  s2 : Chain.At a 2 (p2)
  s3 : Chain.At a 3 (p3)
  s4 : Chain.At a 4 (.pointer (some ⟨g, 0, none⟩))
  s5 : Chain.At a 5 (.pointer (some ⟨gr, 0, none⟩))
  s6 : Chain.At a 6 (p6)
  s7 : Chain.At a 7 (.slice (some ⟨b, 0, none⟩) 1 1)
  s8 : Chain.At a 8 (.pointer (some ⟨g8, 0, none⟩))
  s9 : Chain.At a 9 (.bool true)
  s10 : Chain.At a 10 (p10)
  s11 : Chain.At a 11 (p11)
  s12 : Chain.At a 12 (p12)
  s13 : Chain.At a 13 (p13)
  s14 : Chain.At a 14 (p14)
  s15 : Chain.At a 15 (p15)
  s16 : Chain.At a 16 (p16)
theorem AskFr1.next {g gr g8 b : Nat} {p0 p1 p2 p3 p6 p10 p11 p12 p13 p14 p15 p16 : Value} {a a' : Act} {d : Nat} {v : Value} (F : AskFr1 g gr g8 b p0 p1 p2 p3 p6 p10 p11 p12 p13 p14 p15 p16 a) (nx : Chain.Next a a' d v) (h : d ≠ 0 ∧ d ≠ 1 ∧ d ≠ 2 ∧ d ≠ 3 ∧ d ≠ 4 ∧ d ≠ 5 ∧ d ≠ 6 ∧ d ≠ 7 ∧ d ≠ 8 ∧ d ≠ 9 ∧ d ≠ 10 ∧ d ≠ 11 ∧ d ≠ 12 ∧ d ≠ 13 ∧ d ≠ 14 ∧ d ≠ 15 ∧ d ≠ 16) : AskFr1 g gr g8 b p0 p1 p2 p3 p6 p10 p11 p12 p13 p14 p15 p16 a' := ⟨nx.size.trans F.size, nx.defers.trans F.defers, nx.keep 0 _ h.1 F.s0, nx.keep 1 _ h.2.1 F.s1, nx.keep 2 _ h.2.2.1 F.s2, nx.keep 3 _ h.2.2.2.1 F.s3, nx.keep 4 _ h.2.2.2.2.1 F.s4, nx.keep 5 _ h.2.2.2.2.2.1 F.s5, nx.keep 6 _ h.2.2.2.2.2.2.1 F.s6, nx.keep 7 _ h.2.2.2.2.2.2.2.1 F.s7, nx.keep 8 _ h.2.2.2.2.2.2.2.2.1 F.s8, nx.keep 9 _ h.2.2.2.2.2.2.2.2.2.1 F.s9, nx.keep 10 _ h.2.2.2.2.2.2.2.2.2.2.1 F.s10, nx.keep 11 _ h.2.2.2.2.2.2.2.2.2.2.2.1 F.s11, nx.keep 12 _ h.2.2.2.2.2.2.2.2.2.2.2.2.1 F.s12, nx.keep 13 _ h.2.2.2.2.2.2.2.2.2.2.2.2.2.1 F.s13, nx.keep 14 _ h.2.2.2.2.2.2.2.2.2.2.2.2.2.2.1 F.s14, nx.keep 15 _ h.2.2.2.2.2.2.2.2.2.2.2.2.2.2.2.1 F.s15, nx.keep 16 _ h.2.2.2.2.2.2.2.2.2.2.2.2.2.2.2.2 F.s16⟩
theorem AskFr1.lt {g gr g8 b : Nat} {p0 p1 p2 p3 p6 p10 p11 p12 p13 p14 p15 p16 : Value} {a : Act} {d : Nat} (F : AskFr1 g gr g8 b p0 p1 p2 p3 p6 p10 p11 p12 p13 p14 p15 p16 a) (h : d < 68) : d < a.tmps.size := by rw [F.size]; exact h

set_option maxRecDepth 100000 in
theorem ask_some {ops : Array Oper} {Q : Exit → Act → World → Prop} (R : Ord.Reg ops askL) (hQ : ∀ c a w d v, Q (.panic c) (Act.put a (some d) v) w → Q (.panic c) a w) {w1 : World} {pl : Int} {qb : Bool} {g gr g8 b : Nat} {p0 p1 p2 p3 p6 p10 p11 p12 p13 p14 p15 p16 : Value}
    {kk rr : Int} {Av A5 : Option Addr} {nv cv c5 : Nat} {ss : ByteArray}
    (QW : ∀ w, Below w1.heap.size w1 w → Calls Tryz.prog 27 #[.pointer (some ⟨g, 0, none⟩)] w fun e w' => e = .returned (.bool qb) ∧ w = w') (cp : ∀ w, Below w1.heap.size w1 w → w.cell? ⟨gr, 0, none⟩ = some (.int .i64 pl)) (hqq : qb = (pl == 0))
    (B2 : ∀ w, Calls Tryz.prog 25 #[.bool true] w fun e w' => e = .returned (.int .i64 1) ∧ w = w')
    (ca0 : ∀ w, Below w1.heap.size w1 w → w.cell? ⟨b, 0, none⟩ = some (.int .i64 kk)) (ca1 : ∀ w, Below w1.heap.size w1 w → w.cell? ⟨b, 1, none⟩ = some (.int .i32 rr)) (ca2 : ∀ w, Below w1.heap.size w1 w → w.cell? ⟨b, 2, none⟩ = some (.slice Av nv cv)) (ca3 : ∀ w, Below w1.heap.size w1 w → w.cell? ⟨b, 3, none⟩ = some (.string ss))
    (cb0 : ∀ w, Below w1.heap.size w1 w → w.cell? ⟨g8, 0, none⟩ = some (.int .i64 kk)) (cb1 : ∀ w, Below w1.heap.size w1 w → w.cell? ⟨g8, 1, none⟩ = some (.int .i32 rr)) (cb2 : ∀ w, Below w1.heap.size w1 w → w.cell? ⟨g8, 2, none⟩ = some (.slice A5 nv c5)) (cb3 : ∀ w, Below w1.heap.size w1 w → w.cell? ⟨g8, 3, none⟩ = some (.string ss))
    (EQ : ∀ w, Below w1.heap.size w1 w → Calls Tryz.prog 26 #[.agg #[.int .i64 kk, .int .i32 rr, .slice Av nv cv, .string ss], .agg #[.int .i64 kk, .int .i32 rr, .slice A5 nv c5, .string ss]] w fun e w' => e = .returned (.bool true) ∧ Below w.heap.size w w')
    (a : Act) (F : AskFr1 g gr g8 b p0 p1 p2 p3 p6 p10 p11 p12 p13 p14 p15 p16 a) (h : ∀ a w, Below w1.heap.size w1 w → AskFr1 g gr g8 b p0 p1 p2 p3 p6 p10 p11 p12 p13 p14 p15 p16 a → Chain.At a 67 (.bool false) → Q .normal a w) (w : World) (hS : Below w1.heap.size w1 w) :
    wpAnyH Tryz.prog .any ops Q (fun w => Below w1.heap.size w1 w) 26 (List.replicate 26 false).toArray a w := by
  refine Ord.take R (k := 0) (v := .slice (some ⟨b, 0, none⟩) 1 1) (bs' := (Ord.upto 1 26)) rfl (by kernel_rfl) hQ trivial hS (fun w _ hS => Chain.ev_move F.s7.ev) (F.lt (by decide)) fun a0 N => ?_
  replace F := F.next N (by decide)
  have f42 := N.got
  clear N a
  refine Ord.take R (k := 1) (v := .int .i64 1) (bs' := (Ord.upto 2 26)) rfl (by kernel_rfl) hQ trivial hS (fun w _ hS => by have e42 := f42; unfold Chain.At at e42; clear F; go_simp) (F.lt (by decide)) fun a1 N => ?_
  replace F := F.next N (by decide)
  clear f42
  have f43 := N.got
  clear N a0
  refine Ord.take R (k := 2) (v := .bool true) (bs' := (Ord.upto 3 26)) rfl (by kernel_rfl) hQ trivial hS (fun w _ hS => Chain.ev_move F.s9.ev) (F.lt (by decide)) fun a2 N => ?_
  replace F := F.next N (by decide)
  replace f43 := N.keep 43 _ (by decide) f43
  have f44 := N.got
  clear N a1
  refine Ord.call R (k := 3) (args := #[.bool true]) (bs' := (Ord.upto 4 26)) rfl (by kernel_rfl) trivial (by simp [f44.ev]) (by kernel_rfl) (B2 _) (F.lt (by decide)) ?_
  rintro e w ⟨rfl, rfl⟩
  replace hS := hS
  refine ⟨_, rfl, hS, fun a3 N => ?_⟩
  replace F := F.next N (by decide)
  replace f43 := N.keep 43 _ (by decide) f43
  clear f44
  have f45 := N.got
  clear N a2
  refine Ord.take R (k := 4) (v := .bool false) (bs' := (Ord.upto 5 26)) rfl (by kernel_rfl) hQ trivial hS (fun w _ hS => by have e43 := f43; unfold Chain.At at e43; have e45 := f45; unfold Chain.At at e45; clear F; go_simp) (F.lt (by decide)) fun a4 N => ?_
  replace F := F.next N (by decide)
  clear f43
  clear f45
  have f46 := N.got
  clear N a3
  refine Ord.take R (k := 5) (v := .bool false) (bs' := (Ord.upto 6 26)) rfl (by kernel_rfl) hQ trivial hS (fun w _ hS => Chain.ev_move f46.ev) (F.lt (by decide)) fun a5 N => ?_
  replace F := F.next N (by decide)
  clear f46
  have f47 := N.got
  clear N a4
  refine Ord.take R (k := 6) (v := .bool true) (bs' := (Ord.upto 7 26)) rfl (by kernel_rfl) hQ (R.opened (j := 5) rfl f47) hS (fun w _ hS => Chain.ev_move F.s9.ev) (F.lt (by decide)) fun a6 N => ?_
  replace F := F.next N (by decide)
  replace f47 := N.keep 47 _ (by decide) f47
  have f48 := N.got
  clear N a5
  refine Ord.take R (k := 7) (v := .bool true) (bs' := (Ord.upto 8 26)) rfl (by kernel_rfl) hQ (R.opened (j := 5) rfl f47) hS (fun w _ hS => Chain.ev_move f48.ev) (F.lt (by decide)) fun a7 N => ?_
  replace F := F.next N (by decide)
  replace f47 := N.keep 47 _ (by decide) f47
  clear f48
  have f49 := N.got
  clear N a6
  refine Ord.take R (k := 8) (v := .slice (some ⟨b, 0, none⟩) 1 1) (bs' := (Ord.upto 9 26)) rfl (by kernel_rfl) hQ (R.opened (j := 7) rfl f49) hS (fun w _ hS => Chain.ev_move F.s7.ev) (F.lt (by decide)) fun a8 N => ?_
  replace F := F.next N (by decide)
  replace f47 := N.keep 47 _ (by decide) f47
  replace f49 := N.keep 49 _ (by decide) f49
  have f50 := N.got
  clear N a7
  refine Ord.take R (k := 9) (v := .pointer (some ⟨b, 0, none⟩)) (bs' := (Ord.upto 10 26)) rfl (by kernel_rfl) hQ (R.opened (j := 7) rfl f49) hS (fun w _ hS => by have e50 := f50; unfold Chain.At at e50; clear F; go_simp) (F.lt (by decide)) fun a9 N => ?_
  replace F := F.next N (by decide)
  replace f47 := N.keep 47 _ (by decide) f47
  replace f49 := N.keep 49 _ (by decide) f49
  clear f50
  have f51 := N.got
  clear N a8
  refine Ord.take R (k := 10) (v := .agg #[.int .i64 kk, .int .i32 rr, .slice Av nv cv, .string ss]) (bs' := (Ord.upto 11 26)) rfl (by kernel_rfl) hQ (R.opened (j := 7) rfl f49) hS (fun w _ hS => by have e51 := f51; unfold Chain.At at e51; have q0 := (ca0 w hS); have q1 := (ca1 w hS); have q2 := (ca2 w hS); have q3 := (ca3 w hS); clear F; go_simp) (F.lt (by decide)) fun a10 N => ?_
  replace F := F.next N (by decide)
  replace f47 := N.keep 47 _ (by decide) f47
  replace f49 := N.keep 49 _ (by decide) f49
  clear f51
  have f52 := N.got
  clear N a9
  refine Ord.take R (k := 11) (v := .agg #[.int .i64 kk, .int .i32 rr, .slice A5 nv c5, .string ss]) (bs' := (Ord.upto 12 26)) rfl (by kernel_rfl) hQ (R.opened (j := 7) rfl f49) hS (fun w _ hS => by have e8 := F.s8; unfold Chain.At at e8; have q0 := (cb0 w hS); have q1 := (cb1 w hS); have q2 := (cb2 w hS); have q3 := (cb3 w hS); clear F; go_simp) (F.lt (by decide)) fun a11 N => ?_
  replace F := F.next N (by decide)
  replace f47 := N.keep 47 _ (by decide) f47
  replace f49 := N.keep 49 _ (by decide) f49
  replace f52 := N.keep 52 _ (by decide) f52
  have f53 := N.got
  clear N a10
  refine Ord.call R (k := 12) (args := #[.agg #[.int .i64 kk, .int .i32 rr, .slice Av nv cv, .string ss], .agg #[.int .i64 kk, .int .i32 rr, .slice A5 nv c5, .string ss]]) (bs' := (Ord.upto 13 26)) rfl (by kernel_rfl) (R.opened (j := 7) rfl f49) (by simp [f52.ev, f53.ev]) (by kernel_rfl) (EQ _ hS) (F.lt (by decide)) ?_
  rintro e w ⟨rfl, b9⟩
  replace hS := hS.trans (b9.mono hS.size)
  refine ⟨_, rfl, hS, fun a12 N => ?_⟩
  replace F := F.next N (by decide)
  replace f47 := N.keep 47 _ (by decide) f47
  replace f49 := N.keep 49 _ (by decide) f49
  clear f52
  clear f53
  have f54 := N.got
  clear N a11
  refine Ord.take R (k := 13) (v := .bool false) (bs' := (Ord.upto 14 26)) rfl (by kernel_rfl) hQ (R.opened (j := 7) rfl f49) hS (fun w _ hS => by have e54 := f54; unfold Chain.At at e54; clear F; go_simp) (F.lt (by decide)) fun a13 N => ?_
  replace F := F.next N (by decide)
  replace f47 := N.keep 47 _ (by decide) f47
  replace f49 := N.keep 49 _ (by decide) f49
  clear f54
  have f55 := N.got
  clear N a12
  refine Ord.take R (k := 14) (v := .bool false) (bs' := (Ord.upto 15 26)) rfl (by kernel_rfl) hQ (R.opened (j := 5) rfl f47) hS (fun w _ hS => Ord.ev_pick_yes f49.ev f55.ev) (F.lt (by decide)) fun a14 N => ?_
  replace F := F.next N (by decide)
  replace f47 := N.keep 47 _ (by decide) f47
  clear f49
  clear f55
  have f56 := N.got
  clear N a13
  refine Ord.take R (k := 15) (v := .bool false) (bs' := (Ord.upto 16 26)) rfl (by kernel_rfl) hQ trivial hS (fun w _ hS => Ord.ev_pick_no f47.ev f56.ev) (F.lt (by decide)) fun a15 N => ?_
  replace F := F.next N (by decide)
  clear f47
  clear f56
  have f57 := N.got
  clear N a14
  refine Ord.take R (k := 16) (v := .bool false) (bs' := (Ord.upto 17 26)) rfl (by kernel_rfl) hQ trivial hS (fun w _ hS => Chain.ev_move f57.ev) (F.lt (by decide)) fun a16 N => ?_
  replace F := F.next N (by decide)
  clear f57
  have f58 := N.got
  clear N a15
  refine Ord.take R (k := 17) (v := .pointer (some ⟨g, 0, none⟩)) (bs' := (Ord.upto 18 26)) rfl (by kernel_rfl) hQ (R.opened (j := 16) rfl f58) hS (fun w _ hS => Chain.ev_move F.s4.ev) (F.lt (by decide)) fun a17 N => ?_
  replace F := F.next N (by decide)
  replace f58 := N.keep 58 _ (by decide) f58
  have f59 := N.got
  clear N a16
  refine Ord.take R (k := 19) (v := .pointer (some ⟨gr, 0, none⟩)) (bs' := [true, true, true, true, true, true, true, true, true, true, true, true, true, true, true, true, true, true, false, true, false, false, false, false, false, false]) rfl (by kernel_rfl) hQ (R.opened (j := 16) rfl f58) hS (fun w _ hS => Chain.ev_move F.s5.ev) (F.lt (by decide)) fun a19 N => ?_
  replace F := F.next N (by decide)
  replace f58 := N.keep 58 _ (by decide) f58
  replace f59 := N.keep 59 _ (by decide) f59
  have f61 := N.got
  clear N a17
  refine Ord.take R (k := 20) (v := .pointer (some ⟨gr, 0, none⟩)) (bs' := [true, true, true, true, true, true, true, true, true, true, true, true, true, true, true, true, true, true, false, true, true, false, false, false, false, false]) rfl (by kernel_rfl) hQ (R.opened (j := 16) rfl f58) hS (fun w _ hS => by have e61 := f61; unfold Chain.At at e61; clear F; go_simp) (F.lt (by decide)) fun a20 N => ?_
  replace F := F.next N (by decide)
  replace f58 := N.keep 58 _ (by decide) f58
  replace f59 := N.keep 59 _ (by decide) f59
  clear f61
  have f62 := N.got
  clear N a19
  refine Ord.take R (k := 21) (v := .pointer (some ⟨gr, 0, none⟩)) (bs' := [true, true, true, true, true, true, true, true, true, true, true, true, true, true, true, true, true, true, false, true, true, true, false, false, false, false]) rfl (by kernel_rfl) hQ (R.opened (j := 16) rfl f58) hS (fun w _ hS => by have e62 := f62; unfold Chain.At at e62; clear F; go_simp) (F.lt (by decide)) fun a21 N => ?_
  replace F := F.next N (by decide)
  replace f58 := N.keep 58 _ (by decide) f58
  replace f59 := N.keep 59 _ (by decide) f59
  clear f62
  have f63 := N.got
  clear N a20
  refine Ord.take R (k := 22) (v := .int .i64 pl) (bs' := [true, true, true, true, true, true, true, true, true, true, true, true, true, true, true, true, true, true, false, true, true, true, true, false, false, false]) rfl (by kernel_rfl) hQ (R.opened (j := 16) rfl f58) hS (fun w _ hS => by have e63 := f63; unfold Chain.At at e63; have q0 := (cp w hS); clear F; go_simp) (F.lt (by decide)) fun a22 N => ?_
  replace F := F.next N (by decide)
  replace f58 := N.keep 58 _ (by decide) f58
  replace f59 := N.keep 59 _ (by decide) f59
  clear f63
  have f64 := N.got
  clear N a21
  refine Ord.take R (k := 23) (v := .bool (pl == 0)) (bs' := [true, true, true, true, true, true, true, true, true, true, true, true, true, true, true, true, true, true, false, true, true, true, true, true, false, false]) rfl (by kernel_rfl) hQ (R.opened (j := 16) rfl f58) hS (fun w _ hS => by have e64 := f64; unfold Chain.At at e64; clear F; go_simp) (F.lt (by decide)) fun a23 N => ?_
  replace F := F.next N (by decide)
  replace f58 := N.keep 58 _ (by decide) f58
  replace f59 := N.keep 59 _ (by decide) f59
  clear f64
  have f65 := N.got
  clear N a22
  refine Ord.call R (k := 18) (args := #[.pointer (some ⟨g, 0, none⟩)]) (bs' := (Ord.upto 24 26)) rfl (by kernel_rfl) (R.opened (j := 16) rfl f58) (by simp [f59.ev]) (by kernel_rfl) (QW _ hS) (F.lt (by decide)) ?_
  rintro e w ⟨rfl, rfl⟩
  replace hS := hS
  refine ⟨_, rfl, hS, fun a18 N => ?_⟩
  replace F := F.next N (by decide)
  replace f58 := N.keep 58 _ (by decide) f58
  clear f59
  replace f65 := N.keep 65 _ (by decide) f65
  have f60 := N.got
  clear N a23
  refine Ord.take R (k := 24) (v := .bool false) (bs' := (Ord.upto 25 26)) rfl (by kernel_rfl) hQ (R.opened (j := 16) rfl f58) hS (fun w _ hS => by have e60 := f60; unfold Chain.At at e60; have e65 := f65; unfold Chain.At at e65; have q0 := hqq; clear F; go_simp) (F.lt (by decide)) fun a24 N => ?_
  replace F := F.next N (by decide)
  replace f58 := N.keep 58 _ (by decide) f58
  clear f60
  clear f65
  have f66 := N.got
  clear N a18
  refine Ord.take R (k := 25) (v := .bool false) (bs' := (Ord.upto 26 26)) rfl (by kernel_rfl) hQ trivial hS (fun w _ hS => Ord.ev_pick_no f58.ev f66.ev) (F.lt (by decide)) fun a25 N => ?_
  replace F := F.next N (by decide)
  clear f58
  clear f66
  have f67 := N.got
  clear N a24
  exact Ord.finish R (by kernel_rfl) (h _ _ hS F f67)

set_option maxRecDepth 100000 in
/-- The frame written out, its known slots in their places. -/
theorem ask_frame {a : Act} {w : World} {K : Act → World → Prop} {v0 v1 v2 v3 v4 v5 v6 v7 v8 v9 v10 v11 v12 v13 v14 v15 v16 v67 : Value} (hz : a.tmps.size = 68) (hd : a.defers = []) (f0 : Chain.At a 0 v0) (f1 : Chain.At a 1 v1) (f2 : Chain.At a 2 v2) (f3 : Chain.At a 3 v3) (f4 : Chain.At a 4 v4) (f5 : Chain.At a 5 v5) (f6 : Chain.At a 6 v6) (f7 : Chain.At a 7 v7) (f8 : Chain.At a 8 v8) (f9 : Chain.At a 9 v9) (f10 : Chain.At a 10 v10) (f11 : Chain.At a 11 v11) (f12 : Chain.At a 12 v12) (f13 : Chain.At a 13 v13) (f14 : Chain.At a 14 v14) (f15 : Chain.At a 15 v15) (f16 : Chain.At a 16 v16) (f67 : Chain.At a 67 v67)
    (h : ∀ u17 u18 u19 u20 u21 u22 u23 u24 u25 u26 u27 u28 u29 u30 u31 u32 u33 u34 u35 u36 u37 u38 u39 u40 u41 u42 u43 u44 u45 u46 u47 u48 u49 u50 u51 u52 u53 u54 u55 u56 u57 u58 u59 u60 u61 u62 u63 u64 u65 u66 : Value, K ⟨#[v0, v1, v2, v3, v4, v5, v6, v7, v8, v9, v10, v11, v12, v13, v14, v15, v16, u17, u18, u19, u20, u21, u22, u23, u24, u25, u26, u27, u28, u29, u30, u31, u32, u33, u34, u35, u36, u37, u38, u39, u40, u41, u42, u43, u44, u45, u46, u47, u48, u49, u50, u51, u52, u53, u54, u55, u56, u57, u58, u59, u60, u61, u62, u63, u64, u65, u66, v67], []⟩ w) : K a w := by
  have e := Ord.frame_out hz hd
  have r : (List.range 68).map (fun i => a.tmps.toList.getD i undef) = [a.tmps.toList.getD 0 undef, a.tmps.toList.getD 1 undef, a.tmps.toList.getD 2 undef, a.tmps.toList.getD 3 undef, a.tmps.toList.getD 4 undef, a.tmps.toList.getD 5 undef, a.tmps.toList.getD 6 undef, a.tmps.toList.getD 7 undef, a.tmps.toList.getD 8 undef, a.tmps.toList.getD 9 undef, a.tmps.toList.getD 10 undef, a.tmps.toList.getD 11 undef, a.tmps.toList.getD 12 undef, a.tmps.toList.getD 13 undef, a.tmps.toList.getD 14 undef, a.tmps.toList.getD 15 undef, a.tmps.toList.getD 16 undef, a.tmps.toList.getD 17 undef, a.tmps.toList.getD 18 undef, a.tmps.toList.getD 19 undef, a.tmps.toList.getD 20 undef, a.tmps.toList.getD 21 undef, a.tmps.toList.getD 22 undef, a.tmps.toList.getD 23 undef, a.tmps.toList.getD 24 undef, a.tmps.toList.getD 25 undef, a.tmps.toList.getD 26 undef, a.tmps.toList.getD 27 undef, a.tmps.toList.getD 28 undef, a.tmps.toList.getD 29 undef, a.tmps.toList.getD 30 undef, a.tmps.toList.getD 31 undef, a.tmps.toList.getD 32 undef, a.tmps.toList.getD 33 undef, a.tmps.toList.getD 34 undef, a.tmps.toList.getD 35 undef, a.tmps.toList.getD 36 undef, a.tmps.toList.getD 37 undef, a.tmps.toList.getD 38 undef, a.tmps.toList.getD 39 undef, a.tmps.toList.getD 40 undef, a.tmps.toList.getD 41 undef, a.tmps.toList.getD 42 undef, a.tmps.toList.getD 43 undef, a.tmps.toList.getD 44 undef, a.tmps.toList.getD 45 undef, a.tmps.toList.getD 46 undef, a.tmps.toList.getD 47 undef, a.tmps.toList.getD 48 undef, a.tmps.toList.getD 49 undef, a.tmps.toList.getD 50 undef, a.tmps.toList.getD 51 undef, a.tmps.toList.getD 52 undef, a.tmps.toList.getD 53 undef, a.tmps.toList.getD 54 undef, a.tmps.toList.getD 55 undef, a.tmps.toList.getD 56 undef, a.tmps.toList.getD 57 undef, a.tmps.toList.getD 58 undef, a.tmps.toList.getD 59 undef, a.tmps.toList.getD 60 undef, a.tmps.toList.getD 61 undef, a.tmps.toList.getD 62 undef, a.tmps.toList.getD 63 undef, a.tmps.toList.getD 64 undef, a.tmps.toList.getD 65 undef, a.tmps.toList.getD 66 undef, a.tmps.toList.getD 67 undef] := rfl
  rw [r, Ord.at_get f0, Ord.at_get f1, Ord.at_get f2, Ord.at_get f3, Ord.at_get f4, Ord.at_get f5, Ord.at_get f6, Ord.at_get f7, Ord.at_get f8, Ord.at_get f9, Ord.at_get f10, Ord.at_get f11, Ord.at_get f12, Ord.at_get f13, Ord.at_get f14, Ord.at_get f15, Ord.at_get f16, Ord.at_get f67] at e
  rw [e]
  exact h _ _ _ _ _ _ _ _ _ _ _ _ _ _ _ _ _ _ _ _ _ _ _ _ _ _ _ _ _ _ _ _ _ _ _ _ _ _ _ _ _ _ _ _ _ _ _ _ _ _

end Esc
end Go.Proofs.YtibihjcpkdfgeaaGreatDoor
namespace Go.Proofs.YtibihjcpkdfgeaaGreatDoor
open Go.ChangeShapes Go.WideShapes Go.ChangeAt Go.RowKit
namespace Esc

theorem not_typed {w : World} {k : Nat} {e e' : TypeId} (h : Typed w e k) (hne : e ≠ e') : ¬ Typed w e' k := fun h' => h.apart h' hne rfl
theorem PAt.turned {M : Nat → Prop} {w w' : World} {g : Nat} {v : Value} {st : St} (h : PAt w g v st) (ht : Turned M w w') (hM : ∀ k, M k → ¬ Typed w 29 k ∧ ¬ Typed w 5 k) : PAt w' g v st :=
  ⟨(ht.block g h.cells.lt (fun m => (hM g m).1 ⟨_, _, h.cells⟩)).trans h.cells, h.text.turned ht (fun k m => (hM k m).2)⟩
theorem RAt.turned {M : Nat → Prop} {w w' : World} {g : Nat} {v : Value} {st : St} (h : RAt w g v st) (ht : Turned M w w') (hM : ∀ k, M k → ¬ Typed w 32 k ∧ ¬ Typed w 21 k) : RAt w' g v st :=
  h.kept (ht.block g h.lt (fun m => (hM g m).1 ⟨_, _, h.cells⟩)) (fun k _ ty => by
    obtain ⟨cs, fr, e⟩ := ty
    exact ht.block k (Array.getElem?_eq_some_iff.1 e).1 (fun m => (hM k m).2 ⟨cs, fr, e⟩))
theorem HasB.typed' {w : World} {base : Nat} {v : Value} {xs : List Int} (h : HasB w base v xs) : ∀ k, v.ownBlock = some k → base ≤ k ∧ Typed w 5 k := by
  intro k e
  rcases h.2 with ⟨rfl, _⟩ | ⟨g, cap, cur, rfl, e2, e3, _⟩
  · cases e
  · injection e with e
    subst e
    exact ⟨e2, _, _, e3⟩
/-- What the program's parser may turn is a parser, or bytes. -/
theorem PAt.owns {w : World} {g : Nat} {v : Value} {st : St} (h : PAt w g v st) {k : Nat} (m : Own g v k) : g ≤ k ∧ (Typed w 29 k ∨ Typed w 5 k) := by
  rcases m with rfl | m
  · exact ⟨Nat.le_refl _, .inl ⟨_, _, h.cells⟩⟩
  · obtain ⟨h1, h2⟩ := HasB.typed' h.text k m
    exact ⟨h1, .inr h2⟩
/-- What the reference's parser may turn is a parser, or signs. -/
theorem RAt.owns {w : World} {g : Nat} {v : Value} {st : St} (h : RAt w g v st) {k : Nat} (m : Own g v k) : g ≤ k ∧ (Typed w 32 k ∨ Typed w 21 k) := by
  rcases m with rfl | m
  · exact ⟨Nat.le_refl _, .inl ⟨_, _, h.cells⟩⟩
  · obtain ⟨t, ht⟩ := h.old
    exact ⟨(ht.lt k m).1, .inr (ht.typed k m)⟩
/-- The two parsers, side by side. -/
structure Two (w0 : World) (g gr : Nat) (v vr : Value) (st : St) (W : World) : Prop where
  old : Below w0.heap.size w0 W
  g0 : w0.heap.size ≤ g
  gr0 : w0.heap.size ≤ gr
  code : PAt W g v st
  ref : RAt W gr vr st
theorem Two.putCode {w0 W W' : World} {g gr : Nat} {v vr v' : Value} {st st' : St} (h : Two w0 g gr v vr st W) (_ : PAt W' g v' st') (t : Turned (Own g v) W W') : Below w0.heap.size w0 W' ∧ RAt W' gr vr st :=
  ⟨h.old.trans (t.toBelow h.old.size (fun k hk m => by have := (h.code.owns m).1; have := h.g0; omega)), h.ref.turned t (fun k m => by
    rcases (h.code.owns m).2 with ty | ty
    · exact ⟨not_typed ty (by decide), not_typed ty (by decide)⟩
    · exact ⟨not_typed ty (by decide), not_typed ty (by decide)⟩)⟩
theorem putRef {w0 W W' : World} {g gr : Nat} {v vr vr' : Value} {st st' : St} (ho : Below w0.heap.size w0 W) (hg : w0.heap.size ≤ gr) (hr : RAt W gr vr st) (_ : RAt W' gr vr' st') (t : Turned (Own gr vr) W W') {st2 : St} (hc : PAt W g v st2) : Below w0.heap.size w0 W' ∧ PAt W' g v st2 :=
  ⟨ho.trans (t.toBelow ho.size (fun k hk m => by have := (hr.owns m).1; omega)), hc.turned t (fun k m => by
    rcases (hr.owns m).2 with ty | ty
    · exact ⟨not_typed ty (by decide), not_typed ty (by decide)⟩
    · exact ⟨not_typed ty (by decide), not_typed ty (by decide)⟩)⟩
theorem EvIs.turned {M : Nat → Prop} {w w' : World} {base : Nat} {ev : Value} {o : Option Ev} (h : EvIs w base ev o) (ht : Turned M w w') (hM : ∀ k, M k → ¬ Typed w 37 k ∧ ¬ Typed w 3 k) : EvIs w' base ev o := by
  cases o with
  | none => exact h
  | some x =>
    obtain ⟨b, va, h1, h2, h3, h4⟩ := h
    exact ⟨b, va, h1, h2, (ht.block b (Array.getElem?_eq_some_iff.1 h3).1 (fun m => (hM b m).1 ⟨_, _, h3⟩)).trans h3, h4.kept fun k e => ht.block k (h4.lt k e).2 (fun m => (hM k m).2 (numsTyped h4 k e))⟩
set_option maxRecDepth 100000 in
set_option maxHeartbeats 12800000 in
theorem escAll_walk (HB : ∀ w, Spans w → Calls Tryz.prog 22 #[] w fun e w' => e = .returned (.bool true) ∧ Below w.heap.size w w') (A : Option Addr) (n c : Nat) (l : List Int) (w : World) (hs : Spans w) (hr : Runes l) (hq : Sq w w.heap.size 1 n A (l.map (Value.int .i32))) :
    Calls Tryz.prog 3 #[.slice A n c] w fun e w' => e = .returned (.bool true) ∧ Below w.heap.size w w' := by
  have S := Lib.hid hs
  have Q := Lib.hid hq
  have RU := Lib.hid hr
  have LN := Lib.hid hq.size_ints
  clear hs hq hr
  go_enter Tryz.func3, Tryz.ntmps3
  go_wp2_with fail
  refine (HB w S.out).mono ?_
  rintro e w1 ⟨rfl, b1⟩
  have B1 := Lib.hid b1
  clear b1
  go_wp2_with fail
  have b2 := (Below.refl w1.heap.size w1).alloc (Nat.le_refl _) (.cells (pcells 0 false 0 (fun _ => 0) (.slice none 0 0)) 29)
  have p2 : PCells (w1.alloc (.cells (pcells 0 false 0 (fun _ => 0) (.slice none 0 0)) 29)) w1.heap.size (pcells 0 false 0 (fun _ => 0) (.slice none 0 0)) := heap_alloc_new w1 _
  have hz2 : (w1.alloc (.cells (pcells 0 false 0 (fun _ => 0) (.slice none 0 0)) 29)).heap.size = w1.heap.size + 1 := by simp
  obtain ⟨w2, hw2⟩ : ∃ w2, w1.alloc (.cells (pcells 0 false 0 (fun _ => 0) (.slice none 0 0)) 29) = w2 := ⟨_, rfl⟩
  have HW2 := Lib.hid hw2
  rw [hw2] at b2 p2 hz2
  have b3 := (Below.refl w2.heap.size w2).alloc (Nat.le_refl _) (.cells #[.int .i64 0, .slice none 0 0] 32)
  have r3 : RCells (w2.alloc (.cells #[.int .i64 0, .slice none 0 0] 32)) (w1.heap.size + 1) #[.int .i64 0, .slice none 0 0] := by rw [← hz2]; exact heap_alloc_new w2 _
  have TW := Lib.hid (show Two w w1.heap.size (w1.heap.size + 1) (.slice none 0 0) (.slice none 0 0) .rest (w2.alloc (.cells #[.int .i64 0, .slice none 0 0] 32)) from
    ⟨(B1.out.trans (b2.mono B1.out.size)).trans (b3.mono (Nat.le_trans B1.out.size (by omega))), B1.out.size, by have := B1.out.size; omega, ⟨(b3.block _ (by omega)).trans p2, HasB.nothing _ _⟩, ⟨r3, ⟨[], World.ownsRow_nil _ _ _ _⟩, fun t h => by cases h⟩⟩)
  obtain ⟨g, hg⟩ : ∃ g, w1.heap.size = g := ⟨_, rfl⟩
  obtain ⟨gr, hgr⟩ : ∃ gr, g + 1 = gr := ⟨_, rfl⟩
  rw [hg, hgr] at TW ⊢
  have hgg : g ≠ gr := by omega
  clear b2 p2 hz2 b3 r3 hg hgr B1
  change Code.wp _ _ _ _ (((w1.alloc (.cells (pcells 0 false 0 (fun _ => 0) (.slice none 0 0)) 29)).alloc (.cells #[.int .i64 0, .slice none 0 0] 32)))
  rw [HW2.out]
  clear HW2 hw2
  generalize w2.alloc (.cells #[.int .i64 0, .slice none 0 0] 32) = w3 at TW ⊢
  go_loopw [6, 7, 8, 9] (fun i _ _ _ wr => ∃ (k : Nat) (v vr : Value), i = .int .i64 k ∧ k ≤ n ∧ k ≤ 120 ∧ Hid (Two w g gr v vr (runS .rest (l.take k)) wr)) (fun i _ _ _ _ => n - (intOf i).toNat)
  case atStart => exact ⟨0, _, _, rfl, Nat.zero_le _, Nat.zero_le _, TW⟩
  case round =>
    obtain ⟨k, v, vr, rfl, hk, hk120, T⟩ := hrel
    clear TW
    by_cases hlt : k < n ∧ k < 120
    · obtain ⟨h1, h2⟩ := hlt
      obtain ⟨bq, off, rfl, hbq, hc0⟩ := Q.out.int_at h1
      obtain ⟨st, hst⟩ : ∃ st, runS .rest (l.take k) = st := ⟨_, rfl⟩
      have hsz : sizeS st ≤ 1000000 := by
        have := sizeS_run (l.take k) .rest
        have h3 : (l.take k).length ≤ k := List.length_take_le _ _
        rw [hst] at this
        have e0 : sizeS .rest = 0 := rfl
        omega
      have NX := Lib.hid (show runS .rest (l.take (k + 1)) = stepS st (nth l k) by rw [take_next (by have := LN.out; omega), runS_snoc, hst])
      have hrr := RU.out.get k
      rw [hst] at T
      obtain ⟨r, hrk⟩ : ∃ r, nth l k = r := ⟨_, rfl⟩
      rw [hrk] at hc0 NX hrr
      have HC := Lib.hid hc0
      have hc : wr.cell? ⟨bq, off + k, none⟩ = some (.int .i32 r) := (T.out.old.cell (p := ⟨bq, off + k, none⟩) hbq).trans hc0
      clear hc0
      obtain ⟨hr0, hr1⟩ := hrr
      clear hst hrk
      go_wp2_with fail
      refine (put_walk g v st r wr T.out.code hsz hr0 hr1).mono ?_
      rintro e w4 ⟨ev, v4, rfl, ev4, p4, t4⟩
      obtain ⟨o4, r4⟩ := T.out.putCode p4 t4
      have hc4 : w4.cell? ⟨bq, off + k, none⟩ = some (.int .i32 r) := (o4.cell (p := ⟨bq, off + k, none⟩) hbq).trans HC.out
      have O4 := Lib.hid o4
      have R4 := Lib.hid r4
      have P4 := Lib.hid p4
      have EV4 := Lib.hid ev4
      have G0 := Lib.hid T.out.g0
      have GR0 := Lib.hid T.out.gr0
      have hev : ∃ A6 n6 c6, ev = .slice A6 n6 c6 := by
        revert ev4
        cases stepE st r with
        | none => intro e; exact ⟨_, _, _, e⟩
        | some x => rintro ⟨_, _, e, _⟩; exact ⟨_, _, _, e⟩
      obtain ⟨A6, n6, c6, rfl⟩ := hev
      clear o4 r4 p4 ev4 t4 T hc
      go_wp2_with fail
      refine (rput_walk gr vr st r w4 R4.out hsz hr0 hr1).mono ?_
      rintro e w5 ⟨kk, rr, A5, n5, c5, ss, v5, rfl, hx5, r5, t5⟩
      have op := putRef O4.out GR0.out R4.out r5 t5 P4.out
      have O5 := Lib.hid op.1
      have P5 := Lib.hid op.2
      have R5 := Lib.hid r5
      have EV5 := Lib.hid (EV4.out.turned t5 (fun k m => by
        rcases (R4.out.owns m).2 with ty | ty
        · exact ⟨not_typed ty (by decide), not_typed ty (by decide)⟩
        · exact ⟨not_typed ty (by decide), not_typed ty (by decide)⟩))
      have HX5 := Lib.hid hx5
      clear op r5 t5 hx5 hc4 O4 R4 P4 EV4
      go_upto_region 10 with fail
      have b6 := (Below.refl w5.heap.size w5).alloc (Nat.le_refl _) (.cells #[.int .i64 kk, .int .i32 rr, .slice A5 n5 c5, .string ss] 37)
      have O6 := Lib.hid (O5.out.trans (b6.mono O5.out.size))
      have P6 := Lib.hid (P5.out.laid b6)
      have R6 := Lib.hid (R5.out.laid b6)
      have E6 := Lib.hid (show ECells (w5.alloc (.cells #[.int .i64 kk, .int .i32 rr, .slice A5 n5 c5, .string ss] 37)) w5.heap.size #[.int .i64 kk, .int .i32 rr, .slice A5 n5 c5, .string ss] from heap_alloc_new w5 _)
      have EV6 := Lib.hid (EV5.out.turned (Turned.ofBelow b6 (fun _ => False)) (fun k m => m.elim))
      obtain ⟨g8, hg8⟩ : ∃ g8, w5.heap.size = g8 := ⟨_, rfl⟩
      have HX6 := Lib.hid (show ∀ x, stepE st r = some x → kk = x.kind ∧ rr = x.r ∧ ss = ⟨x.text.toArray⟩ ∧ Nums (w5.alloc (.cells #[.int .i64 kk, .int .i32 rr, .slice A5 n5 c5, .string ss] 37)) w4.heap.size (.slice A5 n5 c5) x.args from fun x hx => by
        obtain ⟨h1, h2, h3, h4⟩ := HX5.out x hx
        exact ⟨h1, h2, h3, h4.kept fun q e => b6.block q (h4.lt q e).2⟩)
      rw [hg8] at E6 ⊢
      clear b6 hg8 O5 P5 R5 EV5 HX5
      generalize w5.alloc (.cells #[.int .i64 kk, .int .i32 rr, .slice A5 n5 c5, .string ss] 37) = w6 at O6 P6 R6 E6 EV6 HX6 ⊢
      obtain ⟨st', hst'⟩ : ∃ st', stepS st r = st' := ⟨_, rfl⟩
      rw [hst'] at P6 R6 NX
      clear hst'
      obtain ⟨pl, hpl⟩ : ∃ pl, placeN st' = pl := ⟨_, rfl⟩
      have hqq : quiet st' = (pl == 0) := by rw [← hpl, quiet_place]
      have RC := Lib.hid (show RCells w6 gr #[.int .i64 pl, v5] by rw [← hpl]; exact R6.out.cells)
      clear hpl
      go_cut [9, 67] from 17 to 67 (fun s9 s67 wx => s9 = .bool (stepE st r).isSome ∧ s67 = .bool false ∧ Hid (Below w6.heap.size w6 wx))
      case first =>
        have QW : ∀ w, Below w6.heap.size w6 w → Calls Tryz.prog 27 #[.pointer (some ⟨g, 0, none⟩)] w fun e w' => e = .returned (.bool (quiet st')) ∧ w = w' := fun w hb => quiet_walk g v4 st' w (P6.out.laid hb)
        have CP : ∀ w, Below w6.heap.size w6 w → w.cell? ⟨gr, 0, none⟩ = some (.int .i64 pl) := fun w hb => cell_of_row _ gr 0 _ _ (0, 0) ((hb.block gr R6.out.lt).trans RC.out)
        cases ho : stepE st r with
        | none =>
          have e6 := EV6.out
          rw [ho] at e6
          injection e6 with e6 e7 e8
          subst e6 e7 e8
          clear EV6 HX6 E6
          refine Ord.start (S := fun w' => Below w6.heap.size w6 w') (n := 26) (by kernel_rfl) (by kernel_rfl) (Below.refl w6.heap.size w6).drew ?_
          apply ask_none (g := g) (gr := gr) (g8 := g8) (pl := pl) (qb := quiet st') (p0 := .slice (some ⟨bq, off, none⟩) n c) (p1 := undef) (p2 := u2) (p3 := .bool true) (p6 := .int .i64 (k : Int)) (p10 := .bool true) (p11 := .bool true) (p12 := .bool false) (p13 := .agg #[.int .i64 0, .bool false, .int .i64 0, .int .i64 0, .int .i64 0, .int .i64 0, .int .i64 0, .int .i64 0, .int .i64 0, .int .i64 0, .int .i64 0, .slice none 0 0]) (p14 := .pointer (some ⟨g, 0, none⟩)) (p15 := .agg #[.int .i64 0, .slice none 0 0]) (p16 := .pointer (some ⟨gr, 0, none⟩))
          case R => exact ⟨by kernel_rfl, by kernel_rfl⟩
          case hQ => exact fun _ _ _ _ _ h => h
          case QW => exact QW
          case cp => exact CP
          case hqq => exact hqq
          case B2 => exact fun w => b2i_walk false w
          case F => exact ⟨rfl, rfl, rfl, rfl, rfl, rfl, rfl, rfl, rfl, rfl, rfl, rfl, rfl, rfl, rfl, rfl, rfl, rfl, rfl⟩
          case hS => exact (Below.refl w6.heap.size w6).drew
          intro a2 w2 hS2 F2 f67
          refine ask_frame F2.size F2.defers F2.s0 F2.s1 F2.s2 F2.s3 F2.s4 F2.s5 F2.s6 F2.s7 F2.s8 F2.s9 F2.s10 F2.s11 F2.s12 F2.s13 F2.s14 F2.s15 F2.s16 f67 ?_
          intros
          dsimp only
          go_wp2
          go_meet
          exact ⟨by rw [ho]; rfl, rfl, Lib.hid hS2⟩
        | some x =>
          obtain ⟨b, va, ea, hb4, eb, na⟩ := (show EvIs w6 wr.heap.size (.slice A6 n6 c6) (some x) by rw [← ho]; exact EV6.out)
          obtain ⟨h1, h2, h3, h4⟩ := HX6.out x ho
          subst h1 h2 h3
          obtain ⟨A7, c7, rfl⟩ := nums_shape na
          obtain ⟨A8, c8, e8⟩ := nums_shape h4
          injection e8 with e8 e9 e10
          subst e8 e9 e10
          injection ea with e1 e2 e3
          subst e1 e2 e3
          obtain ⟨m, hm⟩ : ∃ m, x.args.length = m := ⟨_, rfl⟩
          have CA : ∀ w, Below w6.heap.size w6 w → ECells w b #[.int .i64 x.kind, .int .i32 x.r, .slice A7 m c7, .string ⟨x.text.toArray⟩] := fun w hb => (hb.block b (Array.getElem?_eq_some_iff.1 eb).1).trans (by rw [← hm]; exact eb)
          have CB : ∀ w, Below w6.heap.size w6 w → ECells w g8 #[.int .i64 x.kind, .int .i32 x.r, .slice A5 m c5, .string ⟨x.text.toArray⟩] := fun w hb => (hb.block g8 (Array.getElem?_eq_some_iff.1 E6.out).1).trans (by rw [← hm]; exact E6.out)
          have NA : ∀ w, Below w6.heap.size w6 w → Sq w w.heap.size 1 m A7 (x.args.map (Value.int .i64)) := fun w hb => by
            have h := na.kept (W' := w) (fun q e => hb.block q (na.lt q e).2)
            rw [hm] at h
            have h' : w.ownsRow wr.heap.size 3 1 (.slice A7 m c7) m (x.args.map (Value.int .i64)) := by unfold Nums at h; rw [hm] at h; exact h
            exact Sq.own h'
          have NB : ∀ w, Below w6.heap.size w6 w → Sq w w.heap.size 1 m A5 (x.args.map (Value.int .i64)) := fun w hb => by
            have h := h4.kept (W' := w) (fun q e => hb.block q (h4.lt q e).2)
            have h' : w.ownsRow w4.heap.size 3 1 (.slice A5 m c5) m (x.args.map (Value.int .i64)) := by unfold Nums at h; rw [hm] at h; exact h
            exact Sq.own h'
          have hm6 : m ≤ 1000000 := by have := stepE_args ho; omega
          have EQ : ∀ w, Below w6.heap.size w6 w → Calls Tryz.prog 26 #[evV x.kind x.r A7 m c7 ⟨x.text.toArray⟩, evV x.kind x.r A5 m c5 ⟨x.text.toArray⟩] w fun e w' => e = .returned (.bool true) ∧ Below w.heap.size w w' := fun w hb => eqEvent_walk _ _ _ _ _ _ _ _ x.args w hm6 (NA w hb) (NB w hb)
          rw [hm]
          clear EV6 HX6 eb na h4
          refine Ord.start (S := fun w' => Below w6.heap.size w6 w') (n := 26) (by kernel_rfl) (by kernel_rfl) (Below.refl w6.heap.size w6).drew ?_
          apply ask_some (g := g) (gr := gr) (g8 := g8) (b := b) (pl := pl) (qb := quiet st') (kk := x.kind) (rr := x.r) (Av := A7) (A5 := A5) (nv := m) (cv := c7) (c5 := c5) (ss := ⟨x.text.toArray⟩) (p0 := .slice (some ⟨bq, off, none⟩) n c) (p1 := undef) (p2 := u2) (p3 := .bool true) (p6 := .int .i64 (k : Int)) (p10 := .bool true) (p11 := .bool true) (p12 := .bool false) (p13 := .agg #[.int .i64 0, .bool false, .int .i64 0, .int .i64 0, .int .i64 0, .int .i64 0, .int .i64 0, .int .i64 0, .int .i64 0, .int .i64 0, .int .i64 0, .slice none 0 0]) (p14 := .pointer (some ⟨g, 0, none⟩)) (p15 := .agg #[.int .i64 0, .slice none 0 0]) (p16 := .pointer (some ⟨gr, 0, none⟩))
          case R => exact ⟨by kernel_rfl, by kernel_rfl⟩
          case hQ => exact fun _ _ _ _ _ h => h
          case QW => exact QW
          case cp => exact CP
          case hqq => exact hqq
          case B2 => exact fun w => b2i_walk true w
          case ca0 => exact fun w hb => cell_of_row _ b 0 _ _ (0, 0) (CA w hb)
          case ca1 => exact fun w hb => cell_of_row _ b 1 _ _ (0, 0) (CA w hb)
          case ca2 => exact fun w hb => cell_of_row _ b 2 _ _ (0, 0) (CA w hb)
          case ca3 => exact fun w hb => cell_of_row _ b 3 _ _ (0, 0) (CA w hb)
          case cb0 => exact fun w hb => cell_of_row _ g8 0 _ _ (0, 0) (CB w hb)
          case cb1 => exact fun w hb => cell_of_row _ g8 1 _ _ (0, 0) (CB w hb)
          case cb2 => exact fun w hb => cell_of_row _ g8 2 _ _ (0, 0) (CB w hb)
          case cb3 => exact fun w hb => cell_of_row _ g8 3 _ _ (0, 0) (CB w hb)
          case EQ => exact EQ
          case F => exact ⟨rfl, rfl, rfl, rfl, rfl, rfl, rfl, rfl, rfl, rfl, rfl, rfl, rfl, rfl, rfl, rfl, rfl, rfl, rfl⟩
          case hS => exact (Below.refl w6.heap.size w6).drew
          intro a2 w2 hS2 F2 f67
          refine ask_frame F2.size F2.defers F2.s0 F2.s1 F2.s2 F2.s3 F2.s4 F2.s5 F2.s6 F2.s7 F2.s8 F2.s9 F2.s10 F2.s11 F2.s12 F2.s13 F2.s14 F2.s15 F2.s16 f67 ?_
          intros
          dsimp only
          go_wp2
          go_meet
          exact ⟨by rw [ho]; rfl, rfl, Lib.hid hS2⟩
      case rest =>
        obtain ⟨rfl, rfl, BX⟩ := hcut
        have TN := Lib.hid (show Two w g gr v4 v5 (runS .rest (l.take (k + 1))) wc by
          rw [NX.out]
          exact ⟨O6.out.trans (BX.out.mono O6.out.size), G0.out, GR0.out, P6.out.laid BX.out, R6.out.laid BX.out⟩)
        clear O6 P6 R6 E6 EV6 HX6 RC
        go_wp2
        go_roundw
        case rel => exact ⟨k + 1, v4, v5, by go_num, by omega, by omega, TN⟩
        case measure => first | (simp [intOf]; done) | (simp [intOf]; omega)
    · have hex : (k < n ∧ 120 ≤ k) ∨ n ≤ k := by omega
      have OLD := Lib.hid T.out.old
      rcases hex with ⟨h1, h2⟩ | h1
      all_goals
        go_wp2
        go_ret
        exact ⟨rfl, OLD.out⟩
end Esc
end Go.Proofs.YtibihjcpkdfgeaaGreatDoor
