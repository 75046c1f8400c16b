/-
  The reference's parser of escapes: the numbers of a CSI. The reference's parser of escapes: Put. The reference's parser of escapes: Put, at rest, behind an escape. The reference's parser of escapes: Put, behind an escape, in a CSI, in an OSC.
-/
import Derived.Test.YtaclmhopcfgbmaaGreatDoorQEsc1
namespace Go.Proofs.YtaclmhopcfgbmaaGreatDoor
open Go.ChangeShapes Go.WideShapes Go.ChangeAt Go.RowKit
namespace Esc
theorem Nums.at {W : World} {base : Nat} {v : Value} {l : List Int} (h : Nums W base v l) (hl : 0 < l.length) : ∃ b c, v = .slice (some ⟨b, 0, none⟩) l.length c ∧ l.length ≤ c ∧ base ≤ b ∧ b < W.heap.size ∧ (∀ i x, l[i]? = some x → W.cell? ⟨b, i, none⟩ = some (.int .i64 x)) ∧ (∀ i, W.frozen? ⟨b, i, none⟩ = false) := by
 rcases h.2 with ⟨_, h0⟩ | ⟨g, cap, cur, e, e2, e3, e4, e5, e6, e7⟩
 ·omega
 ·refine ⟨g, cap, e, e4, e2, (Array.getElem?_eq_some_iff.1 e3).1, fun i x hx => ?_, fun i => frozen_of_row W g i _ _ e3⟩
  rw [cell_of_row W g i _ _ (0, 0) e3]
  have hi := (List.getElem?_eq_some_iff.1 hx).1
  have hm : (l.map (Value.int .i64))[i]? = some (.int .i64 x) := by rw [List.getElem?_map, hx]; rfl
  rw [← e7, List.getElem?_take, if_pos (by omega)] at hm
  rwa [Array.getElem?_toList] at hm
theorem Nums.set {W : World} {base b c : Nat} {l : List Int} {n : Nat} (h : Nums W base (.slice (some ⟨b, 0, none⟩) n c) l) (i : Nat) (x : Int) : Nums (W.setCell ⟨b, i, none⟩ (.int .i64 x)) base (.slice (some ⟨b, 0, none⟩) n c) (l.set i x) := by
 refine ⟨by rw [List.length_map, List.length_set]; omega, .inr ?_⟩
 rcases h.2 with ⟨e, _⟩ | ⟨g, cap, cur, e, e2, e3, e4, e5, e6, e7⟩
 ·cases e
 ·injection e with e ea eb
  injection e with e
  injection e with e
  subst e ea eb
  rw [List.length_set]
  refine ⟨b, c, _, rfl, e2, heap_setCell_same W b i _ _ _ e3, e4, e5, by simpa using e6, ?_⟩
  rw [Array.toList_setIfInBounds, List.map_set, ← e7, List.take_set]
theorem Nums.first {W : World} {base b c n : Nat} {l : List Int} (h : Nums W base (.slice (some ⟨b, 0, none⟩) n c) l) {m : Nat} (hm : m ≤ l.length) : Nums W base (.slice (some ⟨b, 0, none⟩) m c) (l.take m) := by
 have hlt : (l.take m).length = m := by rw [List.length_take]; omega
 refine ⟨by rw [List.length_map]; omega, .inr ?_⟩
 rcases h.2 with ⟨e, _⟩ | ⟨g, cap, cur, e, e2, e3, e4, e5, e6, e7⟩
 ·cases e
 ·injection e with e ea eb
  injection e with e
  injection e with e
  subst e ea eb
  rw [hlt]
  refine ⟨b, c, cur, rfl, e2, e3, by omega, e5, e6, ?_⟩
  rw [List.map_take, ← e7, List.take_take]
  congr 1
  omega
theorem bad_take {t : List Int} {k : Nat} (hk : k < t.length) : bad (t.take (k + 1)) = (bad (t.take k) || !okSign (nth t k)) := by rw [take_next hk, bad_snoc]
theorem bad_more {t : List Int} {k : Nat} (h : bad (t.take k) = true) : bad t = true := by
 have e : t = t.take k ++ t.drop k := (List.take_append_drop k t).symm
 rw [e]
 unfold bad at h ⊢
 rw [List.any_append, h, Bool.true_or]
def NumPost (t : List Int) (w : World) (e : Ending) (w' : World) : Prop :=
 ∃ va, e = .returned (.tuple #[va, .bool (!bad t)]) ∧ (bad t = false → Nums w' w.heap.size va (csiArgs t)) ∧ (∃ A n c, va = .slice A n c) ∧ Below w.heap.size w w'
set_option maxRecDepth 100000 in
set_option maxHeartbeats 6400000 in
theorem numbers_walk (A : Option Addr) (n c : Nat) (t : List Int) (w : World) (hn : n ≤ 1000000) (hq : Sq w w.heap.size 1 n A (t.map (Value.int .i32))) :
  Calls Tryz.prog 82 #[.slice A n c] w fun e w' => NumPost t w e w' := by
 obtain ⟨iI, hiI, iz0, iz1, iz2⟩ := info_parts infoInt
 have LN := Lib.hid hq.size_ints
 have Q := Lib.hid hq
 clear hq
 by_cases h0 : n = 0
 ·have e : t = [] := List.eq_nil_of_length_eq_zero (by have := LN.out; omega)
  subst e
  subst h0
  go_enter Tryz.func82, Tryz.ntmps82
  go_wp2
  go_ret2
  exact ⟨_, rfl, fun _ => Nums.nothing _ _, ⟨_, _, _, rfl⟩, Below.refl _ _⟩
 ·have hnb : ((n : Int) == 0) = false := by simp; omega
  have hne : t ≠ [] := by rintro rfl; have := LN.out; simp at this; omega
  have HNE := Lib.hid hne
  clear hne
  go_enter Tryz.func82, Tryz.ntmps82
  go_wp2_with fail
  have b1 := (Below.refl w.heap.size w).alloc (Nat.le_refl _) (.cells #[.int .i64 0] 3)
  have N1 := Lib.hid (show Nums (w.alloc (.cells #[.int .i64 0] 3)) w.heap.size (.slice (some ⟨w.heap.size, 0, none⟩) 1 1) [0] from ⟨rfl, .inr ⟨w.heap.size, 1, #[.int .i64 0], rfl, Nat.le_refl _, heap_alloc_new w _, Nat.le_refl _, by unfold maxLen; omega, rfl, rfl⟩⟩)
  have B1 := Lib.hid b1
  clear b1
  generalize w.alloc (.cells #[.int .i64 0] 3) = w1 at N1 B1 ⊢
  go_loopw [4, 5, 6] (fun va i _ wr => ∃ k : Nat, i = .int .i64 k ∧ k ≤ n ∧ Hid (Nums wr w.heap.size va (nums (t.take k))) ∧ Hid (bad (t.take k) = false) ∧ Hid (Below w.heap.size w wr)) (fun _ i _ _ => n - (intOf i).toNat)
  case atStart => exact ⟨0, rfl, Nat.zero_le _, N1, Lib.hid rfl, B1⟩
  case round =>
   obtain ⟨k, rfl, hk, NK, BK, BB⟩ := hrel
   clear N1 B1
   have hlen := nums_len (t.take k)
   have hlt0 : (t.take k).length ≤ k := List.length_take_le _ _
   obtain ⟨b, cp, rfl, hcp, hbb, hbl, hcell, hfree⟩ := NK.out.at (by omega)
   obtain ⟨m, hm⟩ : ∃ m, (nums (t.take k)).length = m := ⟨_, rfl⟩
   have HM := Lib.hid hm
   rw [hm] at hlen NK hcp ⊢
   have hm1 : m ≤ 1000002 := by omega
   obtain ⟨j, rfl⟩ : ∃ j, m = j + 1 := ⟨m - 1, by omega⟩
   by_cases hlt : k < n
   ·obtain ⟨bq, off, rfl, _, hc⟩ := (Q.out.below BB.out).int_at hlt
    have hbt := bad_take (t := t) (k := k) (by have := LN.out; omega)
    rw [BK.out, Bool.false_or] at hbt
    have hns := nums_snoc (t.take k) (nth t k)
    rw [← take_next (by have := LN.out; omega)] at hns
    obtain ⟨r, hr⟩ : ∃ r, nth t k = r := ⟨_, rfl⟩
    rw [hr] at hc hbt hns
    by_cases h59 : r = 59
    ·subst h59
     have hnn : nums (t.take (k + 1)) = nums (t.take k) ++ [0] := by rw [hns]; unfold stepN; rw [if_pos rfl]
     have b2 := (Below.refl wr.heap.size wr).alloc (Nat.le_refl _) (.cells #[.int .i64 0] 3)
     have NK2 := Lib.hid (show (wr.alloc (.cells #[.int .i64 0] 3)).ownsRow w.heap.size 3 1 (.slice (some ⟨b, 0, none⟩) (j + 1) cp) (j + 1) ((nums (t.take k)).map (Value.int .i64)) by
      have h := NK.out.kept (W' := wr.alloc (.cells #[.int .i64 0] 3)) (fun q e => b2.block q (NK.out.lt q e).2)
      unfold Nums at h
      rw [HM.out] at h
      exact h)
     have SQ2 := Lib.hid (sq_cells (w := wr.alloc (.cells #[.int .i64 0] 3)) (b := wr.heap.size) (off := 0) (l := [0]) (n := 1) rfl (by simp) (fun i x hx => by
      rw [cell_of_row _ wr.heap.size _ _ _ (0, 0) (heap_alloc_new wr _), Nat.zero_add]
      cases i with
      | zero => simp at hx; subst hx; rfl
      | succ i => simp at hx))
     have BK2 := Lib.hid (show bad (t.take (k + 1)) = false by rw [hbt]; rfl)
     have NN := Lib.hid hnn
     have hsw := BB.out.size
     have BB2 := Lib.hid (BB.out.alloc hsw (.cells #[.int .i64 0] 3))
     clear b2 hnn hns hbt hcell hfree
     go_wp2_with (
      at_builtin
      refine wpl_app rfl (.tmp 26) (.tmp 27) 33 rfl w.heap.size 3 iI (.int .i64 0) 1 8 Tryz.underlying33 hiI iz0 iz1 iz2 rfl (by omega) (.slice (some ⟨b, 0, none⟩) (j + 1) cp) (j + 1) ((nums (t.take k)).map (Value.int .i64)) rfl NK2.out (some ⟨wr.heap.size, 0, none⟩) 1 1 ([(0 : Int)].map (Value.int .i64)) rfl (wr.alloc (.cells #[.int .i64 0] 3)).heap.size SQ2.out (by intro u hu; simp at hu; subst hu; rfl) (by unfold maxLen; omega) (by omega) (by simp; omega) ?_
      intro v7 w7 h7 g7 _
      have N7 := Lib.hid (show Nums w7 w.heap.size v7 (nums (t.take (k + 1))) by
       unfold Nums
       rw [NN.out, List.map_append, List.length_append, HM.out]
       exact h7)
      have B7 := Lib.hid (BB2.out.grown g7 (by simp; omega) (fun q e => (by have e2 : b = q := (by injection e); omega)))
      clear h7 g7 NK2 SQ2 BB2)
     go_roundw
     case rel => exact ⟨k + 1, by go_num, by omega, N7, BK2, B7⟩
     case measure => first | (simp [intOf]; done) | (simp [intOf]; omega)
    ·have b59 : (r == 59) = false := by simp; omega
     by_cases hd : 48 ≤ r ∧ r ≤ 57
     ·obtain ⟨r0, r9⟩ := hd
      obtain ⟨x, hx⟩ : ∃ x, (nums (t.take k)).getD j 0 = x := ⟨_, rfl⟩
      have hxs : (nums (t.take k))[j]? = some x := by
       rw [← hx, List.getD_eq_getElem?_getD, List.getElem?_eq_getElem (by omega)]
       rfl
      obtain ⟨hx0, hx9⟩ := nums_range (t.take k) x (List.mem_of_getElem? hxs)
      have hok : okSign r = true := by simp [okSign, r0, r9]
      have BK2 := Lib.hid (show bad (t.take (k + 1)) = false by rw [hbt, hok]; rfl)
      have hnn : nums (t.take (k + 1)) = (nums (t.take k)).set j (min (x * 10 + (r - 48)) 9999) := by
       rw [hns]
       unfold stepN
       rw [if_neg h59, if_pos hok, HM.out, Nat.add_sub_cancel, hx]
      have di : wr.drew.cell? ⟨b, j, none⟩ = some (.int .i64 x) := hcell j x hxs
      have dfi : wr.drew.frozen? ⟨b, j, none⟩ = false := hfree j
      have dc : wr.drew.cell? ⟨bq, off + k, none⟩ = some (.int .i32 r) := hc
      have NS := Lib.hid (show ∀ w2, w2 = wr.drew.setCell ⟨b, j, none⟩ (.int .i64 (min (x * 10 + (r - 48)) 9999)) → Nums w2 w.heap.size (.slice (some ⟨b, 0, none⟩) (j + 1) cp) (nums (t.take (k + 1))) ∧ Below w.heap.size w w2 by
       rintro w2 rfl
       have h1 : Nums wr.drew w.heap.size (.slice (some ⟨b, 0, none⟩) (j + 1) cp) (nums (t.take k)) := NK.out.kept (fun _ _ => rfl)
       refine ⟨by rw [hnn]; exact h1.set j _, BB.out.drew.setCell (p := ⟨b, j, none⟩) hbb _⟩)
      have hj0 : (0 : Int) ≤ (j : Int) := by omega
      have hjl : (j : Int) < (j : Int) + 1 := by omega
      clear hnn hns hbt hcell hfree hx hxs hok hlt0 hlen HM NK BB BK
      go_wp2_with fail
      refine wp_region_still_tail 15 (by kernel_rfl) (by kernel_rfl) ?_
      rw [show ({ wr with drawn := wr.drawn + 1 } : World) = wr.drew from rfl]
      generalize wr.drew = wd at di dfi dc NS ⊢
      simp only [List.take_succ_cons, List.take_zero, List.drop_succ_cons, List.drop_zero]
      repeat still_step
      refine wpStill_nil ?_
      go_wp2_with fail
      go_roundw
      case rel => exact ⟨k + 1, by go_num, by omega, Lib.hid (NS.out _ rfl).1, BK2, Lib.hid (NS.out _ rfl).2⟩
      case measure => first | (simp [intOf]; done) | (simp [intOf]; omega)
     ·have hok : okSign r = false := by
       simp only [okSign, Bool.or_eq_false_iff, Bool.and_eq_false_iff, decide_eq_false_iff_not]
       exact ⟨b59, by omega⟩
      have hbad : bad t = true := bad_more (k := k + 1) (by rw [hbt, hok]; rfl)
      have DN := Lib.hid (show NumPost t w (.returned (.tuple #[.slice none 0 0, .bool false])) wr from ⟨_, by rw [hbad]; rfl, fun e => by (rw [hbad] at e; cases e), ⟨_, _, _, rfl⟩, BB.out⟩)
      clear hns hbt hcell hfree hok hlt0 hlen HM NK BB BK hbad
      by_cases h48 : 48 ≤ r
      ·have h57 : ¬ r ≤ 57 := by omega
       go_wp2
       go_ret2
       exact DN.out
      ·go_wp2
       go_ret2
       exact DN.out
   ·have hkn : t.take k = t := List.take_of_length_le (by have := LN.out; omega)
    rw [hkn] at HM NK BK
    obtain ⟨m8, hm8⟩ : ∃ m8, min (j + 1) 8 = m8 := ⟨_, rfl⟩
    have hmI : min ((j : Int) + 1) 8 = (m8 : Int) := by omega
    have hm0 : (0 : Int) ≤ (m8 : Int) := by omega
    have hmc : (m8 : Int) ≤ (cp : Int) := by omega
    have hcp0 : cp ≠ 0 := by omega
    have DN := Lib.hid (show NumPost t w (.returned (.tuple #[.slice (some ⟨b, 0, none⟩) m8 cp, .bool true])) wr from ⟨_, by rw [BK.out]; rfl, fun _ => by
     have h := NK.out.first (m := m8) (by have := HM.out; omega)
     have e : csiArgs t = (nums t).take m8 := by
      unfold csiArgs
      rw [if_neg HNE.out, ← hm8, ← HM.out]
      rw [List.take_eq_take_iff]
      omega
     rw [e]
     exact h, ⟨_, _, _, rfl⟩, BB.out⟩)
    clear hcell hfree hlt0 hlen HM NK BB BK hm8 hkn
    go_wp2_with fail
    go_ret2
    exact DN.out
end Esc
end Go.Proofs.YtaclmhopcfgbmaaGreatDoor
namespace Go.Proofs.YtaclmhopcfgbmaaGreatDoor
open Go.ChangeShapes Go.WideShapes Go.ChangeAt Go.RowKit
namespace Esc
variable {B : Nat}
def HasR (w : World) (base : Nat) (v : Value) (t : List Int) : Prop := w.ownsRow base 21 1 v t.length (t.map (Value.int .i32))
theorem HasR.shape {w : World} {base : Nat} {v : Value} {t : List Int} (h : HasR w base v t) : ∃ A c, v = .slice A t.length c := by
 rcases h.2 with ⟨rfl, h0⟩ | ⟨g, cap, cur, rfl, _⟩
 ·rw [h0]; exact ⟨_, _, rfl⟩
 ·exact ⟨_, _, rfl⟩
theorem HasR.lt {w : World} {base : Nat} {v : Value} {t : List Int} (h : HasR w base v t) : ∀ k, v.ownBlock = some k → base ≤ k ∧ k < w.heap.size := fun k e => World.ownsRow.lt h k e
theorem HasR.kept {w w' : World} {base : Nat} {v : Value} {t : List Int} (h : HasR w base v t) (hk : ∀ k, v.ownBlock = some k → w'.heap[k]? = w.heap[k]?) : HasR w' base v t := by
 refine ⟨h.1, ?_⟩
 rcases h.2 with e | ⟨g, cap, cur, rfl, e2, e3, r⟩
 ·exact .inl e
 ·exact .inr ⟨g, cap, cur, rfl, e2, (hk g rfl).trans e3, r⟩
theorem HasR.typed {w : World} {base : Nat} {v : Value} {t : List Int} (h : HasR w base v t) : ∀ k, v.ownBlock = some k → Typed w 21 k := by
 intro k e
 rcases h.2 with ⟨rfl, _⟩ | ⟨g, cap, cur, rfl, _, e3, _⟩
 ·cases e
 ·injection e with e
  subst e
  exact ⟨_, _, e3⟩
theorem HasR.sq {w : World} {base n c : Nat} {A : Option Addr} {t : List Int} (h : HasR w base (.slice A n c) t) : Sq w w.heap.size 1 n A (t.map (Value.int .i32)) := by
 obtain ⟨A', c', e⟩ := HasR.shape h
 injection e with e1 e2 e3
 subst e1 e2 e3
 exact Sq.own h
abbrev RCells (w : World) (g : Nat) (cs : Array Value) : Prop := w.heap[g]? = some (.cells cs 75 (0, 0))
def signsOf : St → Option (List Int)
 | .csi t => some t
 | .osc t => some t
 | .oscEsc t => some t
 | _ => none
structure RAt (w : World) (B g : Nat) (v : Value) (st : St) : Prop where
 cells : RCells w g #[.int .i64 (placeN st), v]
 old : ∃ t, HasR w B v t
 text : ∀ t, signsOf st = some t → HasR w B v t ∧ Runes t
theorem RAt.slice {w : World} {g : Nat} {v : Value} {st : St} (h : RAt w B g v st) : ∃ A n c, v = .slice A n c :=
 let ⟨_, ht⟩ := h.old
 let ⟨A, c, e⟩ := ht.shape
 ⟨A, _, c, e⟩
abbrev ECells (w : World) (g : Nat) (cs : Array Value) : Prop := w.heap[g]? = some (.cells cs 35 (0, 0))
def RPost (B g : Nat) (v : Value) (st' : St) (o : Option Ev) (w : World) (e : Ending) (w' : World) : Prop :=
 ∃ (k r : Int) (A : Option Addr) (n c : Nat) (s : ByteArray) (v' : Value), e = .returned (.tuple #[.agg #[.int .i64 k, .int .i32 r, .slice A n c, .string s], .bool o.isSome]) ∧
  (∀ x, o = some x → k = x.kind ∧ r = x.r ∧ s = ⟨x.text.toArray⟩ ∧ Nums w' w.heap.size (.slice A n c) x.args) ∧ RAt w' B g v' st' ∧ Turned (Own g v) w w'
theorem event_put4 {w : World} {g : Nat} {c0 c1 c2 c3 : Value} (h : ECells w g #[c0, c1, c2, c3]) (u0 u1 u2 u3 : Value) : ECells ((((w.setCell ⟨g, 0, none⟩ u0).setCell ⟨g, 1, none⟩ u1).setCell ⟨g, 2, none⟩ u2).setCell ⟨g, 3, none⟩ u3) g #[u0, u1, u2, u3] := by
 have h0 : ECells (w.setCell ⟨g, 0, none⟩ u0) g #[u0, c1, c2, c3] := heap_setCell_same w g 0 _ _ _ h
 have h1 : ECells ((w.setCell ⟨g, 0, none⟩ u0).setCell ⟨g, 1, none⟩ u1) g #[u0, u1, c2, c3] := heap_setCell_same _ g 1 _ _ _ h0
 have h2 : ECells (((w.setCell ⟨g, 0, none⟩ u0).setCell ⟨g, 1, none⟩ u1).setCell ⟨g, 2, none⟩ u2) g #[u0, u1, u2, c3] := heap_setCell_same _ g 2 _ _ _ h1
 exact heap_setCell_same _ g 3 _ _ _ h2
theorem event_only (w : World) (g : Nat) (u0 u1 u2 u3 : Value) : OnlyRow g w ((((w.setCell ⟨g, 0, none⟩ u0).setCell ⟨g, 1, none⟩ u1).setCell ⟨g, 2, none⟩ u2).setCell ⟨g, 3, none⟩ u3) :=
 (((OnlyRow.cell g 0 w u0).trans (OnlyRow.cell g 1 _ u1)).trans (OnlyRow.cell g 2 _ u2)).trans (OnlyRow.cell g 3 _ u3)
set_option maxRecDepth 100000 in
set_option maxHeartbeats 3200000 in
theorem refOsc_walk (g : Nat) (v : Value) (st : St) (t : List Int) (w : World) (hst : signsOf st = some t) (hpl : ∃ pl, placeN st = pl) (h : RAt w B g v st) (ht : t.length ≤ 1000000) :
  Calls Tryz.prog 81 #[ptrP g] w fun e w' => RPost B g v .rest (oscEv t) w e w' := by
 obtain ⟨pl, hpl⟩ := hpl
 obtain ⟨hx, hru⟩ := h.text t hst
 obtain ⟨A, c, rfl⟩ := HasR.shape hx
 obtain ⟨n, hn⟩ : ∃ n, t.length = n := ⟨_, rfl⟩
 have hc := h.cells
 rw [hpl] at hc
 rw [hn] at hx hc ht ⊢
 have hgl : g < w.heap.size := (Array.getElem?_eq_some_iff.1 hc).1
 have o1 := OnlyRow.cell g 0 w (.int .i64 0)
 have hc1 : RCells (w.setCell ⟨g, 0, none⟩ (.int .i64 0)) g #[.int .i64 0, .slice A n c] := heap_setCell_same w g 0 _ _ _ hc
 have hx1 := hx.kept (w' := w.setCell ⟨g, 0, none⟩ (.int .i64 0)) (fun k e => o1.block k (fun e2 => by
  subst e2
  exact (hx.typed k e).apart ⟨_, _, hc⟩ (by decide) rfl))
 have hs1 : (w.setCell ⟨g, 0, none⟩ (.int .i64 0)).heap.size = w.heap.size := o1.size
 have T1 := Lib.hid (show Turned (Own g (.slice A n c)) w (w.setCell ⟨g, 0, none⟩ (.int .i64 0)) from (Turned.ofOnly o1).mono (fun k _ e => .inl e))
 have C1 := Lib.hid hc1
 have X1 := Lib.hid hx1
 have S1 := Lib.hid hs1
 have RU := Lib.hid hru
 have HN := Lib.hid hn
 have c0 : w.cell? ⟨g, 0, none⟩ = some (.int .i64 pl) := cell_of_row _ g 0 _ _ (0, 0) hc
 have f0 : w.frozen? ⟨g, 0, none⟩ = false := frozen_of_row _ g 0 _ _ hc
 have c1 : w.cell? ⟨g, 1, none⟩ = some (.slice A n c) := cell_of_row _ g 1 _ _ (0, 0) hc
 clear h hx hc hru hst hpl hn o1 hc1 hx1 hs1
 go_enter Tryz.func81, Tryz.ntmps81
 go_wp2_with fail
 obtain ⟨g1, hg1⟩ : ∃ g1, w.heap.size = g1 := ⟨_, rfl⟩
 have HG1 := Lib.hid hg1
 have hne : g1 ≠ g := by omega
 rw [hg1] at S1 ⊢
 generalize w.setCell ⟨g, 0, none⟩ (.int .i64 0) = w1 at C1 X1 T1 S1 ⊢
 have b2 := (Below.refl w1.heap.size w1).alloc (Nat.le_refl _) (.cells #[.int .i64 0, .int .i32 0, .slice none 0 0, .string ⟨#[]⟩] 35)
 have C2 := Lib.hid (show RCells (w1.alloc (.cells #[.int .i64 0, .int .i32 0, .slice none 0 0, .string ⟨#[]⟩] 35)) g #[.int .i64 0, .slice A n c] from (b2.block g (Array.getElem?_eq_some_iff.1 C1.out).1).trans C1.out)
 have E2 := Lib.hid (show ECells (w1.alloc (.cells #[.int .i64 0, .int .i32 0, .slice none 0 0, .string ⟨#[]⟩] 35)) g1 #[.int .i64 0, .int .i32 0, .slice none 0 0, .string ⟨#[]⟩] by rw [← S1.out]; exact heap_alloc_new w1 _)
 have X2 := Lib.hid (X1.out.kept (w' := w1.alloc (.cells #[.int .i64 0, .int .i32 0, .slice none 0 0, .string ⟨#[]⟩] 35)) (fun k e => b2.block k (X1.out.lt k e).2))
 have T2 := Lib.hid (Turned.laidMore T1.out b2)
 clear b2 c0 f0 c1 hg1 C1 X1 T1
 generalize w1.alloc (.cells #[.int .i64 0, .int .i32 0, .slice none 0 0, .string ⟨#[]⟩] 35) = w2 at C2 E2 X2 T2 ⊢
 refine (refWrite_walk A n c t w2 RU.out (by omega) (HasR.sq X2.out)).mono ?_
 rintro e w3 ⟨rfl, b3⟩
 have E3 := Lib.hid (show ECells w3 g1 #[.int .i64 0, .int .i32 0, .slice none 0 0, .string ⟨#[]⟩] from (b3.block g1 (Array.getElem?_eq_some_iff.1 E2.out).1).trans E2.out)
 have C3 := Lib.hid (show RCells w3 g #[.int .i64 0, .slice A n c] from (b3.block g (Array.getElem?_eq_some_iff.1 C2.out).1).trans C2.out)
 have T3 := Lib.hid (Turned.laidMore T2.out b3)
 have X3 := Lib.hid (X2.out.kept (w' := w3) (fun k e => b3.block k (X2.out.lt k e).2))
 have e0 : w3.cell? ⟨g1, 0, none⟩ = some (.int .i64 0) := cell_of_row _ g1 0 _ _ (0, 0) E3.out
 have e1 : w3.cell? ⟨g1, 1, none⟩ = some (.int .i32 0) := cell_of_row _ g1 1 _ _ (0, 0) E3.out
 have e2 : w3.cell? ⟨g1, 2, none⟩ = some (.slice none 0 0) := cell_of_row _ g1 2 _ _ (0, 0) E3.out
 have e3 : w3.cell? ⟨g1, 3, none⟩ = some (.string ⟨#[]⟩) := cell_of_row _ g1 3 _ _ (0, 0) E3.out
 have g0 := frozen_of_row _ g1 0 _ _ E3.out
 have g1' := frozen_of_row _ g1 1 _ _ E3.out
 have g2 := frozen_of_row _ g1 2 _ _ E3.out
 have g3 := frozen_of_row _ g1 3 _ _ E3.out
 obtain ⟨m, hm⟩ : ∃ m, (encL t).length = m := ⟨_, rfl⟩
 have hsz : ({ data := (encL t).toArray } : ByteArray).size = m := hm
 have HM := Lib.hid hm
 have P4 := Lib.hid (event_put4 E3.out (.int .i64 4) (.int .i32 0) (.slice none 0 0) (.string ⟨(encL t).toArray⟩))
 have O4 := Lib.hid (event_only w3 g1 (.int .i64 4) (.int .i32 0) (.slice none 0 0) (.string ⟨(encL t).toArray⟩))
 clear b3 C2 E2 X2 T2 hm
 go_wp2
 generalize (((w3.setCell ⟨g1, 0, none⟩ (.int .i64 4)).setCell ⟨g1, 1, none⟩ (.int .i32 0)).setCell ⟨g1, 2, none⟩ (.slice none 0 0)).setCell ⟨g1, 3, none⟩ (.string ⟨(encL t).toArray⟩) = w4 at P4 O4 ⊢
 have q0 : w4.cell? ⟨g1, 0, none⟩ = some (.int .i64 4) := cell_of_row _ g1 0 _ _ (0, 0) P4.out
 have q1 : w4.cell? ⟨g1, 1, none⟩ = some (.int .i32 0) := cell_of_row _ g1 1 _ _ (0, 0) P4.out
 have q2 : w4.cell? ⟨g1, 2, none⟩ = some (.slice none 0 0) := cell_of_row _ g1 2 _ _ (0, 0) P4.out
 have q3 : w4.cell? ⟨g1, 3, none⟩ = some (.string ⟨(encL t).toArray⟩) := cell_of_row _ g1 3 _ _ (0, 0) P4.out
 have hos : (oscEv t).isSome = decide ((m : Int) ≤ 4000) := by
  unfold oscEv
  rw [HM.out]
  by_cases h4 : m ≤ 4000
  ·rw [if_pos h4, decide_eq_true (by omega)]; rfl
  ·rw [if_neg h4, decide_eq_false (by omega)]; rfl
 have X4 := X3.out.kept (w' := w4) (fun k e => O4.out.block k (fun e2 => by subst e2; exact (X3.out.typed k e).apart ⟨_, _, E3.out⟩ (by decide) rfl))
 have DN : RPost B g (.slice A n c) .rest (oscEv t) w (.returned (.tuple #[.agg #[.int .i64 4, .int .i32 0, .slice none 0 0, .string ⟨(encL t).toArray⟩], .bool (decide ((m : Int) ≤ 4000))])) w4 := by
  refine ⟨4, 0, none, 0, 0, _, .slice A n c, by rw [hos], fun x hx => ?_, ⟨?_, ⟨t, X4⟩, fun t' h => by cases h⟩, ?_⟩
  ·unfold oscEv at hx
   split at hx
   ·injection hx with hx
    subst hx
    exact ⟨rfl, rfl, rfl, Nums.nothing _ _⟩
   ·cases hx
  ·exact (O4.out.block g (fun e => hne e.symm)).trans C3.out
  ·exact T3.out.trans (Turned.ofOnly O4.out) (fun k hk e => by subst e; have := HG1.out; omega)
 exact bodyPost_ret (by simp [results, Tryz.results81, go_sem, q0, q1, q2, q3]) rfl DN
theorem RAt.kept {w w' : World} {g : Nat} {v : Value} {st : St} (h : RAt w B g v st) (hg : w'.heap[g]? = w.heap[g]?) (hk : ∀ k, v.ownBlock = some k → Typed w 21 k → w'.heap[k]? = w.heap[k]?) : RAt w' B g v st :=
 ⟨hg.trans h.cells, let ⟨t, ht⟩ := h.old; ⟨t, ht.kept fun k e => hk k e (ht.typed k e)⟩, fun t ht => ⟨(h.text t ht).1.kept fun k e => hk k e ((h.text t ht).1.typed k e), (h.text t ht).2⟩⟩
theorem RAt.lt {w : World} {g : Nat} {v : Value} {st : St} (h : RAt w B g v st) : g < w.heap.size := (Array.getElem?_eq_some_iff.1 h.cells).1
theorem RAt.laid {w w' : World} {g : Nat} {v : Value} {st : St} (h : RAt w B g v st) (hb : Below w.heap.size w w') : RAt w' B g v st :=
 h.kept (hb.block g h.lt) (fun k _ ⟨_, _, e⟩ => hb.block k (Array.getElem?_eq_some_iff.1 e).1)
theorem fin {g g1 : Nat} {v v' : Value} {st' : St} {o : Option Ev} {w wx : World} {c0 c1 c2 c3 : Value} (hE : ECells wx g1 #[c0, c1, c2, c3]) (hg1 : w.heap.size ≤ g1) (hg : g < w.heap.size) (hR : RAt wx B g v' st') (hT : Turned (Own g v) w wx)
  (k r : Int) (A : Option Addr) (n c : Nat) (s : ByteArray) (ho : ∀ x, o = some x → k = x.kind ∧ r = x.r ∧ s = ⟨x.text.toArray⟩ ∧ Nums wx w.heap.size (.slice A n c) x.args) :
  RPost B g v st' o w (.returned (.tuple #[.agg #[.int .i64 k, .int .i32 r, .slice A n c, .string s], .bool o.isSome])) ((((wx.setCell ⟨g1, 0, none⟩ (.int .i64 k)).setCell ⟨g1, 1, none⟩ (.int .i32 r)).setCell ⟨g1, 2, none⟩ (.slice A n c)).setCell ⟨g1, 3, none⟩ (.string s)) ∧
  ECells ((((wx.setCell ⟨g1, 0, none⟩ (.int .i64 k)).setCell ⟨g1, 1, none⟩ (.int .i32 r)).setCell ⟨g1, 2, none⟩ (.slice A n c)).setCell ⟨g1, 3, none⟩ (.string s)) g1 #[.int .i64 k, .int .i32 r, .slice A n c, .string s] := by
 have o4 := event_only wx g1 (.int .i64 k) (.int .i32 r) (.slice A n c) (.string s)
 have e4 := event_put4 hE (.int .i64 k) (.int .i32 r) (.slice A n c) (.string s)
 refine ⟨⟨k, r, A, n, c, s, v', rfl, fun x hx => ?_, ?_, ?_⟩, e4⟩
 ·obtain ⟨h1, h2, h3, h4⟩ := ho x hx
  exact ⟨h1, h2, h3, h4.kept fun q e => o4.block q fun e2 => by subst e2; exact (numsTyped h4 q e).apart ⟨_, _, hE⟩ (by decide) rfl⟩
 ·exact hR.kept (o4.block g (by omega)) fun q _ ty => o4.block q fun e2 => by subst e2; exact ty.apart ⟨_, _, hE⟩ (by decide) rfl
 ·exact hT.trans (Turned.ofOnly o4) fun q hq e => by omega
theorem RAt.put {w : World} {g : Nat} {v : Value} {st : St} (h : RAt w B g v st) (st' : St) (hs : signsOf st' = none ∨ signsOf st' = signsOf st) : RAt (w.setCell ⟨g, 0, none⟩ (.int .i64 (placeN st'))) B g v st' := by
 have o := OnlyRow.cell g 0 w (.int .i64 (placeN st'))
 have hk : ∀ t, HasR w B v t → HasR (w.setCell ⟨g, 0, none⟩ (.int .i64 (placeN st'))) B v t := fun t h1 => h1.kept fun k e => o.block k fun e2 => by subst e2; exact (h1.typed k e).apart ⟨_, _, h.cells⟩ (by decide) rfl
 refine ⟨heap_setCell_same w g 0 _ _ _ h.cells, let ⟨t, ht⟩ := h.old; ⟨t, hk t ht⟩, fun t ht => ?_⟩
 rcases hs with e | e
 ·rw [e] at ht; cases ht
 ·rw [e] at ht
  obtain ⟨h1, h2⟩ := h.text t ht
  exact ⟨hk t h1, h2⟩
theorem RAt.begun {w : World} {g : Nat} {v : Value} {st : St} (h : RAt w B g v st) (st' : St) (hs : ∀ t, signsOf st' = some t → t = []) : RAt ((w.setCell ⟨g, 1, none⟩ (.slice none 0 0)).setCell ⟨g, 0, none⟩ (.int .i64 (placeN st'))) B g (.slice none 0 0) st' := by
 have h1 : RCells (w.setCell ⟨g, 1, none⟩ (.slice none 0 0)) g #[.int .i64 (placeN st), .slice none 0 0] := heap_setCell_same w g 1 _ _ _ h.cells
 refine ⟨heap_setCell_same _ g 0 _ _ _ h1, ⟨[], World.ownsRow_nil _ _ _ _⟩, fun t ht => ?_⟩
 have := hs t ht
 subst this
 exact ⟨World.ownsRow_nil _ _ _ _, fun r h => by cases h⟩
theorem evz_new (w : World) {n : Nat} (hn : w.heap.size = n) : ECells (w.alloc (.cells #[.int .i64 0, .int .i32 0, .slice none 0 0, .string ⟨#[]⟩] 35)) n #[.int .i64 0, .int .i32 0, .slice none 0 0, .string ⟨#[]⟩] := by subst hn; exact heap_alloc_new w _
end Esc
end Go.Proofs.YtaclmhopcfgbmaaGreatDoor
namespace Go.Proofs.YtaclmhopcfgbmaaGreatDoor
open Go.ChangeShapes Go.WideShapes Go.ChangeAt Go.RowKit
namespace Esc
variable {B : Nat}
theorem fin2 {g n0 : Nat} {v v' : Value} {st' : St} {o : Option Ev} {w w1 : World} (hn : w1.heap.size = n0) (hR : RAt w1 B g v' st') (hT : Turned (Own g v) w w1)
  (k r : Int) (s : ByteArray) (ho : ∀ x, o = some x → k = x.kind ∧ r = x.r ∧ s = ⟨x.text.toArray⟩ ∧ x.args = []) :
  RPost B g v st' o w (.returned (.tuple #[.agg #[.int .i64 k, .int .i32 r, .slice none 0 0, .string s], .bool o.isSome])) (w1.alloc (.cells #[.int .i64 k, .int .i32 r, .slice none 0 0, .string s] 35)) ∧
  ECells (w1.alloc (.cells #[.int .i64 k, .int .i32 r, .slice none 0 0, .string s] 35)) n0 #[.int .i64 k, .int .i32 r, .slice none 0 0, .string s] := by
 have b := (Below.refl w1.heap.size w1).alloc (Nat.le_refl _) (.cells #[.int .i64 k, .int .i32 r, .slice none 0 0, .string s] 35)
 refine ⟨⟨k, r, none, 0, 0, s, v', rfl, fun x hx => ?_, hR.laid b, Turned.laidMore hT b⟩, by subst hn; exact heap_alloc_new w1 _⟩
 obtain ⟨h1, h2, h3, h4⟩ := ho x hx
 exact ⟨h1, h2, h3, by rw [h4]; exact Nums.nothing _ _⟩
set_option maxRecDepth 100000 in
set_option maxHeartbeats 3200000 in
theorem rrest_walk (g : Nat) (A : Option Addr) (n c : Nat) (r : Int) (w : World) (h : RAt w B g (.slice A n c) .rest) :
  Calls Tryz.prog 46 #[ptrP g, .int .i32 r] w fun e w' => RPost B g (.slice A n c) (stepS .rest r) (stepE .rest r) w e w' := by
 have hgl := h.lt
 have c0 : w.cell? ⟨g, 0, none⟩ = some (.int .i64 0) := cell_of_row _ g 0 _ _ (0, 0) h.cells
 have f0 : w.frozen? ⟨g, 0, none⟩ = false := frozen_of_row _ g 0 _ _ h.cells
 have c1 : w.cell? ⟨g, 1, none⟩ = some (.slice A n c) := cell_of_row _ g 1 _ _ (0, 0) h.cells
 have f1 : w.frozen? ⟨g, 1, none⟩ = false := frozen_of_row _ g 1 _ _ h.cells
 by_cases h8 : r = 8 ∨ r = 9 ∨ r = 10 ∨ r = 13
 ·have hs : stepS .rest r = .rest := by simp only [stepS]; rw [if_neg (by omega)]
  have he : stepE .rest r = some ⟨2, r, [], []⟩ := by simp only [stepE]; rw [if_pos h8]
  rw [hs, he]
  have F := Lib.hid (fin2 (o := some ⟨2, r, [], []⟩) rfl h (Turned.refl (Own g (.slice A n c)) w) 2 r ⟨#[]⟩ (fun x hx => by injection hx with hx; subst hx; exact ⟨rfl, rfl, rfl, rfl⟩))
  clear h hs he
  rcases h8 with rfl | rfl | rfl | rfl
  all_goals
   go_enter Tryz.func46, Tryz.ntmps46
   go_wp2
   generalize (w.alloc (.cells #[.int .i64 2, .int .i32 _, (.slice none 0 0), .string ⟨#[]⟩] 35)) = w4 at F ⊢
   have q0 : w4.cell? ⟨w.heap.size, 0, none⟩ = some (.int .i64 2) := cell_of_row _ _ 0 _ _ (0, 0) F.out.2
   have q1 : w4.cell? ⟨w.heap.size, 1, none⟩ = some (.int .i32 _) := cell_of_row _ _ 1 _ _ (0, 0) F.out.2
   have q2 : w4.cell? ⟨w.heap.size, 2, none⟩ = some (.slice none 0 0) := cell_of_row _ _ 2 _ _ (0, 0) F.out.2
   have q3 : w4.cell? ⟨w.heap.size, 3, none⟩ = some (.string ⟨#[]⟩) := cell_of_row _ _ 3 _ _ (0, 0) F.out.2
   exact bodyPost_ret (by simp [results, Tryz.results46, go_sem, q0, q1, q2, q3] <;> rfl) rfl F.out.1
 by_cases h27 : r = 27
 ·subst h27
  have o1 := OnlyRow.cell g 0 w (.int .i64 1)
  have R1 := h.put .esc (.inl rfl)
  have hs1 : (w.setCell ⟨g, 0, none⟩ (.int .i64 1)).heap.size = w.heap.size := o1.size
  have F := Lib.hid (fin2 (o := none) hs1 R1 ((Turned.ofOnly o1).mono (fun k _ e => .inl e) : Turned (Own g (.slice A n c)) w _) 0 0 ⟨#[]⟩ (fun x hx => by cases hx))
  have hs : stepS .rest 27 = .esc := rfl
  have he : stepE .rest 27 = none := rfl
  rw [hs, he]
  clear h hs he o1 R1 hs1
  go_enter Tryz.func46, Tryz.ntmps46
  go_wp2
  generalize ((w.setCell ⟨g, 0, none⟩ (.int .i64 1)).alloc (.cells #[.int .i64 0, .int .i32 0, (.slice none 0 0), .string ⟨#[]⟩] 35)) = w4 at F ⊢
  have q0 : w4.cell? ⟨w.heap.size, 0, none⟩ = some (.int .i64 0) := cell_of_row _ _ 0 _ _ (0, 0) F.out.2
  have q1 : w4.cell? ⟨w.heap.size, 1, none⟩ = some (.int .i32 0) := cell_of_row _ _ 1 _ _ (0, 0) F.out.2
  have q2 : w4.cell? ⟨w.heap.size, 2, none⟩ = some (.slice none 0 0) := cell_of_row _ _ 2 _ _ (0, 0) F.out.2
  have q3 : w4.cell? ⟨w.heap.size, 3, none⟩ = some (.string ⟨#[]⟩) := cell_of_row _ _ 3 _ _ (0, 0) F.out.2
  exact bodyPost_ret (by simp [results, Tryz.results46, go_sem, q0, q1, q2, q3] <;> rfl) rfl F.out.1
 have hs : stepS .rest r = .rest := by simp only [stepS]; rw [if_neg h27]
 rw [hs]
 have n8 : (r == 8) = false := by simp; omega
 have n9 : (r == 9) = false := by simp; omega
 have n10 : (r == 10) = false := by simp; omega
 have n13 : (r == 13) = false := by simp; omega
 have n27 : (r == 27) = false := by simp; omega
 by_cases hp : 32 ≤ r ∧ r ≠ 127
 ·have he : stepE .rest r = some ⟨1, r, [], []⟩ := by simp only [stepE]; rw [if_neg h8, if_pos hp]
  rw [he]
  have F := Lib.hid (fin2 (o := some ⟨1, r, [], []⟩) rfl h (Turned.refl (Own g (.slice A n c)) w) 1 r ⟨#[]⟩ (fun x hx => by injection hx with hx; subst hx; exact ⟨rfl, rfl, rfl, rfl⟩))
  obtain ⟨h32, h127⟩ := hp
  have n127 : (r == 127) = false := by simp; omega
  have n127' : (r != 127) = true := by simp; omega
  have d32 : decide (32 ≤ r) = true := by simp; omega
  clear h hs he h8
  go_enter Tryz.func46, Tryz.ntmps46
  go_wp2
  generalize (w.alloc (.cells #[.int .i64 1, .int .i32 r, (.slice none 0 0), .string ⟨#[]⟩] 35)) = w4 at F ⊢
  have q0 : w4.cell? ⟨w.heap.size, 0, none⟩ = some (.int .i64 1) := cell_of_row _ _ 0 _ _ (0, 0) F.out.2
  have q1 : w4.cell? ⟨w.heap.size, 1, none⟩ = some (.int .i32 r) := cell_of_row _ _ 1 _ _ (0, 0) F.out.2
  have q2 : w4.cell? ⟨w.heap.size, 2, none⟩ = some (.slice none 0 0) := cell_of_row _ _ 2 _ _ (0, 0) F.out.2
  have q3 : w4.cell? ⟨w.heap.size, 3, none⟩ = some (.string ⟨#[]⟩) := cell_of_row _ _ 3 _ _ (0, 0) F.out.2
  exact bodyPost_ret (by simp [results, Tryz.results46, go_sem, q0, q1, q2, q3] <;> rfl) rfl F.out.1
 ·have he : stepE .rest r = none := by simp only [stepE]; rw [if_neg h8, if_neg hp]
  rw [he]
  have F := Lib.hid (fin2 (o := none) rfl h (Turned.refl (Own g (.slice A n c)) w) 0 0 ⟨#[]⟩ (fun x hx => by cases hx))
  clear h hs he h8
  by_cases h32 : 32 ≤ r
  ·obtain rfl : r = 127 := by omega
   clear hp
   go_enter Tryz.func46, Tryz.ntmps46
   go_wp2
   generalize (w.alloc (.cells #[.int .i64 0, .int .i32 0, (.slice none 0 0), .string ⟨#[]⟩] 35)) = w4 at F ⊢
   have q0 : w4.cell? ⟨w.heap.size, 0, none⟩ = some (.int .i64 0) := cell_of_row _ _ 0 _ _ (0, 0) F.out.2
   have q1 : w4.cell? ⟨w.heap.size, 1, none⟩ = some (.int .i32 0) := cell_of_row _ _ 1 _ _ (0, 0) F.out.2
   have q2 : w4.cell? ⟨w.heap.size, 2, none⟩ = some (.slice none 0 0) := cell_of_row _ _ 2 _ _ (0, 0) F.out.2
   have q3 : w4.cell? ⟨w.heap.size, 3, none⟩ = some (.string ⟨#[]⟩) := cell_of_row _ _ 3 _ _ (0, 0) F.out.2
   exact bodyPost_ret (by simp [results, Tryz.results46, go_sem, q0, q1, q2, q3] <;> rfl) rfl F.out.1
  ·have d32 : decide (32 ≤ r) = false := by simp; omega
   clear hp
   go_enter Tryz.func46, Tryz.ntmps46
   go_wp2
   generalize (w.alloc (.cells #[.int .i64 0, .int .i32 0, (.slice none 0 0), .string ⟨#[]⟩] 35)) = w4 at F ⊢
   have q0 : w4.cell? ⟨w.heap.size, 0, none⟩ = some (.int .i64 0) := cell_of_row _ _ 0 _ _ (0, 0) F.out.2
   have q1 : w4.cell? ⟨w.heap.size, 1, none⟩ = some (.int .i32 0) := cell_of_row _ _ 1 _ _ (0, 0) F.out.2
   have q2 : w4.cell? ⟨w.heap.size, 2, none⟩ = some (.slice none 0 0) := cell_of_row _ _ 2 _ _ (0, 0) F.out.2
   have q3 : w4.cell? ⟨w.heap.size, 3, none⟩ = some (.string ⟨#[]⟩) := cell_of_row _ _ 3 _ _ (0, 0) F.out.2
   exact bodyPost_ret (by simp [results, Tryz.results46, go_sem, q0, q1, q2, q3] <;> rfl) rfl F.out.1
end Esc
end Go.Proofs.YtaclmhopcfgbmaaGreatDoor
namespace Go.Proofs.YtaclmhopcfgbmaaGreatDoor
open Go.ChangeShapes Go.WideShapes Go.ChangeAt Go.RowKit
namespace Esc
variable {B : Nat}
theorem begin_signs (r : Int) : ∀ t, signsOf (begin' r) = some t → t = [] := by
 intro t ht
 unfold begin' at ht
 split at ht
 ·injection ht with ht; exact ht.symm
 ·split at ht
  ·injection ht with ht; exact ht.symm
  ·split at ht <;> cases ht
set_option maxRecDepth 100000 in
set_option maxHeartbeats 3200000 in
theorem resc_walk (g : Nat) (A : Option Addr) (n c : Nat) (r : Int) (w : World) (h : RAt w B g (.slice A n c) .esc) :
  Calls Tryz.prog 46 #[ptrP g, .int .i32 r] w fun e w' => RPost B g (.slice A n c) (begin' r) none w e w' := by
 have hgl := h.lt
 have c0 : w.cell? ⟨g, 0, none⟩ = some (.int .i64 1) := cell_of_row _ g 0 _ _ (0, 0) h.cells
 have f0 : w.frozen? ⟨g, 0, none⟩ = false := frozen_of_row _ g 0 _ _ h.cells
 have c1 : w.cell? ⟨g, 1, none⟩ = some (.slice A n c) := cell_of_row _ g 1 _ _ (0, 0) h.cells
 have f1 : w.frozen? ⟨g, 1, none⟩ = false := frozen_of_row _ g 1 _ _ h.cells
 have BS := Lib.hid (begin_signs r)
 by_cases h1 : r = 91
 ·subst h1
  have o1 : OnlyRow g w ((w.setCell ⟨g, 1, none⟩ (.slice none 0 0)).setCell ⟨g, 0, none⟩ (.int .i64 2)) := (OnlyRow.cell g 1 w _).trans (OnlyRow.cell g 0 _ _)
  have he : begin' 91 = (.csi []) := rfl
  rw [he] at BS ⊢
  have F := Lib.hid (fin2 (o := none) o1.size (h.begun (.csi []) BS.out) ((Turned.ofOnly o1).mono (fun k _ e => .inl e) : Turned (Own g (.slice A n c)) w _) 0 0 ⟨#[]⟩ (fun x hx => by cases hx))
  clear h he o1 BS
  go_enter Tryz.func46, Tryz.ntmps46
  go_wp2
  generalize (((w.setCell ⟨g, 1, none⟩ (.slice none 0 0)).setCell ⟨g, 0, none⟩ (.int .i64 2)).alloc (.cells #[.int .i64 0, .int .i32 0, (.slice none 0 0), .string ⟨#[]⟩] 35)) = w4 at F ⊢
  have q0 : w4.cell? ⟨w.heap.size, 0, none⟩ = some (.int .i64 0) := cell_of_row _ _ 0 _ _ (0, 0) F.out.2
  have q1 : w4.cell? ⟨w.heap.size, 1, none⟩ = some (.int .i32 0) := cell_of_row _ _ 1 _ _ (0, 0) F.out.2
  have q2 : w4.cell? ⟨w.heap.size, 2, none⟩ = some (.slice none 0 0) := cell_of_row _ _ 2 _ _ (0, 0) F.out.2
  have q3 : w4.cell? ⟨w.heap.size, 3, none⟩ = some (.string ⟨#[]⟩) := cell_of_row _ _ 3 _ _ (0, 0) F.out.2
  exact bodyPost_ret (by simp [results, Tryz.results46, go_sem, q0, q1, q2, q3] <;> rfl) rfl F.out.1
 by_cases h2 : r = 93
 ·subst h2
  have o1 : OnlyRow g w ((w.setCell ⟨g, 1, none⟩ (.slice none 0 0)).setCell ⟨g, 0, none⟩ (.int .i64 3)) := (OnlyRow.cell g 1 w _).trans (OnlyRow.cell g 0 _ _)
  have he : begin' 93 = (.osc []) := rfl
  rw [he] at BS ⊢
  have F := Lib.hid (fin2 (o := none) o1.size (h.begun (.osc []) BS.out) ((Turned.ofOnly o1).mono (fun k _ e => .inl e) : Turned (Own g (.slice A n c)) w _) 0 0 ⟨#[]⟩ (fun x hx => by cases hx))
  clear h he o1 BS
  go_enter Tryz.func46, Tryz.ntmps46
  go_wp2
  generalize (((w.setCell ⟨g, 1, none⟩ (.slice none 0 0)).setCell ⟨g, 0, none⟩ (.int .i64 3)).alloc (.cells #[.int .i64 0, .int .i32 0, (.slice none 0 0), .string ⟨#[]⟩] 35)) = w4 at F ⊢
  have q0 : w4.cell? ⟨w.heap.size, 0, none⟩ = some (.int .i64 0) := cell_of_row _ _ 0 _ _ (0, 0) F.out.2
  have q1 : w4.cell? ⟨w.heap.size, 1, none⟩ = some (.int .i32 0) := cell_of_row _ _ 1 _ _ (0, 0) F.out.2
  have q2 : w4.cell? ⟨w.heap.size, 2, none⟩ = some (.slice none 0 0) := cell_of_row _ _ 2 _ _ (0, 0) F.out.2
  have q3 : w4.cell? ⟨w.heap.size, 3, none⟩ = some (.string ⟨#[]⟩) := cell_of_row _ _ 3 _ _ (0, 0) F.out.2
  exact bodyPost_ret (by simp [results, Tryz.results46, go_sem, q0, q1, q2, q3] <;> rfl) rfl F.out.1
 by_cases h3 : r = 27
 ·subst h3
  have o1 : OnlyRow g w ((w.setCell ⟨g, 1, none⟩ (.slice none 0 0)).setCell ⟨g, 0, none⟩ (.int .i64 1)) := (OnlyRow.cell g 1 w _).trans (OnlyRow.cell g 0 _ _)
  have he : begin' 27 = .esc := rfl
  rw [he] at BS ⊢
  have F := Lib.hid (fin2 (o := none) o1.size (h.begun .esc BS.out) ((Turned.ofOnly o1).mono (fun k _ e => .inl e) : Turned (Own g (.slice A n c)) w _) 0 0 ⟨#[]⟩ (fun x hx => by cases hx))
  clear h he o1 BS
  go_enter Tryz.func46, Tryz.ntmps46
  go_wp2
  generalize (((w.setCell ⟨g, 1, none⟩ (.slice none 0 0)).setCell ⟨g, 0, none⟩ (.int .i64 1)).alloc (.cells #[.int .i64 0, .int .i32 0, (.slice none 0 0), .string ⟨#[]⟩] 35)) = w4 at F ⊢
  have q0 : w4.cell? ⟨w.heap.size, 0, none⟩ = some (.int .i64 0) := cell_of_row _ _ 0 _ _ (0, 0) F.out.2
  have q1 : w4.cell? ⟨w.heap.size, 1, none⟩ = some (.int .i32 0) := cell_of_row _ _ 1 _ _ (0, 0) F.out.2
  have q2 : w4.cell? ⟨w.heap.size, 2, none⟩ = some (.slice none 0 0) := cell_of_row _ _ 2 _ _ (0, 0) F.out.2
  have q3 : w4.cell? ⟨w.heap.size, 3, none⟩ = some (.string ⟨#[]⟩) := cell_of_row _ _ 3 _ _ (0, 0) F.out.2
  exact bodyPost_ret (by simp [results, Tryz.results46, go_sem, q0, q1, q2, q3] <;> rfl) rfl F.out.1
 have b91 : (r == 91) = false := by simp; omega
 have b93 : (r == 93) = false := by simp; omega
 have b27 : (r == 27) = false := by simp; omega
 ·have o1 : OnlyRow g w ((w.setCell ⟨g, 1, none⟩ (.slice none 0 0)).setCell ⟨g, 0, none⟩ (.int .i64 0)) := (OnlyRow.cell g 1 w _).trans (OnlyRow.cell g 0 _ _)
  have he : begin' r = .rest := by unfold begin'; rw [if_neg h1, if_neg h2, if_neg h3]
  rw [he] at BS ⊢
  have F := Lib.hid (fin2 (o := none) o1.size (h.begun .rest BS.out) ((Turned.ofOnly o1).mono (fun k _ e => .inl e) : Turned (Own g (.slice A n c)) w _) 0 0 ⟨#[]⟩ (fun x hx => by cases hx))
  clear h he o1 BS
  go_enter Tryz.func46, Tryz.ntmps46
  go_wp2
  generalize (((w.setCell ⟨g, 1, none⟩ (.slice none 0 0)).setCell ⟨g, 0, none⟩ (.int .i64 0)).alloc (.cells #[.int .i64 0, .int .i32 0, (.slice none 0 0), .string ⟨#[]⟩] 35)) = w4 at F ⊢
  have q0 : w4.cell? ⟨w.heap.size, 0, none⟩ = some (.int .i64 0) := cell_of_row _ _ 0 _ _ (0, 0) F.out.2
  have q1 : w4.cell? ⟨w.heap.size, 1, none⟩ = some (.int .i32 0) := cell_of_row _ _ 1 _ _ (0, 0) F.out.2
  have q2 : w4.cell? ⟨w.heap.size, 2, none⟩ = some (.slice none 0 0) := cell_of_row _ _ 2 _ _ (0, 0) F.out.2
  have q3 : w4.cell? ⟨w.heap.size, 3, none⟩ = some (.string ⟨#[]⟩) := cell_of_row _ _ 3 _ _ (0, 0) F.out.2
  exact bodyPost_ret (by simp [results, Tryz.results46, go_sem, q0, q1, q2, q3] <;> rfl) rfl F.out.1
set_option maxRecDepth 100000 in
set_option maxHeartbeats 3200000 in
theorem roscEsc_walk (g : Nat) (A : Option Addr) (n c : Nat) (t : List Int) (r : Int) (w : World) (h : RAt w B g (.slice A n c) (.oscEsc t)) (h92 : r ≠ 92) :
  Calls Tryz.prog 46 #[ptrP g, .int .i32 r] w fun e w' => RPost B g (.slice A n c) (begin' r) none w e w' := by
 have hgl := h.lt
 have c0 : w.cell? ⟨g, 0, none⟩ = some (.int .i64 4) := cell_of_row _ g 0 _ _ (0, 0) h.cells
 have f0 : w.frozen? ⟨g, 0, none⟩ = false := frozen_of_row _ g 0 _ _ h.cells
 have c1 : w.cell? ⟨g, 1, none⟩ = some (.slice A n c) := cell_of_row _ g 1 _ _ (0, 0) h.cells
 have f1 : w.frozen? ⟨g, 1, none⟩ = false := frozen_of_row _ g 1 _ _ h.cells
 have BS := Lib.hid (begin_signs r)
 have b92 : (r == 92) = false := by simp; omega
 by_cases h1 : r = 91
 ·subst h1
  have o1 : OnlyRow g w ((w.setCell ⟨g, 1, none⟩ (.slice none 0 0)).setCell ⟨g, 0, none⟩ (.int .i64 2)) := (OnlyRow.cell g 1 w _).trans (OnlyRow.cell g 0 _ _)
  have he : begin' 91 = (.csi []) := rfl
  rw [he] at BS ⊢
  have F := Lib.hid (fin2 (o := none) o1.size (h.begun (.csi []) BS.out) ((Turned.ofOnly o1).mono (fun k _ e => .inl e) : Turned (Own g (.slice A n c)) w _) 0 0 ⟨#[]⟩ (fun x hx => by cases hx))
  clear h he o1 BS
  go_enter Tryz.func46, Tryz.ntmps46
  go_wp2
  generalize (((w.setCell ⟨g, 1, none⟩ (.slice none 0 0)).setCell ⟨g, 0, none⟩ (.int .i64 2)).alloc (.cells #[.int .i64 0, .int .i32 0, (.slice none 0 0), .string ⟨#[]⟩] 35)) = w4 at F ⊢
  have q0 : w4.cell? ⟨w.heap.size, 0, none⟩ = some (.int .i64 0) := cell_of_row _ _ 0 _ _ (0, 0) F.out.2
  have q1 : w4.cell? ⟨w.heap.size, 1, none⟩ = some (.int .i32 0) := cell_of_row _ _ 1 _ _ (0, 0) F.out.2
  have q2 : w4.cell? ⟨w.heap.size, 2, none⟩ = some (.slice none 0 0) := cell_of_row _ _ 2 _ _ (0, 0) F.out.2
  have q3 : w4.cell? ⟨w.heap.size, 3, none⟩ = some (.string ⟨#[]⟩) := cell_of_row _ _ 3 _ _ (0, 0) F.out.2
  exact bodyPost_ret (by simp [results, Tryz.results46, go_sem, q0, q1, q2, q3] <;> rfl) rfl F.out.1
 by_cases h2 : r = 93
 ·subst h2
  have o1 : OnlyRow g w ((w.setCell ⟨g, 1, none⟩ (.slice none 0 0)).setCell ⟨g, 0, none⟩ (.int .i64 3)) := (OnlyRow.cell g 1 w _).trans (OnlyRow.cell g 0 _ _)
  have he : begin' 93 = (.osc []) := rfl
  rw [he] at BS ⊢
  have F := Lib.hid (fin2 (o := none) o1.size (h.begun (.osc []) BS.out) ((Turned.ofOnly o1).mono (fun k _ e => .inl e) : Turned (Own g (.slice A n c)) w _) 0 0 ⟨#[]⟩ (fun x hx => by cases hx))
  clear h he o1 BS
  go_enter Tryz.func46, Tryz.ntmps46
  go_wp2
  generalize (((w.setCell ⟨g, 1, none⟩ (.slice none 0 0)).setCell ⟨g, 0, none⟩ (.int .i64 3)).alloc (.cells #[.int .i64 0, .int .i32 0, (.slice none 0 0), .string ⟨#[]⟩] 35)) = w4 at F ⊢
  have q0 : w4.cell? ⟨w.heap.size, 0, none⟩ = some (.int .i64 0) := cell_of_row _ _ 0 _ _ (0, 0) F.out.2
  have q1 : w4.cell? ⟨w.heap.size, 1, none⟩ = some (.int .i32 0) := cell_of_row _ _ 1 _ _ (0, 0) F.out.2
  have q2 : w4.cell? ⟨w.heap.size, 2, none⟩ = some (.slice none 0 0) := cell_of_row _ _ 2 _ _ (0, 0) F.out.2
  have q3 : w4.cell? ⟨w.heap.size, 3, none⟩ = some (.string ⟨#[]⟩) := cell_of_row _ _ 3 _ _ (0, 0) F.out.2
  exact bodyPost_ret (by simp [results, Tryz.results46, go_sem, q0, q1, q2, q3] <;> rfl) rfl F.out.1
 by_cases h3 : r = 27
 ·subst h3
  have o1 : OnlyRow g w ((w.setCell ⟨g, 1, none⟩ (.slice none 0 0)).setCell ⟨g, 0, none⟩ (.int .i64 1)) := (OnlyRow.cell g 1 w _).trans (OnlyRow.cell g 0 _ _)
  have he : begin' 27 = .esc := rfl
  rw [he] at BS ⊢
  have F := Lib.hid (fin2 (o := none) o1.size (h.begun .esc BS.out) ((Turned.ofOnly o1).mono (fun k _ e => .inl e) : Turned (Own g (.slice A n c)) w _) 0 0 ⟨#[]⟩ (fun x hx => by cases hx))
  clear h he o1 BS
  go_enter Tryz.func46, Tryz.ntmps46
  go_wp2
  generalize (((w.setCell ⟨g, 1, none⟩ (.slice none 0 0)).setCell ⟨g, 0, none⟩ (.int .i64 1)).alloc (.cells #[.int .i64 0, .int .i32 0, (.slice none 0 0), .string ⟨#[]⟩] 35)) = w4 at F ⊢
  have q0 : w4.cell? ⟨w.heap.size, 0, none⟩ = some (.int .i64 0) := cell_of_row _ _ 0 _ _ (0, 0) F.out.2
  have q1 : w4.cell? ⟨w.heap.size, 1, none⟩ = some (.int .i32 0) := cell_of_row _ _ 1 _ _ (0, 0) F.out.2
  have q2 : w4.cell? ⟨w.heap.size, 2, none⟩ = some (.slice none 0 0) := cell_of_row _ _ 2 _ _ (0, 0) F.out.2
  have q3 : w4.cell? ⟨w.heap.size, 3, none⟩ = some (.string ⟨#[]⟩) := cell_of_row _ _ 3 _ _ (0, 0) F.out.2
  exact bodyPost_ret (by simp [results, Tryz.results46, go_sem, q0, q1, q2, q3] <;> rfl) rfl F.out.1
 have b91 : (r == 91) = false := by simp; omega
 have b93 : (r == 93) = false := by simp; omega
 have b27 : (r == 27) = false := by simp; omega
 ·have o1 : OnlyRow g w ((w.setCell ⟨g, 1, none⟩ (.slice none 0 0)).setCell ⟨g, 0, none⟩ (.int .i64 0)) := (OnlyRow.cell g 1 w _).trans (OnlyRow.cell g 0 _ _)
  have he : begin' r = .rest := by unfold begin'; rw [if_neg h1, if_neg h2, if_neg h3]
  rw [he] at BS ⊢
  have F := Lib.hid (fin2 (o := none) o1.size (h.begun .rest BS.out) ((Turned.ofOnly o1).mono (fun k _ e => .inl e) : Turned (Own g (.slice A n c)) w _) 0 0 ⟨#[]⟩ (fun x hx => by cases hx))
  clear h he o1 BS
  go_enter Tryz.func46, Tryz.ntmps46
  go_wp2
  generalize (((w.setCell ⟨g, 1, none⟩ (.slice none 0 0)).setCell ⟨g, 0, none⟩ (.int .i64 0)).alloc (.cells #[.int .i64 0, .int .i32 0, (.slice none 0 0), .string ⟨#[]⟩] 35)) = w4 at F ⊢
  have q0 : w4.cell? ⟨w.heap.size, 0, none⟩ = some (.int .i64 0) := cell_of_row _ _ 0 _ _ (0, 0) F.out.2
  have q1 : w4.cell? ⟨w.heap.size, 1, none⟩ = some (.int .i32 0) := cell_of_row _ _ 1 _ _ (0, 0) F.out.2
  have q2 : w4.cell? ⟨w.heap.size, 2, none⟩ = some (.slice none 0 0) := cell_of_row _ _ 2 _ _ (0, 0) F.out.2
  have q3 : w4.cell? ⟨w.heap.size, 3, none⟩ = some (.string ⟨#[]⟩) := cell_of_row _ _ 3 _ _ (0, 0) F.out.2
  exact bodyPost_ret (by simp [results, Tryz.results46, go_sem, q0, q1, q2, q3] <;> rfl) rfl F.out.1
end Esc
end Go.Proofs.YtaclmhopcfgbmaaGreatDoor
