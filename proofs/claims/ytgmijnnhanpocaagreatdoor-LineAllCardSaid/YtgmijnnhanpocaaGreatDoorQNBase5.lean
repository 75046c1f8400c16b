/-
  reflow.Rows: the lines of rows laid out anew, and where marks among the rows stand there. The lines of rows that came in are lines that may be laid out. In plain words: lines that are laid out are joined again; how wide and how many their rows are. In plain words: where a place among rows is in their lines, reckoned row by row, as the reference does it. The reference's Join: a row's signs are put behind the line that goes on, step by step. The reference's Join: the lines of rows.
-/
import Derived.Test.YtgmijnnhanpocaaGreatDoorQNLine7
import Derived.Test.YtgmijnnhanpocaaGreatDoorQNBase4
import Derived.Test.YtgmijnnhanpocaaGreatDoorQNLine3
import Derived.Test.YtgmijnnhanpocaaGreatDoorQNLine6
import Derived.Test.YtgmijnnhanpocaaGreatDoorQNLine4
import Derived.Deep.CutRange
namespace Go.Proofs.YtgmijnnhanpocaaGreatDoor
open Go.ChangeShapes Go.WideShapes Go.ChangeAt Go.RowKit
namespace Ln
open Rw
def placeN (wv : Nat) (ls : List (List Cel)) (s : Nat × Nat × Nat) : Nat × Nat :=
 match ls[s.1]? with
 | none => (0, 0)
 | some l => match l[s.2.1]? with
  | some x => ((cellPos wv l s.2.1 x).1 + highs wv (ls.take s.1), (cellPos wv l s.2.1 x).2)
  | none => ((posOut wv l).1.1 + highs wv (ls.take s.1), pastCol wv s.2.2 (posOut wv l).1.2)
theorem placeN_end {wv : Nat} {ls : List (List Cel)} {s : Nat × Nat × Nat} {l : List Cel} (hl : ls[s.1]? = some l) (hx : l[s.2.1]? = none) : placeN wv ls s = ((posOut wv l).1.1 + highs wv (ls.take s.1), pastCol wv s.2.2 (posOut wv l).1.2) := by unfold placeN; rw [hl]; simp only; rw [hx]
theorem placeN_cell {wv : Nat} {ls : List (List Cel)} {s : Nat × Nat × Nat} {l : List Cel} {x : Cel} (hl : ls[s.1]? = some l) (hx : l[s.2.1]? = some x) : placeN wv ls s = ((cellPos wv l s.2.1 x).1 + highs wv (ls.take s.1), (cellPos wv l s.2.1 x).2) := by unfold placeN; rw [hl]; simp only; rw [hx]
structure SOk (ls : List (List Cel)) (s : Nat × Nat × Nat) : Prop where
 off : ∀ l, ls[s.1]? = some l → s.2.1 ≤ l.length ∧ (s.2.1 < l.length → s.2.2 = 0)
 none : ls[s.1]? = none → s = (0, 0, 0) ∧ ls = []
 past : s.2.2 ≤ 1000000000
theorem sign_ok {c : Cel} (h : signC c = true) (hm : mayB c = true) : okC c = true := by
 have hw := sign_wide h hm
 unfold signC at h
 simp only [Bool.and_eq_true] at h
 unfold okC hasB
 rw [hm, Bool.and_true, Bool.and_eq_true, Bool.or_eq_true]
 refine ⟨by unfold W12 at hw; simpa using hw, ?_⟩
 have := h.2
 unfold padC at this
 simpa using this
theorem cells_ok {r : LR} : ∀ c ∈ cellsR r, okC c = true := fun c hc => by
 unfold cellsR at hc
 split at hc
 ·rename_i hm
  obtain ⟨h1, h2⟩ := List.mem_filter.1 hc
  exact sign_ok h2 (mayL_cell hm c h1)
 ·cases hc
theorem joined_ok (p : List LR) : lineB (joined p) = true := by
 unfold lineB joined trimL
 refine List.all_eq_true.2 fun c hc => ?_
 obtain ⟨r, _, hr⟩ := List.mem_flatMap.1 (List.mem_of_mem_take hc)
 exact cells_ok c hr
theorem join_ok (rs : List LR) : ∀ l ∈ joinL rs, lineB l = true := fun l hl => by
 unfold joinL at hl
 obtain ⟨p, _, rfl⟩ := List.mem_map.1 hl
 exact joined_ok p
def markN (rs : List LR) (p : Int × Int) : Nat × Nat × Nat := if p.1 < 0 then (0, 0, 0) else spotN p.2 p.1.toNat 0 (parts rs)
theorem mark_walk (A : Option Addr) (n c : Nat) (rs : List RowIn) (p : Int × Int) (w : World) (hs : Spans w) (hr : Rws w w.heap.size A n rs) (hc : n ≤ c) (hn : n ≤ 1000000) (hp : p.1 ≤ 9223372036854775807) :
  Calls Tryz.prog 17 #[.slice A n c, .agg #[.int .i64 p.1, .int .i64 p.2]] w fun e w' => e = .returned (spotV (markN (rs.map lr) p)) ∧ Below w.heap.size w w' := by
 unfold markN
 by_cases h : p.1 < 0
 ·rw [if_pos h]
  exact spot_neg A n c p.1 p.2 w h
 ·rw [if_neg h]
  obtain ⟨q, hq⟩ : ∃ q : Nat, p.1 = (q : Int) := ⟨p.1.toNat, by omega⟩
  have := spot_walk A n c rs q p.2 w hs hr hc hn (by omega)
  rw [hq, Int.toNat_natCast]
  exact this
end Ln
end Go.Proofs.YtgmijnnhanpocaaGreatDoor
namespace Go.Proofs.YtgmijnnhanpocaaGreatDoor
open Go.ChangeShapes Go.WideShapes Go.ChangeAt Go.RowKit
namespace Ln
open Rw
theorem join_signs {rs : List LR} (h : ∀ r ∈ rs, ∀ c ∈ r.2, -2147483648 ≤ c.1 ∧ c.1 ≤ 2147483647) : ∀ l ∈ joinL rs, ∀ c ∈ l, -2147483648 ≤ c.1 ∧ c.1 ≤ 2147483647 := by
 intro l hl c hc
 obtain ⟨p, hp, rfl⟩ := List.mem_map.1 hl
 unfold joined trimL at hc
 obtain ⟨r, hr, hcr⟩ := List.mem_flatMap.1 (List.mem_of_mem_take hc)
 have hrs : r ∈ rs := by rw [← parts_flatten rs]; exact List.mem_flatten.2 ⟨p, hp, hr⟩
 refine h r hrs c ?_
 unfold cellsR at hcr
 split at hcr
 ·exact (List.mem_filter.1 hcr).1
 ·cases hcr
theorem rows_ok {W : World} {B n : Nat} {A : Option Addr} {rs : List RowIn} (h : Rws W B A n rs) (hn : n ≤ 33) : LOk (joinL (rs.map lr)) := by
 refine ⟨join_ok _, fun l hl => ?_, join_signs fun r hr => ?_⟩
 ·exact joinL_len (rs := rs.map lr) (N := 10000) (by rw [List.length_map, h.len]; omega) l hl
 ·obtain ⟨x, hx, rfl⟩ := List.mem_map.1 hr
  exact (h.each x hx).signs
theorem joinL_many {rs : List LR} : (joinL rs).length ≤ rs.length := by
 unfold joinL
 rw [List.length_map]
 exact parts_length_le rs
end Ln
end Go.Proofs.YtgmijnnhanpocaaGreatDoor
namespace Go.Proofs.YtgmijnnhanpocaaGreatDoor
namespace Ln
open Rw
theorem all_wide {w : Nat} (hw : 2 ≤ w) (hw2 : w ≤ 300) {ls : List (List Cel)} (h : ∀ l ∈ ls, lineB l = true) : ∀ r ∈ allL w ls, r.2.length = w := by
 intro r hr
 unfold allL at hr
 obtain ⟨l, hl, hr⟩ := List.mem_flatMap.1 hr
 obtain ⟨_, _, _, _, h2, _⟩ := layL_is hw hw2 (h l hl)
 exact (h2 r hr).1
end Ln
end Go.Proofs.YtgmijnnhanpocaaGreatDoor
namespace Go.Proofs.YtgmijnnhanpocaaGreatDoor
namespace Ln
open Rw
theorem ahead_pre {pr : Nat} {pc : Int} : ∀ {A B : List Pl}, (∀ y ∈ A, stops pr pc y = false) → aheadN pr pc (A ++ B) = A.length + aheadN pr pc B
 | [], B, _ => by simp
 | y :: A, B, h => by
  rw [List.cons_append, aheadN, h y (by simp), ahead_pre (A := A) (B := B) (fun z hz => h z (by simp [hz])), List.length_cons]
  simp
  omega
theorem ahead_stop {pr : Nat} {pc : Int} {B : List Pl} (h : ∀ y ∈ B, stops pr pc y = true) : aheadN pr pc B = 0 := by
 cases B with
 | nil => rfl
 | cons y B => rw [aheadN, h y (by simp)]; rfl
def colN (l : List Cel) (pc : Int) : Nat := (max 0 (min pc (l.length : Int))).toNat
def halfN (l : List Cel) (col : Nat) : Bool := decide (col < l.length) && (decide (0 < col) && (cAt l col).2.1 == 0)
def cutN (l : List Cel) (pc : Int) : Nat := if halfN l (colN l pc) then colN l pc - 1 else colN l pc
theorem sign_w {c : Cel} (h : signC c = true) (hm : mayB c = true) : 1 ≤ c.2.1 ∧ c.2.1 ≤ 2 := by
 rcases sign_wide h hm with h | h <;> omega
theorem sign_two {c : Cel} (h : c.2.1 = 2) : signC c = true := by
 obtain ⟨r, m, a⟩ := c
 simp only at h
 subst h
 unfold signC padC isB
 simp
theorem from_at {i : Nat} : ∀ {m : List Cel} {b : Nat} {y : Pl}, y ∈ signsFrom i b m → y.1.1 = i ∧ ∃ j, j < m.length ∧ y.1.2 = b + j ∧ m[j]? = some y.2 ∧ signC y.2 = true
 | [], _, y, h => by cases h
 | c :: m, b, y, h => by
  rw [signsFrom] at h
  rcases List.mem_append.1 h with h | h
  ·split at h
   ·rename_i hc
    simp at h
    subst h
    exact ⟨rfl, 0, by simp, rfl, rfl, hc⟩
   ·cases h
  ·obtain ⟨h1, j, h2, h3, h4, h5⟩ := from_at h
   exact ⟨h1, j + 1, by rw [List.length_cons]; omega, by omega, by simpa using h4, h5⟩
theorem row_ahead {l : List Cel} (hm : mayL l = true) (q : Nat) (pc : Int) : aheadN q pc (signsFrom q 0 l) = (signsFrom q 0 (l.take (cutN l pc))).length := by
 obtain ⟨_, G⟩ := (mayL_iff l).1 hm
 have hcol : colN l pc ≤ l.length := by unfold colN; omega
 have hcut : cutN l pc ≤ colN l pc := by unfold cutN; split <;> omega
 have e : signsFrom q 0 l = signsFrom q 0 (l.take (cutN l pc)) ++ signsFrom q (cutN l pc) (l.drop (cutN l pc)) := by
  conv => lhs; rw [← List.take_append_drop (cutN l pc) l]
  rw [signsFrom_append, List.length_take, Nat.min_eq_left (by omega), Nat.zero_add]
 have half : ∀ j, (cAt l j).2.1 = 2 → j + 1 < l.length ∧ (cAt l (j + 1)).2.1 = 0 := fun j hj => by
  have h1 := (G.next j).1 hj
  refine ⟨?_, h1⟩
  by_cases h : j + 1 < l.length
  ·exact h
  ·rw [cAt_none (by omega)] at h1
   exact absurd h1 (by decide)
 rw [e, ahead_pre, ahead_stop, Nat.add_zero]
 ·intro y hy
  obtain ⟨h1, j, h2, h3, h4, h5⟩ := from_at hy
  rw [List.length_drop] at h2
  rw [List.getElem?_drop] at h4
  have hc := cAt_some h4
  obtain ⟨w1, w2⟩ := sign_w h5 (by rw [← hc]; exact G.each _ (by omega))
  unfold stops
  rw [h1, beq_self_eq_true, Bool.true_and, decide_eq_true_eq, h3]
  have hlt : colN l pc < l.length := by
   unfold cutN at h2
   by_cases hh : halfN l (colN l pc) = true
   ·unfold halfN at hh
    simp only [Bool.and_eq_true, decide_eq_true_eq] at hh
    exact hh.1
   ·rw [if_neg hh] at h2
    omega
  have hpc : pc ≤ (colN l pc : Int) := by unfold colN at hlt ⊢; omega
  by_cases hh : halfN l (colN l pc) = true
  ·have hcu : cutN l pc = colN l pc - 1 := by unfold cutN; rw [if_pos hh]
   unfold halfN at hh
   simp only [Bool.and_eq_true, decide_eq_true_eq, beq_iff_eq] at hh
   obtain ⟨_, h6, h7⟩ := hh
   by_cases hj : j = 0
   ·subst hj
    have h8 : (cAt l (colN l pc - 1)).2.1 = 2 := (G.next _).2 (by rw [show colN l pc - 1 + 1 = colN l pc by omega]; exact h7)
    rw [Nat.add_zero, hcu] at hc
    rw [hc] at h8
    rw [h8, hcu]
    omega
   ·rw [hcu]
    omega
  ·have hcu : cutN l pc = colN l pc := by unfold cutN; rw [if_neg hh]
   rw [hcu]
   omega
 ·intro y hy
  obtain ⟨h1, j, h2, h3, h4, h5⟩ := from_at hy
  rw [List.length_take] at h2
  rw [List.getElem?_take, if_pos (by omega)] at h4
  have hc := cAt_some h4
  obtain ⟨w1, w2⟩ := sign_w h5 (by rw [← hc]; exact G.each _ (by omega))
  unfold stops
  rw [h1, beq_self_eq_true, Bool.true_and, decide_eq_false_iff_not, h3, Nat.zero_add]
  have hj : j < cutN l pc := by omega
  have hpc : ((colN l pc : Nat) : Int) ≤ pc := by unfold colN at hcut ⊢; omega
  by_cases hw : y.2.2.1 = 2
  ·rw [hw]
   obtain ⟨g1, g2⟩ := half j (by rw [hc]; exact hw)
   by_cases hh : halfN l (colN l pc) = true
   ·have hcu : cutN l pc = colN l pc - 1 := by unfold cutN; rw [if_pos hh]
    omega
   ·have hcu : cutN l pc = colN l pc := by unfold cutN; rw [if_neg hh]
    have : j + 1 ≠ colN l pc := fun e => hh (by
     unfold halfN
     rw [← e]
     simp only [Bool.and_eq_true, decide_eq_true_eq, beq_iff_eq]
     exact ⟨g1, by omega, g2⟩)
    omega
  ·omega
theorem row_count {l : List Cel} (hm : mayL l = true) (q : Nat) (pc : Int) : ((l.take (colN l pc)).filter signC).length - (if halfN l (colN l pc) then 1 else 0) = aheadN q pc (signsFrom q 0 l) ∧ (halfN l (colN l pc) = true → 1 ≤ ((l.take (colN l pc)).filter signC).length) := by
 obtain ⟨_, G⟩ := (mayL_iff l).1 hm
 rw [row_ahead hm, ← List.length_map (f := fun y : Pl => y.2), signsFrom_cells]
 by_cases hh : halfN l (colN l pc) = true
 ·have hcu : cutN l pc = colN l pc - 1 := by unfold cutN; rw [if_pos hh]
  rw [if_pos hh, hcu]
  unfold halfN at hh
  simp only [Bool.and_eq_true, decide_eq_true_eq, beq_iff_eq] at hh
  obtain ⟨h5, h6, h7⟩ := hh
  have h8 : (cAt l (colN l pc - 1)).2.1 = 2 := (G.next _).2 (by rw [show colN l pc - 1 + 1 = colN l pc by omega]; exact h7)
  have h9 := filter_next (cAt_get (l := l) (i := colN l pc - 1) (by omega))
  rw [show colN l pc - 1 + 1 = colN l pc by omega, if_pos (sign_two h8)] at h9
  rw [h9, List.length_append, List.length_singleton]
  exact ⟨by omega, fun _ => by omega⟩
 ·have hcu : cutN l pc = colN l pc := by unfold cutN; rw [if_neg hh]
  rw [if_neg hh, hcu]
  exact ⟨by omega, fun h => absurd h hh⟩
def rowA (r : LR) (pc : Int) : Nat := if mayL r.2 then ((r.2.take (cutN r.2 pc)).filter signC).length else 0
theorem rowA_is (q : Nat) (r : LR) (pc : Int) : aheadN q pc (signsRow q r) = rowA r pc := by
 unfold signsRow rowA
 by_cases hm : mayL r.2 = true
 ·rw [if_pos hm, if_pos hm, row_ahead hm, ← List.length_map (f := fun y : Pl => y.2), signsFrom_cells]
 ·rw [if_neg hm, if_neg hm]
  rfl
theorem ends_append (a b : List LR) : ends (a ++ b) = ends a + ends b := by unfold ends; rw [List.filter_append, List.length_append]
theorem ends_go {a : List LR} (h : ∀ r ∈ a, goes r = true) : ends a = 0 := by
 unfold ends
 rw [List.filter_eq_nil_iff.2 fun r hr => by simp [h r hr]]
 rfl
theorem offR_go {a : List LR} (h : ∀ r ∈ a, goes r = true) : offR a = (signsAll 0 a).length := by
 have key : ∀ a : List LR, (signsAll 0 a).length = (a.flatMap cellsR).length := fun a => by rw [← signsAll_cells a 0, List.length_map]
 rw [key]
 revert h
 refine snoc_ind (P := fun a => (∀ r ∈ a, goes r = true) → offR a = (a.flatMap cellsR).length) (fun _ => rfl) (fun a r ih h => ?_) a
 rw [offR_snoc, if_pos (h r (by simp)), ih fun x hx => h x (by simp [hx]), List.flatMap_append, List.length_append]
 simp
theorem offR_zero {a : List LR} (h : offR a = 0) (b : List LR) : offR (a ++ b) = offR b := by
 unfold offR at h ⊢
 rw [List.foldl_append, h]
theorem cut_goes {L : List LR} {i : Nat} {r : LR} (h : i + 1 < cut L) (hr : L[i]? = some r) : goes r = true := ((cut_step (by omega) hr).1 h).1
theorem cut_ends {L : List LR} (h : cut L < L.length) {r : LR} (hr : L[cut L - 1]? = some r) : goes r = false := by
 have h1 := cut_pos (l := L) (by intro e; rw [e] at h; simp at h)
 have h2 := (cut_step (l := L) (i := cut L - 1) (by omega) hr).2
 cases hg : goes r with
 | false => rfl
 | true => exact absurd (h2 ⟨hg, by omega⟩) (by omega)
theorem take_goes {L : List LR} {p : Nat} (h : p < cut L) : ∀ r ∈ L.take p, goes r = true := fun r hr => by
 obtain ⟨i, hi⟩ := List.mem_iff_getElem?.1 hr
 rw [List.getElem?_take] at hi
 split at hi
 ·exact cut_goes (by omega) hi
 ·cases hi
theorem spot_ref (pc : Int) : ∀ (N : Nat) (L : List LR) (pr k : Nat) (r : LR), L.length ≤ N → L[pr]? = some r →
  ∃ l, (joinL L)[ends (L.take pr)]? = some l ∧ spotN pc pr k (parts L) = (k + ends (L.take pr), min (offR (L.take pr) + rowA r pc) l.length, offR (L.take pr) + rowA r pc - l.length)
 | 0, L, pr, k, r, hN, hr => by
  have := (List.getElem?_eq_some_iff.1 hr).1
  omega
 | N + 1, L, pr, k, r, hN, hr => by
  have hlt := (List.getElem?_eq_some_iff.1 hr).1
  have hne : L ≠ [] := fun e => by rw [e] at hlt; simp at hlt
  have hp := cut_pos hne
  have hc := cut_le L
  have hpart := parts_cut hne
  have hjoin : joinL L = joined (L.take (cut L)) :: joinL (L.drop (cut L)) := by unfold joinL; rw [hpart]; rfl
  have hlen : (L.take (cut L)).length = cut L := by rw [List.length_take]; omega
  rw [hpart, spotN, hlen]
  by_cases hpc : pr < cut L
  ·rw [if_pos hpc, List.take_take, show min (pr + 1) (cut L) = pr + 1 by omega]
   have hg := take_goes hpc
   have e1 := ends_go hg
   have e2 := offR_go hg
   have e3 : aheadN pr pc (signsAll 0 (L.take (pr + 1))) = offR (L.take pr) + rowA r pc := by
    have hl : (L.take pr).length = pr := by rw [List.length_take]; omega
    rw [take_one hr, signsAll_append, Nat.zero_add, hl, ahead_pre, e2, signsAll, signsAll, List.append_nil, rowA_is]
    intro y hy
    obtain ⟨_, _, _, h4⟩ := signs_fit hy
    rw [hl] at h4
    unfold stops
    rw [show (y.1.1 == pr) = false from by simp; omega]
    rfl
   refine ⟨joined (L.take (cut L)), by rw [e1, hjoin]; rfl, ?_⟩
   rw [e1, e3]
   rfl
  ·rw [if_neg hpc]
   obtain ⟨s, hs⟩ : ∃ s, L[cut L - 1]? = some s := ⟨_, List.getElem?_eq_getElem (by omega)⟩
   have hg := cut_ends (by omega) hs
   have hdr : (L.drop (cut L))[pr - cut L]? = some r := by rw [List.getElem?_drop, show cut L + (pr - cut L) = pr by omega]; exact hr
   obtain ⟨l, h1, h2⟩ := spot_ref pc N (L.drop (cut L)) (pr - cut L) (k + 1) r (by rw [List.length_drop]; omega) hdr
   have hsplit : L.take pr = L.take (cut L) ++ (L.drop (cut L)).take (pr - cut L) := by
    rw [show pr = cut L + (pr - cut L) by omega, List.take_add, show cut L + (pr - cut L) - cut L = pr - cut L by omega]
   have hsn : L.take (cut L) = L.take (cut L - 1) ++ [s] := by
    have := take_one hs
    rw [show cut L - 1 + 1 = cut L by omega] at this
    exact this
   have e1 : ends (L.take (cut L)) = 1 := by
    rw [hsn, ends_snoc, ends_go (take_goes (by omega)), hg]
    rfl
   have e2 : offR (L.take (cut L)) = 0 := by
    rw [hsn, offR_snoc, hg]
    rfl
   have e3 : ends (L.take pr) = ends ((L.drop (cut L)).take (pr - cut L)) + 1 := by rw [hsplit, ends_append, e1, Nat.add_comm]
   have e4 : offR (L.take pr) = offR ((L.drop (cut L)).take (pr - cut L)) := by rw [hsplit, offR_zero e2]
   refine ⟨l, by rw [e3, hjoin, List.getElem?_cons_succ]; exact h1, ?_⟩
   rw [h2, e3, e4]
   congr 1
   omega
end Ln
end Go.Proofs.YtgmijnnhanpocaaGreatDoor
namespace Go.Proofs.YtgmijnnhanpocaaGreatDoor
open Go.ChangeShapes Go.WideShapes Go.ChangeAt Go.RowKit
namespace Ln
open Rw
def jrL : List Ord.Line := [
 (some 29, Go.Op.move (Go.Operand.tmp 3), none, []),
 (some 30, Go.Op.move (Go.Operand.tmp 4), none, []),
 (some 31, Go.Op.move (Go.Operand.tmp 6), none, []),
 (some 32, Go.Op.indexAddr 43 (Go.Operand.tmp 30) (Go.Operand.tmp 31), none, [1, 2]),
 (some 33, Go.Op.load 3 (Go.Operand.tmp 32), none, [3]),
 (some 34, Go.Op.move (Go.Operand.tmp 3), none, []),
 (some 35, Go.Op.move (Go.Operand.tmp 4), none, []),
 (some 36, Go.Op.move (Go.Operand.tmp 6), none, []),
 (some 37, Go.Op.indexAddr 43 (Go.Operand.tmp 35) (Go.Operand.tmp 36), none, [6, 7]),
 (some 38, Go.Op.load 3 (Go.Operand.tmp 37), none, [8]),
 (some 39, Go.Op.indexAddr 23 (Go.Operand.tmp 34) (Go.Operand.tmp 38), none, [5, 9]),
 (some 40, Go.Op.load 46 (Go.Operand.tmp 39), none, [10]),
 (some 41, Go.Op.move (Go.Operand.tmp 0), none, []),
 (some 42, Go.Op.move (Go.Operand.tmp 6), none, []),
 (some 43, Go.Op.indexAddr 22 (Go.Operand.tmp 41) (Go.Operand.tmp 42), none, [12, 13]),
 (some 44, Go.Op.load 48 (Go.Operand.tmp 43), none, [14]),
 (some 45, Go.Op.call { callee := Go.Callee.value (Go.Operand.func 41), args := #[Go.Operand.tmp 44], argTypes := #[48] }, none, [15]),
 (some 46, Go.Op.call { callee := Go.Callee.builtin Go.Builtin.append, args := #[Go.Operand.tmp 40, Go.Operand.tmp 45], argTypes := #[46, 46] }, none, [11, 16, 16]),
 (some 47, Go.Op.indexAddr 23 (Go.Operand.tmp 29) (Go.Operand.tmp 33), none, [0, 4, 0, 1, 2, 3, 4, 5, 6, 7, 8, 9, 10, 11, 12, 13, 14, 15, 16, 17]),
 (none, Go.Op.store 46 (Go.Operand.tmp 47) (Go.Operand.tmp 46), none, [18, 17, 17, 0, 1, 2, 3, 4, 5, 6, 7, 8, 9, 10, 11, 12, 13, 14, 15, 16, 17])]
structure JrFr (b0 o0 n c go p d3 g4 d4 k : Nat) (a0 a : Act) : Prop where
 size : a.tmps.size = 63
 s0 : Chain.At a 0 (.slice (some ⟨b0, o0, none⟩) n c)
 s3 : Chain.At a 3 (.slice (some ⟨go, 0, none⟩) p d3)
 s4 : Chain.At a 4 (.slice (some ⟨g4, 0, none⟩) n d4)
 s6 : Chain.At a 6 (.int .i64 (k : Int))
 fr : Fr 29 47 a0 a
theorem JrFr.next {b0 o0 n c go p d3 g4 d4 k : Nat} {a0 a a' : Act} {d : Nat} {v : Value} (F : JrFr b0 o0 n c go p d3 g4 d4 k a0 a) (nx : Chain.Next a a' d v) (h : 29 ≤ d ∧ d ≤ 47) : JrFr b0 o0 n c go p d3 g4 d4 k a0 a' := ⟨nx.size.trans F.size, nx.keep 0 _ (by omega) F.s0, nx.keep 3 _ (by omega) F.s3, nx.keep 4 _ (by omega) F.s4, nx.keep 6 _ (by omega) F.s6, F.fr.next nx h⟩
theorem JrFr.lt {b0 o0 n c go p d3 g4 d4 k : Nat} {a0 a : Act} {d : Nat} (F : JrFr b0 o0 n c go p d3 g4 d4 k a0 a) (h : d < 63) : d < a.tmps.size := by rw [F.size]; exact h
set_option maxRecDepth 100000 in
set_option maxHeartbeats 3200000 in
theorem jr_region {ops : Array Oper} {Q : Exit → Act → World → Prop} (R : Ord.Reg ops jrL) (hQ : ∀ c a w d v, Q (.panic c) (Act.put a (some d) v) w → Q (.panic c) a w) {w1 : World} {Rd : World → Prop} {b0 o0 n c go p d3 g4 d4 k E nx cX rn rc sL B : Nat} {AX rA : Option Addr} {rb : Bool} {xs news : List Value} {P1 : World → Option Addr → Nat → Prop} {i0 : TypeInfo}
  (hi : Tryz.prog.info? 50 = some i0) (hz0 : i0.zero = some (.agg #[.int .i32 0, .int .i64 0, .int .i64 0])) (hz1 : i0.size = 3) (hz2 : i0.bytes = 24)
  (hk0 : (0 : Int) ≤ (k : Int)) (hkn : (k : Int) < (n : Int)) (hE0 : (0 : Int) ≤ (E : Int)) (hEp : (E : Int) < (p : Int))
  (k0 : ∀ w : World, Rd w → w.cell? ⟨g4, k, none⟩ = some (.int .i64 (E : Int))) (kx : w1.cell? ⟨go, E, none⟩ = some (.slice AX nx cX)) (ka : ∀ w : World, Rd w → w.cell? ⟨b0, o0 + k * 2, none⟩ = some (.slice rA rn rc)) (kb : ∀ w : World, Rd w → w.cell? ⟨b0, o0 + k * 2 + 1, none⟩ = some (.bool rb))
  (C1 : Calls Tryz.prog 41 #[.agg #[.slice rA rn rc, .bool rb]] w1 fun e w' => ∃ A6 c6, e = .returned (.slice A6 sL c6) ∧ P1 w' A6 c6)
  (KS1 : ∀ w A6 c6, P1 w A6 c6 → Rd w) (X1 : ∀ w A6 c6, P1 w A6 c6 → w.ownsRow B 50 3 (.slice AX nx cX) nx xs ∧ Sq w w.heap.size 3 sL A6 news ∧ B ≤ w.heap.size) (KX : ∀ w A6 c6, P1 w A6 c6 → w.cell? ⟨go, E, none⟩ = some (.slice AX nx cX)) (KA : ∀ w A6 c6 w', P1 w A6 c6 → w.grownBy w' (Value.slice AX nx cX).ownBlock → Rd w' ∧ (∃ x, w'.cell? ⟨go, E, none⟩ = some x) ∧ w'.frozen? ⟨go, E, none⟩ = false) (ks : ∀ (w : World) (v : Value), Rd w → Rd (w.setCell ⟨go, E, none⟩ v))
  (h1 : ∀ u ∈ news, u.oneCell' = true) (hm : nx + sL ≤ maxLen) (hm2 : (nx + sL) * 24 ≤ 140737488355328) (hS : Rd w1)
  (a0 a : Act) (F : JrFr b0 o0 n c go p d3 g4 d4 k a0 a) (h : ∀ a w A6 c6 w4 A4 c4, P1 w A6 c6 → w4.ownsRow B 50 3 (.slice A4 (nx + sL) c4) (nx + sL) (xs ++ news) → w.grownBy w4 (Value.slice AX nx cX).ownBlock → ((Value.slice A4 (nx + sL) c4).ownBlock = (Value.slice AX nx cX).ownBlock ∨ (Value.slice A4 (nx + sL) c4).ownBlock = some w.heap.size) → JrFr b0 o0 n c go p d3 g4 d4 k a0 a → Q .normal a (w4.setCell ⟨go, E, none⟩ (.slice A4 (nx + sL) c4))) :
  wpAnyH Tryz.prog .any ops Q (fun w => Rd w) 20 (List.replicate 20 false).toArray a w1 := by
 have hld : ∀ (w : World) (a : Act), w.cell? ⟨go, E, none⟩ = some (.slice AX nx cX) → Chain.At a 39 (.pointer (some ⟨go, E, none⟩)) → ∀ ty, (execOp a.eval ⟨some 40, .load 46 (.tmp 39), ty, "", #[], none⟩).run Tryz.prog w = .ok (.value (.slice AX nx cX)) w := fun w a q f ty => by
  have e := f
  unfold Chain.At at e
  go_simp
 have tail : ∀ (a : Act) (w : World) (A6 : Option Addr) (c6 : Nat), P1 w A6 c6 → JrFr b0 o0 n c go p d3 g4 d4 k a0 a → Chain.At a 29 (.slice (some ⟨go, 0, none⟩) p d3) → Chain.At a 33 (.int .i64 (E : Int)) → Chain.At a 40 (.slice AX nx cX) → Chain.At a 45 (.slice A6 sL c6) → wpAnyH Tryz.prog .any ops Q (fun w => Rd w) 3 (Ord.upto 17 20).toArray a w := by
  intro a w A6 c6 K1 F f29 f33 f40 f45
  refine Ord.append R (k := 17) (.tmp 40) (.tmp 45) 46 (bs' := (Ord.upto 18 20)) rfl (by kernel_rfl) trivial (F.lt (by decide)) B 50 i0 (.agg #[.int .i32 0, .int .i64 0, .int .i64 0]) 3 24 Tryz.underlying46 hi hz0 hz1 hz2 rfl (by decide) (.slice AX nx cX) nx xs f40.ev (X1 _ _ _ K1).1 A6 sL c6 news f45.ev _ (X1 _ _ _ K1).2.1 h1 hm hm2 (X1 _ _ _ K1).2.2 ?_
  intro A4 c4 w4 hown hg hat
  obtain ⟨hR4, ⟨x4, hx4⟩, hf4⟩ := KA _ _ _ _ K1 hg
  refine ⟨hR4, fun a17 N => ?_⟩
  have F2 := F.next N (by decide)
  have g29 := N.keep 29 _ (by decide) f29
  have g33 := N.keep 33 _ (by decide) f33
  have g46 := N.got
  refine Ord.value R (k := 18) (v := .pointer (some ⟨go, E, none⟩)) (bs' := (Ord.upto 19 20)) rfl (by kernel_rfl) trivial hR4 (fun ty => by have e1 := g29; have e2 := g33; unfold Chain.At at e1 e2; have q0 := hE0; have q1 := hEp; clear F F2; go_simp) (F2.lt (by decide)) fun a18 N2 => ?_
  have F3 := F2.next N2 (by decide)
  have k46 := N2.keep 46 _ (by decide) g46
  have k47 := N2.got
  refine Ord.effect R (k := 19) (bs' := (Ord.upto 20 20)) rfl (by kernel_rfl) trivial (ks _ _ hR4) (w1 := w4.setCell ⟨go, E, none⟩ (.slice A4 (nx + sL) c4)) (fun ty => ?_) ?_
  ·have q0 := hx4
   have q1 := hf4
   have e1 := k46
   have e2 := k47
   unfold Chain.At at e1 e2
   clear F F2 F3
   go_simp
  ·exact Ord.finish R (by kernel_rfl) (h _ _ _ _ _ _ _ K1 hown hg hat F3)
 refine Ord.take R (k := 0) (v := .slice (some ⟨go, 0, none⟩) p d3) (bs' := (Ord.upto 1 20)) rfl (by kernel_rfl) hQ trivial hS (fun w _ hS => Chain.ev_move F.s3.ev) (F.lt (by decide)) fun a0 N => ?_
 replace F := F.next N (by decide)
 have f29 := N.got
 clear N a
 refine Ord.take R (k := 1) (v := .slice (some ⟨g4, 0, none⟩) n d4) (bs' := (Ord.upto 2 20)) rfl (by kernel_rfl) hQ trivial hS (fun w _ hS => Chain.ev_move F.s4.ev) (F.lt (by decide)) fun a1 N => ?_
 replace F := F.next N (by decide)
 replace f29 := N.keep 29 _ (by decide) f29
 have f30 := N.got
 clear N a0
 refine Ord.take R (k := 2) (v := .int .i64 (k : Int)) (bs' := (Ord.upto 3 20)) rfl (by kernel_rfl) hQ trivial hS (fun w _ hS => Chain.ev_move F.s6.ev) (F.lt (by decide)) fun a2 N => ?_
 replace F := F.next N (by decide)
 replace f29 := N.keep 29 _ (by decide) f29
 replace f30 := N.keep 30 _ (by decide) f30
 have f31 := N.got
 clear N a1
 refine Ord.take R (k := 3) (v := .pointer (some ⟨g4, k, none⟩)) (bs' := (Ord.upto 4 20)) rfl (by kernel_rfl) hQ trivial hS (fun w _ hS => by have e30 := f30; unfold Chain.At at e30; have e31 := f31; unfold Chain.At at e31; have q0 := hk0; have q1 := hkn; clear F; go_simp) (F.lt (by decide)) fun a3 N => ?_
 replace F := F.next N (by decide)
 replace f29 := N.keep 29 _ (by decide) f29
 clear f30
 clear f31
 have f32 := N.got
 clear N a2
 refine Ord.take R (k := 4) (v := .int .i64 (E : Int)) (bs' := (Ord.upto 5 20)) rfl (by kernel_rfl) hQ trivial hS (fun w _ hS => by have e32 := f32; unfold Chain.At at e32; have q0 := (k0 w hS); clear F; go_simp) (F.lt (by decide)) fun a4 N => ?_
 replace F := F.next N (by decide)
 replace f29 := N.keep 29 _ (by decide) f29
 clear f32
 have f33 := N.got
 clear N a3
 refine Ord.take R (k := 5) (v := .slice (some ⟨go, 0, none⟩) p d3) (bs' := (Ord.upto 6 20)) rfl (by kernel_rfl) hQ trivial hS (fun w _ hS => Chain.ev_move F.s3.ev) (F.lt (by decide)) fun a5 N => ?_
 replace F := F.next N (by decide)
 replace f29 := N.keep 29 _ (by decide) f29
 replace f33 := N.keep 33 _ (by decide) f33
 have f34 := N.got
 clear N a4
 refine Ord.take R (k := 6) (v := .slice (some ⟨g4, 0, none⟩) n d4) (bs' := (Ord.upto 7 20)) rfl (by kernel_rfl) hQ trivial hS (fun w _ hS => Chain.ev_move F.s4.ev) (F.lt (by decide)) fun a6 N => ?_
 replace F := F.next N (by decide)
 replace f29 := N.keep 29 _ (by decide) f29
 replace f33 := N.keep 33 _ (by decide) f33
 replace f34 := N.keep 34 _ (by decide) f34
 have f35 := N.got
 clear N a5
 refine Ord.take R (k := 7) (v := .int .i64 (k : Int)) (bs' := (Ord.upto 8 20)) rfl (by kernel_rfl) hQ trivial hS (fun w _ hS => Chain.ev_move F.s6.ev) (F.lt (by decide)) fun a7 N => ?_
 replace F := F.next N (by decide)
 replace f29 := N.keep 29 _ (by decide) f29
 replace f33 := N.keep 33 _ (by decide) f33
 replace f34 := N.keep 34 _ (by decide) f34
 replace f35 := N.keep 35 _ (by decide) f35
 have f36 := N.got
 clear N a6
 refine Ord.take R (k := 8) (v := .pointer (some ⟨g4, k, none⟩)) (bs' := (Ord.upto 9 20)) rfl (by kernel_rfl) hQ trivial hS (fun w _ hS => by have e35 := f35; unfold Chain.At at e35; have e36 := f36; unfold Chain.At at e36; have q0 := hk0; have q1 := hkn; clear F; go_simp) (F.lt (by decide)) fun a8 N => ?_
 replace F := F.next N (by decide)
 replace f29 := N.keep 29 _ (by decide) f29
 replace f33 := N.keep 33 _ (by decide) f33
 replace f34 := N.keep 34 _ (by decide) f34
 clear f35
 clear f36
 have f37 := N.got
 clear N a7
 refine Ord.take R (k := 9) (v := .int .i64 (E : Int)) (bs' := (Ord.upto 10 20)) rfl (by kernel_rfl) hQ trivial hS (fun w _ hS => by have e37 := f37; unfold Chain.At at e37; have q0 := (k0 w hS); clear F; go_simp) (F.lt (by decide)) fun a9 N => ?_
 replace F := F.next N (by decide)
 replace f29 := N.keep 29 _ (by decide) f29
 replace f33 := N.keep 33 _ (by decide) f33
 replace f34 := N.keep 34 _ (by decide) f34
 clear f37
 have f38 := N.got
 clear N a8
 refine Ord.take R (k := 10) (v := .pointer (some ⟨go, E, none⟩)) (bs' := (Ord.upto 11 20)) rfl (by kernel_rfl) hQ trivial hS (fun w _ hS => by have e34 := f34; unfold Chain.At at e34; have e38 := f38; unfold Chain.At at e38; have q0 := hE0; have q1 := hEp; clear F; go_simp) (F.lt (by decide)) fun a10 N => ?_
 replace F := F.next N (by decide)
 replace f29 := N.keep 29 _ (by decide) f29
 replace f33 := N.keep 33 _ (by decide) f33
 clear f34
 clear f38
 have f39 := N.got
 clear N a9
 refine Ord.take R (k := 12) (v := .slice (some ⟨b0, o0, none⟩) n c) (bs' := [true, true, true, true, true, true, true, true, true, true, true, false, true, false, false, false, false, false, false, false]) rfl (by kernel_rfl) hQ trivial hS (fun w _ hS => Chain.ev_move F.s0.ev) (F.lt (by decide)) fun a12 N => ?_
 replace F := F.next N (by decide)
 replace f29 := N.keep 29 _ (by decide) f29
 replace f33 := N.keep 33 _ (by decide) f33
 replace f39 := N.keep 39 _ (by decide) f39
 have f41 := N.got
 clear N a10
 refine Ord.take R (k := 13) (v := .int .i64 (k : Int)) (bs' := [true, true, true, true, true, true, true, true, true, true, true, false, true, true, false, false, false, false, false, false]) rfl (by kernel_rfl) hQ trivial hS (fun w _ hS => Chain.ev_move F.s6.ev) (F.lt (by decide)) fun a13 N => ?_
 replace F := F.next N (by decide)
 replace f29 := N.keep 29 _ (by decide) f29
 replace f33 := N.keep 33 _ (by decide) f33
 replace f39 := N.keep 39 _ (by decide) f39
 replace f41 := N.keep 41 _ (by decide) f41
 have f42 := N.got
 clear N a12
 refine Ord.take R (k := 14) (v := .pointer (some ⟨b0, o0 + k * 2, none⟩)) (bs' := [true, true, true, true, true, true, true, true, true, true, true, false, true, true, true, false, false, false, false, false]) rfl (by kernel_rfl) hQ trivial hS (fun w _ hS => by have e41 := f41; unfold Chain.At at e41; have e42 := f42; unfold Chain.At at e42; have q0 := hk0; have q1 := hkn; clear F; go_simp) (F.lt (by decide)) fun a14 N => ?_
 replace F := F.next N (by decide)
 replace f29 := N.keep 29 _ (by decide) f29
 replace f33 := N.keep 33 _ (by decide) f33
 replace f39 := N.keep 39 _ (by decide) f39
 clear f41
 clear f42
 have f43 := N.got
 clear N a13
 refine Ord.take R (k := 15) (v := .agg #[.slice rA rn rc, .bool rb]) (bs' := [true, true, true, true, true, true, true, true, true, true, true, false, true, true, true, true, false, false, false, false]) rfl (by kernel_rfl) hQ trivial hS (fun w _ hS => by have e43 := f43; unfold Chain.At at e43; have q0 := (ka w hS); have q1 := (kb w hS); clear F; go_simp) (F.lt (by decide)) fun a15 N => ?_
 replace F := F.next N (by decide)
 replace f29 := N.keep 29 _ (by decide) f29
 replace f33 := N.keep 33 _ (by decide) f33
 replace f39 := N.keep 39 _ (by decide) f39
 clear f43
 have f44 := N.got
 clear N a14
 refine Ord.either R (i := 11) (j := 16) (bs1 := [true, true, true, true, true, true, true, true, true, true, true, true, true, true, true, true, false, false, false, false]) (bs2 := [true, true, true, true, true, true, true, true, true, true, true, false, true, true, true, true, true, false, false, false]) (by kernel_rfl) ?_ ?_
 ·refine Ord.step_value R (k := 11) rfl trivial hS (hld w1 _ kx f39) (F.lt (by decide)) fun a16 N => ?_
  have G := F.next N (by decide)
  have g29 := N.keep 29 _ (by decide) f29
  have g33 := N.keep 33 _ (by decide) f33
  have g44 := N.keep 44 _ (by decide) f44
  have g40 := N.got
  refine Ord.call R (k := 16) (bs' := (Ord.upto 17 20)) (args := #[.agg #[.slice rA rn rc, .bool rb]]) rfl (by kernel_rfl) trivial (by simp [g44.ev]) (by kernel_rfl) C1 (G.lt (by decide)) ?_
  rintro e w ⟨A6, c6, rfl, K1⟩
  refine ⟨_, rfl, KS1 _ _ _ K1, fun a17 N2 => ?_⟩
  exact tail _ _ _ _ K1 (G.next N2 (by decide)) (N2.keep 29 _ (by decide) g29) (N2.keep 33 _ (by decide) g33) (N2.keep 40 _ (by decide) g40) N2.got
 ·refine Ord.step_call R (k := 16) (args := #[.agg #[.slice rA rn rc, .bool rb]]) rfl trivial (by simp [f44.ev]) (by kernel_rfl) C1 (F.lt (by decide)) ?_
  rintro e w ⟨A6, c6, rfl, K1⟩
  refine ⟨_, rfl, KS1 _ _ _ K1, fun a16 N => ?_⟩
  have G := F.next N (by decide)
  have g29 := N.keep 29 _ (by decide) f29
  have g33 := N.keep 33 _ (by decide) f33
  have g39 := N.keep 39 _ (by decide) f39
  have g45 := N.got
  refine Ord.value R (k := 11) (bs' := (Ord.upto 17 20)) rfl (by kernel_rfl) trivial (KS1 _ _ _ K1) (hld w _ (KX _ _ _ K1) g39) (G.lt (by decide)) fun a17 N2 => ?_
  exact tail _ _ _ _ K1 (G.next N2 (by decide)) (N2.keep 29 _ (by decide) g29) (N2.keep 33 _ (by decide) g33) N2.got (N2.keep 45 _ (by decide) g45)
end Ln
end Go.Proofs.YtgmijnnhanpocaaGreatDoor
namespace Go.Proofs.YtgmijnnhanpocaaGreatDoor
open Go.ChangeShapes Go.WideShapes Go.ChangeAt Go.RowKit
namespace Ln
open Rw
theorem groups_len {l : List LR} {x : List Cel} (h : x ∈ groups l) : x.length ≤ 300 * l.length := by
 unfold groups at h
 obtain ⟨p, hp, rfl⟩ := List.mem_map.1 h
 have hle := part_le hp
 have key : ∀ q : List LR, (q.flatMap cellsR).length ≤ 300 * q.length := by
  intro q
  induction q with
  | nil => exact Nat.zero_le _
  | cons r q ih =>
   have := cellsR_len r
   rw [List.flatMap_cons, List.length_append, List.length_cons]
   omega
 have := key p
 omega
theorem modify_set {α : Type} {L : List α} {q : Nat} {x : α} (f : α → α) (h : L[q]? = some x) : L.modify q f = L.set q (f x) := by
 refine List.ext_getElem? fun k => ?_
 rw [List.getElem?_modify, List.getElem?_set]
 by_cases hq : q = k
 ·subst hq
  have h1 := (List.getElem?_eq_some_iff.1 h).1
  rw [if_pos rfl, if_pos h1, h]
  simp
 ·simp [hq]
def Apart (vs : List Value) : Prop := ∀ (i j : Nat) (x y : Value), i ≠ j → vs[i]? = some x → vs[j]? = some y → ∀ b, x.ownBlock = some b → y.ownBlock ≠ some b
theorem Apart.snoc_nil {vs : List Value} (h : Apart vs) : Apart (vs ++ [.slice none 0 0]) := by
 intro i j x y hij hx hy b hb e
 by_cases hi : i < vs.length
 ·rw [List.getElem?_append_left hi] at hx
  by_cases hj : j < vs.length
  ·rw [List.getElem?_append_left hj] at hy
   exact h i j x y hij hx hy b hb e
  ·rw [List.getElem?_append_right (by omega)] at hy
   have : y = .slice none 0 0 := by
    have hm := List.mem_of_getElem? hy
    simpa using hm
   subst this
   cases e
 ·rw [List.getElem?_append_right (by omega)] at hx
  have : x = .slice none 0 0 := by
   have hm := List.mem_of_getElem? hx
   simpa using hm
  subst this
  cases hb
theorem Lns.replace {W : World} {B go p d i : Nat} {vs : List Value} {ls : List (List Cel)} {v : Value} {l : List Cel} (h : Lns W B (.slice (some ⟨go, 0, none⟩) p d) vs ls) (hx : HasC W B v l) : Lns (W.setCell ⟨go, i, none⟩ v) B (.slice (some ⟨go, 0, none⟩) p d) (vs.set i v) (ls.set i l) := by
 have hlen := h.len
 obtain ⟨_, _, ep, _⟩ := own_cap h.own
 injection ep with _ ep _
 subst ep
 refine ⟨by rw [List.length_set]; exact (h.own.stored i v).1, fun j x m hx' hm => ?_⟩
 have other : ∀ {y : Value} {m : List Cel}, HasC W B y m → HasC (W.setCell ⟨go, i, none⟩ v) B y m := fun {y m} hy => by
  have hh : W.ownsRow B 50 3 y m.length (flat m) := hy
  exact own_keep hh fun k hk => Below.heap_setCell _ _ _ _ (fun e => own_ne hh h.own (by decide) k hk (by rw [e]; rfl))
 rw [List.getElem?_set] at hx' hm
 by_cases hij : i = j
 ·rw [if_pos hij] at hx' hm
  split at hx'
  ·split at hm
   ·cases hx'; cases hm; exact other hx
   ·cases hm
  ·cases hx'
 ·rw [if_neg hij] at hx' hm
  exact other (h.each j x m hx' hm)
theorem Lns.grow {W w4 : World} {B go p d E m c4 : Nat} {vs : List Value} {ls : List (List Cel)} {x : Value} {l s : List Cel} {A4 : Option Addr} (h : Lns W B (.slice (some ⟨go, 0, none⟩) p d) vs ls) (ap : Apart vs) (hx : vs[E]? = some x) (_hl : ls[E]? = some l) (hm : m = (l ++ s).length)
  (ho : w4.ownsRow B 50 3 (.slice A4 m c4) m (flat (l ++ s))) (hg : W.grownBy w4 x.ownBlock) (hat : (Value.slice A4 m c4).ownBlock = x.ownBlock ∨ (Value.slice A4 m c4).ownBlock = some W.heap.size) :
  Lns (w4.setCell ⟨go, E, none⟩ (.slice A4 m c4)) B (.slice (some ⟨go, 0, none⟩) p d) (vs.set E (.slice A4 m c4)) (ls.set E (l ++ s)) ∧ Apart (vs.set E (.slice A4 m c4)) := by
 subst hm
 have hxE : HasC W B x l := h.each E x l hx _hl
 have hxo : W.ownsRow B 50 3 x l.length (flat l) := hxE
 have hlen := h.len
 obtain ⟨_, _, ep, _⟩ := own_cap h.own
 injection ep with _ ep _
 subst ep
 have hgo : go < W.heap.size := (h.own.lt go rfl).2
 have own4 : w4.ownsRow B 46 1 (.slice (some ⟨go, 0, none⟩) ls.length d) ls.length vs := own_keep h.own fun j hj => hg.block j (h.own.lt j hj).2 (fun e => own_ne h.own hxo (by decide) j hj e.symm)
 have hgb : ∀ j, (Value.slice A4 (l ++ s).length c4).ownBlock = some j → j ≠ go := fun j hj e => own_ne ho own4 (by decide) j hj (by rw [e]; rfl)
 have eA : HasC w4 B (.slice A4 (l ++ s).length c4) (l ++ s) := ho
 have key : ∀ (j : Nat) (y : Value) (k : List Cel), j ≠ E → vs[j]? = some y → ls[j]? = some k → HasC w4 B y k := fun j y k hj hy hk => by
  have hh : W.ownsRow B 50 3 y k.length (flat k) := h.each j y k hy hk
  exact own_keep hh fun b hb => hg.block b (hh.lt b hb).2 (fun e => ap j E y x hj hy hx b hb e.symm)
 have other : ∀ {y : Value} {k : List Cel}, HasC w4 B y k → HasC (w4.setCell ⟨go, E, none⟩ (.slice A4 (l ++ s).length c4)) B y k := fun {y k} hy => by
  have hh : w4.ownsRow B 50 3 y k.length (flat k) := hy
  exact own_keep hh fun b hb => Below.heap_setCell _ _ _ _ (fun e => own_ne hh own4 (by decide) b hb (by rw [e]; rfl))
 refine ⟨⟨by rw [List.length_set]; exact (own4.stored E _).1, fun j y k hy hk => ?_⟩, fun i j y z hij hy hz b hb e => ?_⟩
 ·rw [List.getElem?_set] at hy hk
  by_cases hEj : E = j
  ·rw [if_pos hEj] at hy hk
   split at hy
   ·split at hk
    ·cases hy; cases hk; exact other eA
    ·cases hk
   ·cases hy
  ·rw [if_neg hEj] at hy hk
   exact other (key j y k (fun e => hEj e.symm) hy hk)
 ·have lt : ∀ (q : Nat) (u : Value), vs[q]? = some u → ∀ t, u.ownBlock = some t → t < W.heap.size := fun q u hu t ht => by
   obtain ⟨k, hk⟩ : ∃ k, ls[q]? = some k := ⟨_, List.getElem?_eq_getElem (by have := (List.getElem?_eq_some_iff.1 hu).1; omega)⟩
   have hh : W.ownsRow B 50 3 u k.length (flat k) := h.each q u k hu hk
   exact (hh.lt t ht).2
  rw [List.getElem?_set] at hy hz
  by_cases h1 : E = i
  ·rw [if_pos h1] at hy
   by_cases h2 : E = j
   ·omega
   ·rw [if_neg h2] at hz
    split at hy
    ·cases hy
     rcases hat with h0 | h0
     ·exact ap E j x z h2 hx hz b (h0.symm.trans hb) e
     ·rw [h0] at hb
      injection hb with hb
      have := lt j z hz b e
      omega
    ·cases hy
  ·rw [if_neg h1] at hy
   by_cases h2 : E = j
   ·rw [if_pos h2] at hz
    split at hz
    ·cases hz
     rcases hat with h0 | h0
     ·exact ap i E y x (fun e => h1 e.symm) hy hx b hb (h0.symm.trans e)
     ·rw [h0] at e
      injection e with e
      have := lt i y hy b hb
      omega
    ·cases hz
   ·rw [if_neg h2] at hz
    exact ap i j y z hij hy hz b hb e
structure Jn (B : Nat) (G : List (List Cel)) (v : Value) (vs : List Value) (W : World) : Prop where
 lns : Lns W B v vs G
 ap : Apart vs
theorem groups_next_open {L : List LR} {k : Nat} {r : LR} (h : L[k]? = some r) (ho : isOpen (L.take k) = true) : groups (L.take (k + 1)) = (groups (L.take k)).modify (ends (L.take k)) (· ++ cellsR r) := by rw [take_one h]; exact (groups_on ho).1
theorem groups_next_end {L : List LR} {k : Nat} {r : LR} (h : L[k]? = some r) (ho : isOpen (L.take k) = false) : groups (L.take (k + 1)) = (groups (L.take k) ++ [[]]).modify (ends (L.take k)) (· ++ cellsR r) := by
 obtain ⟨h1, h2⟩ := groups_new (r := r) ho
 rw [take_one h, h1, ← h2, modify_last _ _ _ rfl]
 rfl
theorem trim_next {G : List (List Cel)} {i : Nat} {l : List Cel} (h : G[i]? = some l) : ((G.take i).map trimL ++ G.drop i).set i (trimL l) = (G.take (i + 1)).map trimL ++ G.drop (i + 1) := by
 have hl := (List.getElem?_eq_some_iff.1 h).1
 rw [drop_two h, List.set_append_right _ _ (by rw [List.length_map, List.length_take]; omega), take_one h, List.map_append, List.append_assoc]
 rw [List.length_map, List.length_take, Nat.min_eq_left (by omega), Nat.sub_self]
 rfl
theorem trim_get {G : List (List Cel)} {i : Nat} {l : List Cel} (h : G[i]? = some l) : ((G.take i).map trimL ++ G.drop i)[i]? = some l := by
 have hl := (List.getElem?_eq_some_iff.1 h).1
 rw [List.getElem?_append_right (by rw [List.length_map, List.length_take]; omega), List.length_map, List.length_take, Nat.min_eq_left (by omega), Nat.sub_self, List.getElem?_drop]
 exact h
set_option maxRecDepth 100000 in
set_option maxHeartbeats 12800000 in
theorem refJoin_walk (A : Option Addr) (n c : Nat) (rs : List RowIn) (w : World) (hr : Rws w w.heap.size A n rs) (hn : n ≤ 3000) :
  Calls Tryz.prog 15 #[.slice A n c] w fun e w' => LnsPost (joinL (rs.map lr)) w e w' := by
 obtain ⟨i0, hi0, hz0, hz1, hz2⟩ := info_parts infoCell
 obtain ⟨i1, hi1, hy0, hy1, hy2⟩ := info_parts infoSl
 have R := Lib.hid hr
 have OF := Lib.hid (refOf_walk A n c rs w hr (by omega))
 obtain ⟨L, hL⟩ : ∃ L, rs.map lr = L := ⟨_, rfl⟩
 have HL := Lib.hid hL
 rw [hL] at OF ⊢
 clear hr hL
 go_enter Tryz.func15, Tryz.ntmps15
 go_wp2_with fail
 refine OF.out.mono ?_
 rintro e w2 ⟨v1, v2, rfl, o1, o2, b2⟩
 obtain ⟨A4, d4, rfl, _⟩ := own_cap o1
 obtain ⟨A5, d5, rfl, _⟩ := own_cap o2
 have O1 := Lib.hid o1
 have B2 := Lib.hid b2
 have I0 := Lib.hid (Below.refl w2.heap.size w2)
 have R2 := Lib.hid ((R.out.below b2).up b2.size)
 clear o1 o2 b2 OF
 go_wp2_with fail
 go_loopw [3, 6] (fun v i wr => ∃ (k p d : Nat) (A3 : Option Addr) (vs : List Value), v = .slice A3 p d ∧ i = .int .i64 (k : Int) ∧ k ≤ n ∧ Hid (p = (groups (L.take k)).length) ∧ Hid (Below w2.heap.size w2 wr) ∧ Hid (Jn w2.heap.size (groups (L.take k)) (.slice A3 p d) vs wr)) (fun _ i _ => n - (intOf i).toNat)
 case atStart => exact ⟨0, 0, 0, none, [], rfl, rfl, Nat.zero_le _, Lib.hid rfl, I0, Lib.hid ⟨Lns.nothing _ _, fun i j x y _ h => by simp at h⟩⟩
 case round =>
  obtain ⟨k, p, d, A3, vs, rfl, rfl, hk, PG, I, JJ⟩ := hrel
  clear I0
  by_cases hlt : k < n
  ·obtain ⟨r, hr⟩ : ∃ r, rs[k]? = some r := ⟨_, List.getElem?_eq_getElem (by rw [R2.out.len]; exact hlt)⟩
   have RO := Lib.hid (R2.out.each r (List.mem_of_getElem? hr))
   obtain ⟨b0, o0, rfl, hb, q0, q1⟩ := rows_at R2.out.sq hr hlt
   have hLk : L[k]? = some (lr r) := by rw [← HL.out, List.getElem?_map, hr]; rfl
   have LK := Lib.hid hLk
   obtain ⟨g4, cg4, e4, _, hg4b, hg4, hcells⟩ := own_at O1.out (by omega)
   injection e4 with e4 _ e5
   subst e4 e5
   have lq := hcells k _ (linesV_get hlt)
   obtain ⟨E, hE⟩ : ∃ E, ends (L.take k) = E := ⟨_, rfl⟩
   rw [hE] at lq
   have HE := Lib.hid hE
   have CB := Lib.hid (show ∀ W, Below w2.heap.size w2 W → W.cell? ⟨g4, k, none⟩ = some (.int .i64 (E : Int)) ∧ W.cell? ⟨b0, o0 + k * 2, none⟩ = some (.slice r.A r.n r.c) ∧ W.cell? ⟨b0, o0 + k * 2 + 1, none⟩ = some (.bool r.wrap) from fun W hW => ⟨(hW.cell (p := ⟨g4, k, none⟩) hg4).trans lq, (hW.cell (p := ⟨b0, o0 + k * 2, none⟩) hb).trans q0, (hW.cell (p := ⟨b0, o0 + k * 2 + 1, none⟩) hb).trans q1⟩)
   have hki : (k : Int) < (n : Int) := by omega
   have hlq := (CB.out wr I.out).1
   have HB0 := Lib.hid (And.intro hg4 hb)
   clear hr q0 q1 hcells lq hLk hE hg4b hg4 hb
   go_upto_if 25 with fail
   go_cut [3] from 25 to 47 (fun u wx => ∃ (d' : Nat) (A' : Option Addr) (vs' : List Value) (G' : List (List Cel)), u = .slice A' (E + 1) d' ∧ Hid (G'.length = E + 1 ∧ groups (L.take (k + 1)) = G'.modify E (· ++ cellsR (lr r)) ∧ ∀ x ∈ G', x.length ≤ 300 * k) ∧ Hid (Below w2.heap.size w2 wx) ∧ Hid (Jn w2.heap.size G' (.slice A' (E + 1) d') vs' wx))
   case first =>
    have gl : ∀ x ∈ groups (L.take k), x.length ≤ 300 * k := fun x hx => by
     have h := groups_len hx
     rw [List.length_take] at h
     omega
    have GL := Lib.hid gl
    cases ho : isOpen (L.take k) with
    | true =>
     obtain ⟨hgn, hgl⟩ := groups_on (r := lr r) ho
     rw [HE.out] at hgl
     have hp : p = E + 1 := PG.out.trans hgl
     have GN := Lib.hid (show groups (L.take (k + 1)) = (groups (L.take k)).modify E (· ++ cellsR (lr r)) from by rw [groups_next_open LK.out ho, HE.out])
     have HGL := Lib.hid hgl
     subst hp
     have hne : ¬ (E : Int) = ((E + 1 : Nat) : Int) := by omega
     clear hgn hgl ho gl
     go_wp2_with fail
     go_meet
     case rel => exact ⟨d, A3, vs, groups (L.take k), rfl, Lib.hid ⟨HGL.out, GN.out, GL.out⟩, I, JJ⟩
    | false =>
     obtain ⟨hgn, hgl⟩ := groups_new (r := lr r) ho
     rw [HE.out] at hgl
     have hp : p = E := PG.out.trans hgl
     subst hp
     have GN := Lib.hid (show groups (L.take (k + 1)) = (groups (L.take k) ++ [[]]).modify p (· ++ cellsR (lr r)) from by rw [groups_next_end LK.out ho, HE.out])
     have HGL := Lib.hid hgl
     have JO := Lib.hid (show wr.ownsRow w2.heap.size 46 1 (.slice A3 p d) p vs from by have h := JJ.out.lns.own; rwa [hgl] at h)
     have hpk : p ≤ k := by
      have h := ends_le (L.take k)
      rw [HE.out, List.length_take] at h
      omega
     have F1 := Lib.hid (show p + 1 ≤ maxLen ∧ (p + 1) * 24 ≤ 140737488355328 from by unfold maxLen; omega)
     have IZ := Lib.hid I.out.size
     clear hgn hgl ho gl
     go_wp2_with (at_builtin; refine wpl_app rfl _ _ 23 rfl w2.heap.size 46 i1 (.slice none 0 0) 1 24 Tryz.underlying23 hi1 hy0 hy1 hy2 rfl (by decide) (.slice A3 p d) p vs rfl (JO.out.alloc _) (some ⟨wr.heap.size, 0, none⟩) 1 1 [.slice none 0 0] rfl (wr.heap.size + 1) (sq_single _ _ _) (by simp [Value.oneCell']) F1.out.1 F1.out.2 (by have := IZ.out; simp; omega) ?_; intro v4 w4 ho4 hg4 _; (obtain ⟨A', d', rfl, _⟩ := own_cap ho4); (have O4 := Lib.hid ho4); (have G4 := Lib.hid hg4); clear ho4 hg4)
     go_meet
     case rel =>
      have ba : Laid wr (wr.alloc (.cells #[.slice none 0 0] 46)) := (Below.refl _ _).alloc (Nat.le_refl _) _
      refine ⟨d', A', vs ++ [.slice none 0 0], groups (L.take k) ++ [[]], rfl, Lib.hid ⟨by rw [List.length_append, HGL.out]; rfl, GN.out, fun x hx => ?_⟩, Lib.hid ?_, Lib.hid ⟨?_, JJ.out.ap.snoc_nil⟩⟩
      ·rcases List.mem_append.1 hx with hx | hx
       ·exact GL.out x hx
       ·rw [List.mem_singleton.1 hx]; exact Nat.zero_le _
      ·exact (I.out.trans (ba.mono I.out.size)).grown G4.out (by have := IZ.out; simp; omega) (fun j e => (JO.out.lt j e).1)
      ·exact Lns.snoc (JJ.out.lns.laid ba) (World.ownsRow_nil _ _ _ _) (by rw [HGL.out]; exact O4.out) G4.out
   case rest =>
    obtain ⟨d', A', vs', G', rfl, GG, I2, J2⟩ := hcut
    clear JJ I PG hlq
    have hown := J2.out.lns.own
    rw [GG.out.1] at hown
    obtain ⟨go, cgo, ego, _, hgoB, hgo, hcells⟩ := own_at hown (by omega)
    injection ego with ego _ ego2
    subst ego ego2
    obtain ⟨go', hgo'⟩ := own_type hown go rfl
    obtain ⟨l, hl⟩ : ∃ l, G'[E]? = some l := ⟨_, List.getElem?_eq_getElem (by have := GG.out.1; omega)⟩
    obtain ⟨x, hx⟩ : ∃ x, vs'[E]? = some x := ⟨_, List.getElem?_eq_getElem (by have := J2.out.lns.len; have := GG.out.1; omega)⟩
    have hxl := J2.out.lns.each E x l hx hl
    obtain ⟨AX, cX, rfl, _⟩ := own_cap (show wc.ownsRow w2.heap.size 50 3 x l.length (flat l) from hxl)
    have xq := hcells E _ hx
    have hll := GG.out.2.2 l (List.mem_of_getElem? hl)
    obtain ⟨sL, hsL⟩ : ∃ sL, (cellsR (lr r)).length = sL := ⟨_, rfl⟩
    have hs300 : sL ≤ 300 := by rw [← hsL]; exact cellsR_len _
    have hE0 : (0 : Int) ≤ (E : Int) := by omega
    have hEp : (E : Int) < ((E + 1 : Nat) : Int) := by omega
    have hk0 : (0 : Int) ≤ (k : Int) := by omega
    have D2 : Below wc.heap.size wc wc.drew := (Below.refl _ _).drew
    obtain ⟨rA, rn, rc, rb, rl⟩ := r
    have XO := Lib.hid (show wc.ownsRow w2.heap.size 50 3 (.slice AX l.length cX) l.length (flat l) from hxl)
    have HX := Lib.hid hx
    have HLE := Lib.hid hl
    have XQ := Lib.hid xq
    have GO := Lib.hid (And.intro hgoB (And.intro hgo hgo'))
    have SL := Lib.hid hsL
    have C2 := Lib.hid (CB.out wc I2.out)
    obtain ⟨nx, hnx⟩ : ∃ nx, l.length = nx := ⟨_, rfl⟩
    have HNX := Lib.hid hnx
    have hB2 := I2.out.size
    rw [hnx] at XO XQ HX hll
    clear hown hgoB hgo hgo' hl hx hxl xq hcells hsL hnx
    go_wp2_with fail
    refine Ord.start (a := ?fr) (S := fun W => W.cell? ⟨g4, k, none⟩ = some (.int .i64 (E : Int)) ∧ W.cell? ⟨b0, o0 + k * 2, none⟩ = some (.slice rA rn rc) ∧ W.cell? ⟨b0, o0 + k * 2 + 1, none⟩ = some (.bool rb)) (n := 20) (by kernel_rfl) (by kernel_rfl) C2.out ?_
    apply jr_region (w1 := wc.drew) (Rd := fun W => W.cell? ⟨g4, k, none⟩ = some (.int .i64 (E : Int)) ∧ W.cell? ⟨b0, o0 + k * 2, none⟩ = some (.slice rA rn rc) ∧ W.cell? ⟨b0, o0 + k * 2 + 1, none⟩ = some (.bool rb)) (b0 := b0) (o0 := o0) (n := n) (c := c) (go := go) (p := E + 1) (d3 := d') (g4 := g4) (d4 := d4) (k := k) (E := E) (nx := nx) (cX := cX) (rn := rn) (rc := rc) (sL := sL) (B := w2.heap.size) (AX := AX) (rA := rA) (rb := rb) (xs := flat l) (news := flat (cellsR (rb, rl)))
     (P1 := fun W A6 c6 => Laid wc W ∧ HasC W wc.heap.size (.slice A6 sL c6) (cellsR (rb, rl))) (i0 := i0) (a0 := ?fr)
    case R => exact ⟨by kernel_rfl, by kernel_rfl⟩
    case hQ => exact fun _ _ _ _ _ h => h
    case hi => exact hi0
    case hz0 => exact hz0
    case hz1 => exact hz1
    case hz2 => exact hz2
    case hk0 => exact hk0
    case hkn => exact hki
    case hE0 => exact hE0
    case hEp => exact hEp
    case k0 => exact fun W h => h.1
    case kx => exact XQ.out
    case ka => exact fun W h => h.2.1
    case kb => exact fun W h => h.2.2
    case C1 =>
     refine (refSigns_walk rA rn rc rb rl wc.drew RO.out.signs ((RO.out.sq.below (I2.out.trans (D2.mono I2.out.size))).up hB2) (by have h1 := RO.out.le; have h2 := RO.out.cap; unfold maxLen at h2; dsimp only at h1 h2; omega)).mono ?_
     rintro e W ⟨v6, rfl, h6, b6⟩
     obtain ⟨A6, c6, rfl, _⟩ := own_cap (show W.ownsRow wc.drew.heap.size 50 3 v6 (cellsR (rb, rl)).length (flat (cellsR (rb, rl))) from h6)
     have e6 : (cellsR (rb, rl)).length = sL := SL.out
     rw [e6] at h6 ⊢
     exact ⟨A6, c6, rfl, D2.trans b6, h6⟩
    case KS1 => exact fun W A6 c6 h => CB.out W (I2.out.trans (h.1.mono I2.out.size))
    case X1 =>
     rintro W A6 c6 ⟨b6, h6⟩
     refine ⟨own_laid XO.out b6, ?_, Nat.le_trans hB2 b6.size⟩
     have h : W.ownsRow wc.heap.size 50 3 (.slice A6 sL c6) (cellsR (rb, rl)).length (flat (cellsR (rb, rl))) := h6
     rw [show (cellsR (rb, rl)).length = sL from SL.out] at h
     exact Sq.own h
    case KX => exact fun W A6 c6 h => (h.1.cell (p := ⟨go, E, none⟩) GO.out.2.1).trans XQ.out
    case KA =>
     rintro W A6 c6 W' ⟨b6, h6⟩ hg
     have ck : ∀ p : Addr, W'.heap[p.block]? = W.heap[p.block]? → W'.cell? p = W.cell? p := fun p h => by unfold World.cell?; rw [h]
     have hbz := b6.size
     have nlow : ∀ j, j < w2.heap.size → W'.heap[j]? = W.heap[j]? := fun j hj => hg.block j (by omega) (fun e => by have := (XO.out.lt j e.symm).1; omega)
     have ngo : W'.heap[go]? = W.heap[go]? := hg.block go (by have := GO.out.2.1; omega) (fun e => own_ne XO.out J2.out.lns.own (by decide) go e.symm rfl)
     obtain ⟨s0, s1, s2⟩ := CB.out W (I2.out.trans (b6.mono I2.out.size))
     refine ⟨⟨(ck ⟨g4, k, none⟩ (nlow g4 HB0.out.1)).trans s0, (ck ⟨b0, o0 + k * 2, none⟩ (nlow b0 HB0.out.2)).trans s1, (ck ⟨b0, o0 + k * 2 + 1, none⟩ (nlow b0 HB0.out.2)).trans s2⟩, ⟨_, (ck ⟨go, E, none⟩ ngo).trans ((b6.cell (p := ⟨go, E, none⟩) GO.out.2.1).trans XQ.out)⟩, ?_⟩
     exact frozen_of_row W' go E _ _ (ngo.trans ((b6.block go GO.out.2.1).trans GO.out.2.2))
    case ks =>
     rintro W v ⟨s0, s1, s2⟩
     have ck : ∀ p : Addr, p.block < w2.heap.size → (W.setCell ⟨go, E, none⟩ v).cell? p = W.cell? p := fun p h => by
      unfold World.cell?
      rw [Below.heap_setCell _ _ _ _ (by have := GO.out.1; show p.block ≠ go; omega)]
     exact ⟨(ck ⟨g4, k, none⟩ HB0.out.1).trans s0, (ck ⟨b0, o0 + k * 2, none⟩ HB0.out.2).trans s1, (ck ⟨b0, o0 + k * 2 + 1, none⟩ HB0.out.2).trans s2⟩
    case h1 => exact flat_one _
    case hm => unfold maxLen; omega
    case hm2 => omega
    case hS => exact C2.out
    case F => exact ⟨rfl, rfl, rfl, rfl, rfl, Fr.refl _ _ _⟩
    rintro a7 W A6 c6 w4 A7 c7 ⟨b6, h6⟩ hown hg hat F7
    obtain ⟨l5, hl5, ea⟩ := F7.fr.ex (by omega) (by simp)
    have hW : Below w2.heap.size w2 W := I2.out.trans (b6.mono I2.out.size)
    have hgr := Lns.grow (J2.out.lns.laid b6) J2.out.ap HX.out HLE.out (s := cellsR (rb, rl)) (m := nx + sL) (c4 := c7) (A4 := A7) (w4 := w4) (by rw [List.length_append, HNX.out]; exact congrArg (nx + ·) SL.out.symm) (by rw [flat_append]; exact hown) hg hat
    have I9 := Lib.hid (show Below w2.heap.size w2 (w4.setCell ⟨go, E, none⟩ (.slice A7 (nx + sL) c7)) from (hW.grown hg hW.size (fun j e => (XO.out.lt j e).1)).setCell (p := ⟨go, E, none⟩) GO.out.1 _)
    have GS := Lib.hid (show groups (L.take (k + 1)) = G'.set E (l ++ cellsR (rb, rl)) from by rw [GG.out.2.1]; exact modify_set _ HLE.out)
    have J9 := Lib.hid (show Jn w2.heap.size (groups (L.take (k + 1))) (.slice (some ⟨go, 0, none⟩) (E + 1) d') (vs'.set E (.slice A7 (nx + sL) c7)) (w4.setCell ⟨go, E, none⟩ (.slice A7 (nx + sL) c7)) from by rw [GS.out]; exact ⟨hgr.1, hgr.2⟩)
    have P9 := Lib.hid (show E + 1 = (groups (L.take (k + 1))).length from by rw [GS.out, List.length_set, GG.out.1])
    generalize w4.setCell ⟨go, E, none⟩ (.slice A7 (nx + sL) c7) = w9 at I9 J9 ⊢
    clear hgr hW hown hg hat b6 h6 D2 C2 XO XQ HX HLE GO I2 J2
    match l5, hl5 with
    | [v0, v1, v2, v3, v4, v5, v6, v7, v8, v9, v10, v11, v12, v13, v14, v15, v16, v17, v18], _ =>
     rw [ea]
     clear ea F7
     simp only [List.take_succ_cons, List.take_zero, List.drop_succ_cons, List.drop_zero, List.cons_append, List.nil_append]
     go_wp2_with fail
     go_roundw
     case rel => exact ⟨k + 1, E + 1, d', some ⟨go, 0, none⟩, _, by first | rfl | trivial, by go_num, by omega, P9, I9, J9⟩
     case measure => simp [intOf]; omega
  ·obtain rfl : k = n := by omega
   have hall : L.take k = L := List.take_of_length_le (by rw [← HL.out, List.length_map, R2.out.len]; exact Nat.le_refl _)
   rw [hall] at PG JJ
   have hnl : ¬ (k : Int) < (k : Int) := by omega
   have GL := Lib.hid (show ∀ x ∈ groups L, x.length ≤ 1000000 from fun x hx => by
    have h := groups_len hx
    have h3 : L.length = k := by rw [← HL.out, List.length_map, R2.out.len]
    omega)
   obtain ⟨G, hG⟩ : ∃ G, groups L = G := ⟨_, rfl⟩
   have JG := Lib.hid (show joinL L = G.map trimL from by rw [joinL_groups, hG])
   rw [hG] at PG JJ GL
   have J0 := Lib.hid (show ∃ vs, Lns wr w2.heap.size (.slice A3 p d) vs ((G.take 0).map trimL ++ G.drop 0) from ⟨vs, by simpa using JJ.out.lns⟩)
   have hpk : p ≤ 3000 := by
    have h := PG.out
    rw [← hG] at h
    have h2 : (groups L).length ≤ L.length := by unfold groups; rw [List.length_map]; exact parts_length_le L
    have h3 : L.length = k := by rw [← HL.out, List.length_map, R2.out.len]
    omega
   clear hall hG JJ
   go_wp2_with fail
   go_loopw [7] (fun i wr => ∃ k : Nat, i = .int .i64 (k : Int) ∧ k ≤ p ∧ Hid (Below w2.heap.size w2 wr) ∧ Hid (∃ vs, Lns wr w2.heap.size (.slice A3 p d) vs ((G.take k).map trimL ++ G.drop k))) (fun i _ => p - (intOf i).toNat)
   case atStart => exact ⟨0, rfl, Nat.zero_le _, I, J0⟩
   case round =>
    obtain ⟨i, rfl, hi, I3, J3⟩ := hrel
    clear J0
    by_cases hlti : i < p
    ·obtain ⟨vs3, l3⟩ := J3.out
     have hlen : ((G.take i).map trimL ++ G.drop i).length = p := by rw [List.length_append, List.length_map, List.length_take, List.length_drop]; have := PG.out; omega
     have hown := l3.own
     rw [hlen] at hown
     obtain ⟨go, cgo, ego, _, hgoB, hgo, hcells⟩ := own_at hown (by omega)
     injection ego with ego _ ego2
     subst ego ego2
     obtain ⟨cur, hcur⟩ := own_type hown go rfl
     obtain ⟨l, hl⟩ : ∃ l, G[i]? = some l := ⟨_, List.getElem?_eq_getElem (by have := PG.out; omega)⟩
     obtain ⟨x, hx⟩ : ∃ x, vs3[i]? = some x := ⟨_, List.getElem?_eq_getElem (by have := l3.len; omega)⟩
     have hxl := l3.each i x l hx (trim_get hl)
     obtain ⟨AX, cX, rfl, hcX⟩ := own_cap (show wr.ownsRow w2.heap.size 50 3 x l.length (flat l) from hxl)
     have xq := hcells i _ hx
     have TW := Lib.hid (refTrim_walk AX l.length cX hcX l wr (GL.out l (List.mem_of_getElem? hl)) (Sq.own hxl))
     have L3 := Lib.hid l3
     have HLI := Lib.hid hl
     have GO := Lib.hid (And.intro hgoB (And.intro hgo hcur))
     have hii : (i : Int) < (p : Int) := by omega
     have XQ := Lib.hid xq
     obtain ⟨nx, hnx⟩ : ∃ nx, l.length = nx := ⟨_, rfl⟩
     rw [hnx] at TW XQ xq
     clear l3 hlen hown hgoB hgo hcells hcur hl hx hxl hcX hnx J3
     go_wp2_with fail
     refine TW.out.mono ?_
     rintro e w4 ⟨v4, rfl, h4, b4⟩
     obtain ⟨Av, cv, rfl, _⟩ := own_cap (show w4.ownsRow wr.heap.size 50 3 v4 (trimL l).length (flat (trimL l)) from h4)
     have R4 := Lib.hid ((L3.out.laid b4).replace (i := i) (own_down h4 I3.out.size))
     have I4 := Lib.hid ((I3.out.trans (b4.mono I3.out.size)).setCell (p := ⟨go, i, none⟩) GO.out.1 (.slice Av (trimL l).length cv))
     have q4 : w4.cell? ⟨go, i, none⟩ = some (.slice AX nx cX) := (b4.cell (p := ⟨go, i, none⟩) GO.out.2.1).trans XQ.out
     have z4 := frozen_of_row w4 go i _ _ ((b4.block go GO.out.2.1).trans GO.out.2.2)
     have J4 := Lib.hid (show ∃ vs, Lns (w4.setCell ⟨go, i, none⟩ (.slice Av (trimL l).length cv)) w2.heap.size (.slice (some ⟨go, 0, none⟩) p d) vs ((G.take (i + 1)).map trimL ++ G.drop (i + 1)) from ⟨_, by rw [← trim_next HLI.out]; exact R4.out⟩)
     obtain ⟨nt, hnt⟩ : ∃ nt, (trimL l).length = nt := ⟨_, rfl⟩
     rw [hnt] at I4 J4 ⊢
     clear h4 b4 R4 xq hnt TW
     go_wp2_with fail
     go_roundw
     case rel => exact ⟨i + 1, by go_num, by omega, I4, J4⟩
     case measure => simp [intOf]; omega
    ·obtain rfl : i = p := by omega
     have hnp : ¬ (i : Int) < (i : Int) := by omega
     obtain ⟨vs3, l3⟩ := J3.out
     have FIN := Lib.hid (show Lns wr w2.heap.size (.slice A3 i d) vs3 (joinL L) from by
      have h := l3
      rw [List.take_of_length_le (by have := PG.out; omega), List.drop_eq_nil_of_le (by have := PG.out; omega), List.append_nil] at h
      rw [JG.out]
      exact h)
     clear l3 J3
     go_wp2
     go_ret
     exact ⟨_, vs3, rfl, FIN.out.down B2.out.size, B2.out.trans (I3.out.mono B2.out.size)⟩
end Ln
end Go.Proofs.YtgmijnnhanpocaaGreatDoor
