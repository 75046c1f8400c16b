/-
  reflow.Rows: the lines of rows laid out anew, and where marks among the rows stand there. The lines of rows that came in are lines that may be laid out. In plain words: lines that are laid out are joined again; how wide and how many their rows are. The reference's Of: of each row the number of its line, and how many of its line's cells stand ahead of it. In plain words: where a place among rows is in their lines, reckoned row by row, as the reference does it. The reference's Join: a row's signs are put behind the line that goes on, step by step.
-/
import Derived.Test.YtgmijnnhanpocaaGreatDoorQLLine7
import Derived.Test.YtgmijnnhanpocaaGreatDoorQLBase4
import Derived.Test.YtgmijnnhanpocaaGreatDoorQLBase2
import Derived.Test.YtgmijnnhanpocaaGreatDoorQLLine3
namespace Go.Proofs.YtgmijnnhanpocaaGreatDoor
open Go.ChangeShapes Go.WideShapes Go.ChangeAt Go.RowKit
namespace Ln
open Rw
def placeN (wv : Nat) (ls : List (List Cel)) (s : Nat × Nat × Nat) : Nat × Nat :=
 match ls[s.1]? with
 | none => (0, 0)
 | some l => match l[s.2.1]? with
  | some x => ((cellPos wv l s.2.1 x).1 + highs wv (ls.take s.1), (cellPos wv l s.2.1 x).2)
  | none => ((posOut wv l).1.1 + highs wv (ls.take s.1), pastCol wv s.2.2 (posOut wv l).1.2)
theorem placeN_none {wv : Nat} {ls : List (List Cel)} {s : Nat × Nat × Nat} (hl : ls[s.1]? = none) : placeN wv ls s = (0, 0) := by unfold placeN; rw [hl]
theorem placeN_end {wv : Nat} {ls : List (List Cel)} {s : Nat × Nat × Nat} {l : List Cel} (hl : ls[s.1]? = some l) (hx : l[s.2.1]? = none) : placeN wv ls s = ((posOut wv l).1.1 + highs wv (ls.take s.1), pastCol wv s.2.2 (posOut wv l).1.2) := by unfold placeN; rw [hl]; simp only; rw [hx]
theorem placeN_cell {wv : Nat} {ls : List (List Cel)} {s : Nat × Nat × Nat} {l : List Cel} {x : Cel} (hl : ls[s.1]? = some l) (hx : l[s.2.1]? = some x) : placeN wv ls s = ((cellPos wv l s.2.1 x).1 + highs wv (ls.take s.1), (cellPos wv l s.2.1 x).2) := by unfold placeN; rw [hl]; simp only; rw [hx]
structure SOk (ls : List (List Cel)) (s : Nat × Nat × Nat) : Prop where
 off : ∀ l, ls[s.1]? = some l → s.2.1 ≤ l.length ∧ (s.2.1 < l.length → s.2.2 = 0)
 none : ls[s.1]? = none → s = (0, 0, 0) ∧ ls = []
 past : s.2.2 ≤ 1000000000
theorem placeN_walk (A : Option Addr) (n c wv : Nat) (s : Nat × Nat × Nat) (vs : List Value) (ls : List (List Cel)) (w : World) (hs : Spans w) (h : Lrd w w.heap.size A n vs ls) (hc : n ≤ c) (hn : n ≤ 1000) (hok : LOk ls) (hw2 : 2 ≤ wv) (hw3 : wv ≤ 300) (hS : SOk ls s) :
  Calls Tryz.prog 19 #[.slice A n c, .int .i64 (wv : Int), spotV s] w fun e w' => e = .returned (.agg #[.int .i64 ((placeN wv ls s).1 : Int), .int .i64 ((placeN wv ls s).2 : Int)]) ∧ Below w.heap.size w w' := by
 obtain ⟨i, k, p⟩ := s
 unfold spotV
 simp only
 cases hl : ls[i]? with
 | none =>
  obtain ⟨e, e2⟩ := hS.none hl
  simp only [Prod.mk.injEq] at e
  obtain ⟨rfl, rfl, rfl⟩ := e
  obtain rfl : n = 0 := by have := h.len; rw [e2] at this; simpa using this.symm
  rw [placeN_none hl]
  exact place_none A 0 c wv w hw2 hw3
 | some l =>
  obtain ⟨h1, h2⟩ := hS.off l hl
  simp only at h1 h2
  have hi : i < n := by have := (List.getElem?_eq_some_iff.1 hl).1; rw [h.len] at this; exact this
  cases hx : l[k]? with
  | none =>
   have hk : k = l.length := by have := List.getElem?_eq_none_iff.1 hx; omega
   rw [placeN_end (s := (i, k, p)) hl hx]
   subst hk
   exact place_walk A n c wv i p vs ls l w hs h hc hn hok hw2 hw3 hi hl (Nat.le_trans hS.past (by decide))
  | some x =>
   have hk := (List.getElem?_eq_some_iff.1 hx).1
   obtain rfl : p = 0 := h2 hk
   rw [placeN_cell (s := (i, k, 0)) hl hx]
   exact placeCell_walk A n c wv i k x vs ls l w hs h hc hn hok hw2 hw3 hi hl hx
theorem sign_ok {c : Cel} (h : signC c = true) (hm : mayB c = true) : okC c = true := by
 have hw := sign_wide h hm
 unfold signC at h
 simp only [Bool.and_eq_true] at h
 unfold okC hasB
 rw [hm, Bool.and_true, Bool.and_eq_true, Bool.or_eq_true]
 refine ⟨by unfold W12 at hw; simpa using hw, ?_⟩
 have := h.2
 unfold padC at this
 simpa using this
theorem cells_ok {r : LR} : ∀ c ∈ cellsR r, okC c = true := fun c hc => by
 unfold cellsR at hc
 split at hc
 ·rename_i hm
  obtain ⟨h1, h2⟩ := List.mem_filter.1 hc
  exact sign_ok h2 (mayL_cell hm c h1)
 ·cases hc
theorem joined_ok (p : List LR) : lineB (joined p) = true := by
 unfold lineB joined trimL
 refine List.all_eq_true.2 fun c hc => ?_
 obtain ⟨r, _, hr⟩ := List.mem_flatMap.1 (List.mem_of_mem_take hc)
 exact cells_ok c hr
theorem join_ok (rs : List LR) : ∀ l ∈ joinL rs, lineB l = true := fun l hl => by
 unfold joinL at hl
 obtain ⟨p, _, rfl⟩ := List.mem_map.1 hl
 exact joined_ok p
theorem spotN_ok (pc : Int) : ∀ (P : List (List LR)) (pr k : Nat) (ls : List (List Cel)), (∀ p ∈ P, p.length ≤ 1000000) → (∀ j, (P.map joined)[j]? = ls[k + j]?) → P ≠ [] → (∃ l, ls[0]? = some l) →
  (∀ l, ls[(spotN pc pr k P).1]? = some l → (spotN pc pr k P).2.1 ≤ l.length ∧ ((spotN pc pr k P).2.1 < l.length → (spotN pc pr k P).2.2 = 0)) ∧ (∃ l, ls[(spotN pc pr k P).1]? = some l) ∧ (spotN pc pr k P).2.2 ≤ 1000000000
 | [], _, _, _, _, _, h, _ => absurd rfl h
 | part :: ps, pr, k, ls, hP, h, _, h0 => by
  rw [spotN]
  split
  ·have hk := h 0
   simp at hk
   refine ⟨fun l hl => ?_, ⟨_, hk.symm⟩, ?_⟩
   ·simp only at hl ⊢
    rw [← hk] at hl
    obtain rfl := Option.some.inj hl
    omega
   ·simp only
    have h1 := aheadN_le pr pc (signsAll 0 (part.take (pr + 1)))
    have h2 := signsAll_le (part.take (pr + 1)) 0
    rw [List.length_take] at h2
    have := hP part (by simp)
    omega
  ·by_cases hp : ps = []
   ·subst hp
    rw [spotN]
    obtain ⟨l, hl⟩ := h0
    refine ⟨fun l' hl' => ⟨Nat.zero_le _, fun _ => rfl⟩, ⟨l, hl⟩, Nat.zero_le _⟩
   ·exact spotN_ok pc ps (pr - part.length) (k + 1) ls (fun p hp => hP p (by simp [hp])) (fun j => by have := h (j + 1); simp at this; rw [show k + 1 + j = k + (j + 1) by omega, ← this]; simp) hp h0
theorem spot_ok (rs : List LR) (hn : rs.length ≤ 1000000) (pr : Nat) (pc : Int) : SOk (joinL rs) (spotN pc pr 0 (parts rs)) := by
 by_cases h : parts rs = []
 ·have e : joinL rs = [] := by unfold joinL; rw [h]; rfl
  rw [e, h, spotN]
  exact ⟨fun l hl => (by simp at hl), fun _ => ⟨rfl, rfl⟩, Nat.zero_le _⟩
 ·have h0 : ∃ l, (joinL rs)[0]? = some l := by
   refine ⟨_, List.getElem?_eq_getElem ?_⟩
   unfold joinL
   rw [List.length_map]
   exact List.length_pos_iff.2 h
  obtain ⟨h1, ⟨l, hl⟩, h3⟩ := spotN_ok pc (parts rs) pr 0 (joinL rs) (fun p hp => Nat.le_trans (part_le hp) hn) (fun j => by rw [Nat.zero_add]; rfl) h h0
  exact ⟨h1, fun e => (by rw [hl] at e; cases e), h3⟩
def markN (rs : List LR) (p : Int × Int) : Nat × Nat × Nat := if p.1 < 0 then (0, 0, 0) else spotN p.2 p.1.toNat 0 (parts rs)
def movedN (wv : Nat) (rs : List LR) (p : Int × Int) : Nat × Nat := placeN wv (joinL rs) (markN rs p)
theorem mark_ok (rs : List LR) (hn : rs.length ≤ 1000000) (p : Int × Int) : SOk (joinL rs) (markN rs p) := by
 unfold markN
 split
 ·by_cases h : parts rs = []
  ·have e : joinL rs = [] := by unfold joinL; rw [h]; rfl
   rw [e]
   exact ⟨fun l hl => (by simp at hl), fun _ => ⟨rfl, rfl⟩, Nat.zero_le _⟩
  ·refine ⟨fun l _ => ⟨Nat.zero_le _, fun _ => rfl⟩, fun e => ?_, Nat.zero_le _⟩
   have h2 : 0 < (joinL rs).length := by unfold joinL; rw [List.length_map]; exact List.length_pos_iff.2 h
   have := List.getElem?_eq_none_iff.1 e
   simp only at this
   omega
 ·exact spot_ok rs hn _ _
theorem mark_walk (A : Option Addr) (n c : Nat) (rs : List RowIn) (p : Int × Int) (w : World) (hs : Spans w) (hr : Rws w w.heap.size A n rs) (hc : n ≤ c) (hn : n ≤ 1000000) (hp : p.1 ≤ 9223372036854775807) :
  Calls Tryz.prog 17 #[.slice A n c, .agg #[.int .i64 p.1, .int .i64 p.2]] w fun e w' => e = .returned (spotV (markN (rs.map lr) p)) ∧ Below w.heap.size w w' := by
 unfold markN
 by_cases h : p.1 < 0
 ·rw [if_pos h]
  exact spot_neg A n c p.1 p.2 w h
 ·rw [if_neg h]
  obtain ⟨q, hq⟩ : ∃ q : Nat, p.1 = (q : Int) := ⟨p.1.toNat, by omega⟩
  have := spot_walk A n c rs q p.2 w hs hr hc hn (by omega)
  rw [hq, Int.toNat_natCast]
  exact this
theorem infoPos : (Tryz.prog.info? 25).map (fun i => (i.zero, i.size, i.bytes)) = some (some (.agg #[.int .i64 0, .int .i64 0]), 2, 16) := by kernel_rfl
theorem sq_pair (w : World) (e : TypeId) (x y : Value) : Sq (w.alloc (.cells #[x, y] e)) (w.heap.size + 1) 2 1 (some ⟨w.heap.size, 0, none⟩) [x, y] :=
 ⟨rfl, fun _ => ⟨w.heap.size, 0, rfl, Nat.lt_succ_self _, fun j u hu => by
  rw [Nat.zero_add, cell_of_row _ _ _ _ _ (0, 0) (heap_alloc_new w _)]
  match j, hu with
  | 0, hu => exact hu
  | 1, hu => exact hu
  | j + 2, hu => simp at hu⟩⟩
def posV (p : Int × Int) : List Value := [.int .i64 p.1, .int .i64 p.2]
def nposV (p : Nat × Nat) : List Value := [.int .i64 (p.1 : Int), .int .i64 (p.2 : Int)]
theorem marks_at {W : World} {B n k : Nat} {A : Option Addr} {l : List (Int × Int)} {x : Int × Int} (hq : Sq W B 2 n A (l.flatMap posV)) (hx : l[k]? = some x) (hk : k < n) :
  ∃ b off, A = some ⟨b, off, none⟩ ∧ b < B ∧ W.cell? ⟨b, off + k * 2, none⟩ = some (.int .i64 x.1) ∧ W.cell? ⟨b, off + k * 2 + 1, none⟩ = some (.int .i64 x.2) := by
 obtain ⟨b, off, e, hb, hc⟩ := hq.spot (by omega)
 have h0 := hc (k * 2 + 0) _ (flatMap_get posV 2 (fun _ => rfl) l k x hx 0 _ rfl)
 have h1 := hc (k * 2 + 1) _ (flatMap_get posV 2 (fun _ => rfl) l k x hx 1 _ rfl)
 exact ⟨b, off, e, hb, by simpa using h0, by rw [Nat.add_assoc]; exact h1⟩
set_option maxRecDepth 100000 in
set_option maxHeartbeats 6400000 in
theorem reflow_walk (A : Option Addr) (n c : Nat) (rs : List RowIn) (wv : Nat) (Am : Option Addr) (nm cm : Nat) (ms : List (Int × Int)) (w : World) (hs : Spans w) (hr : Rws w w.heap.size A n rs) (hc : n ≤ c) (hn : n ≤ 1000000) (hN0 : (joinL (rs.map lr)).length ≤ 1000) (hw2 : 2 ≤ wv) (hw3 : wv ≤ 300)
  (hm : Sq w w.heap.size 2 nm Am (ms.flatMap posV)) (hml : ms.length = nm) (hnm : nm ≤ 1000000) (hmr : ∀ p ∈ ms, p.1 ≤ 9223372036854775807) (hok : LOk (joinL (rs.map lr))) :
  Calls Tryz.prog 21 #[.slice A n c, .int .i64 (wv : Int), .slice Am nm cm] w fun e w' => ∃ v mv rs', e = .returned (.tuple #[v, mv]) ∧ Own w' w.heap.size v rs' ∧ rs'.map lr = allL wv (joinL (rs.map lr)) ∧ w'.ownsRow w.heap.size 25 2 mv nm ((ms.map (movedN wv (rs.map lr))).flatMap nposV) ∧ Below w.heap.size w w' := by
 obtain ⟨i0, hi0, hz0, hz1, hz2⟩ := info_parts infoPos
 have S := Lib.hid hs
 have R := Lib.hid hr
 have M := Lib.hid hm
 have ML := Lib.hid hml
 have MR := Lib.hid hmr
 have OK := Lib.hid hok
 have HN0 := Lib.hid hN0
 have HW := Lib.hid (And.intro hw2 hw3)
 have JW := Lib.hid (join_walk A n c rs w hs hr hc (by omega))
 have d1 : decide ((wv : Int) < 2) = false := decide_eq_false (by omega)
 have d2 : decide (300 < (wv : Int)) = false := decide_eq_false (by omega)
 have n1 : ¬ (wv : Int) < 2 := by omega
 have n2 : ¬ (300 : Int) < (wv : Int) := by omega
 clear hs hr hm hml hmr hok hN0
 go_enter Tryz.func21, Tryz.ntmps21
 go_wp2_with fail
 refine JW.out.mono ?_
 rintro e w1 ⟨v1, vs, rfl, L1, b1⟩
 obtain ⟨J, hJ⟩ : ∃ J, joinL (rs.map lr) = J := ⟨_, rfl⟩
 rw [hJ] at OK L1
 obtain ⟨A1, c1, rfl, hc1⟩ := own_cap L1.own
 obtain ⟨N, hN⟩ : ∃ N, J.length = N := ⟨_, rfl⟩
 have RD := Lib.hid (show Lrd w1 w1.heap.size A1 N vs J from by have h := (L1.rd (fun l hl => by have := OK.out.len l hl; omega)).2; rw [hN] at h; exact h)
 rw [hN] at hc1 ⊢
 have B1 := Lib.hid b1
 have HJ := Lib.hid hJ
 have hN1 : N ≤ 1000 := by have h := HN0.out; rw [hJ, hN] at h; exact h
 have S1 := Lib.hid (S.out.below b1 S.out.size)
 have RW := Lib.hid (fun (W : World) (hb : Below w.heap.size w W) => (R.out.below hb).up hb.size)
 have HRL := Lib.hid (show (rs.map lr).length ≤ 1000000 from by rw [List.length_map, R.out.len]; omega)
 have I0 := Lib.hid (show Below w1.heap.size w1 w1 ∧ w1.ownsRow w1.heap.size 25 2 (.slice none 0 0) 0 (((ms.take 0).map (movedN wv (rs.map lr))).flatMap nposV) from ⟨Below.refl _ _, World.ownsRow_nil _ _ _ _⟩)
 clear L1 b1 hJ hN JW
 go_wp2_with fail
 go_loopw [9, 22] (fun v i wr => ∃ (k d : Nat) (A9 : Option Addr), v = .slice A9 k d ∧ i = .int .i64 (k : Int) ∧ k ≤ nm ∧ Hid (Below w1.heap.size w1 wr ∧ wr.ownsRow w1.heap.size 25 2 (.slice A9 k d) k (((ms.take k).map (movedN wv (rs.map lr))).flatMap nposV))) (fun _ i _ => nm - (intOf i).toNat)
 case atStart => exact ⟨0, 0, none, rfl, rfl, Nat.zero_le _, I0⟩
 case round =>
  obtain ⟨k, d, A9, rfl, rfl, hk, I⟩ := hrel
  clear I0
  by_cases hlt : k < nm
  ·obtain ⟨⟨mr, mc⟩, hx⟩ : ∃ x, ms[k]? = some x := ⟨_, List.getElem?_eq_getElem (by rw [ML.out]; exact hlt)⟩
   have IB := Lib.hid (show Below w.heap.size w wr from B1.out.trans (I.out.1.mono B1.out.size))
   obtain ⟨b, off, rfl, hb, c0, c1'⟩ := marks_at (M.out.below IB.out) hx hlt
   have hmx := MR.out _ (List.mem_of_getElem? hx)
   dsimp only at c0 c1' hmx
   have NX := Lib.hid (show ((ms.take (k + 1)).map (movedN wv (rs.map lr))).flatMap nposV = ((ms.take k).map (movedN wv (rs.map lr))).flatMap nposV ++ nposV (movedN wv (rs.map lr) (mr, mc)) from by
    rw [take_one hx, List.map_append, List.flatMap_append]; simp)
   have MW := Lib.hid (fun (W : World) (hb : Laid wr W) => mark_walk A n c rs (mr, mc) W (S.out.below (IB.out.trans (hb.mono IB.out.size)) S.out.size) (RW.out W (IB.out.trans (hb.mono IB.out.size))) hc (by omega) hmx)
   have SO := Lib.hid (show SOk J (markN (rs.map lr) (mr, mc)) from by rw [← HJ.out]; exact mark_ok _ HRL.out _)
   have PW := Lib.hid (fun (W : World) (hb : Below w1.heap.size w1 W) => placeN_walk A1 N c1 wv (markN (rs.map lr) (mr, mc)) vs J W (S1.out.below hb S1.out.size) ((RD.out.below hb).up hb.size) hc1 hN1 OK.out HW.out.1 HW.out.2 SO.out)
   have k0 : (0 : Int) ≤ (k : Int) := by omega
   have ki : (k : Int) < (nm : Int) := by omega
   obtain ⟨mv, hmv⟩ : ∃ mv, movedN wv (rs.map lr) (mr, mc) = mv := ⟨_, rfl⟩
   have hmv2 : placeN wv J (markN (rs.map lr) (mr, mc)) = mv := by rw [← HJ.out]; exact hmv
   rw [hmv2] at PW
   rw [hmv] at NX
   obtain ⟨w3, hw3'⟩ : ∃ w3, wr.alloc (.cells #[.int .i64 mr, .int .i64 mc] 25) = w3 := ⟨_, rfl⟩
   have b3 : Laid wr w3 := by rw [← hw3']; exact (Below.refl _ _).alloc (Nat.le_refl _) _
   have HW3 := Lib.hid hw3'
   have M3 := Lib.hid (MW.out w3 b3)
   have B3 := Lib.hid b3
   clear hx hmv hmv2 MW b3 hw3' hmx hb
   go_wp2_with fail
   rw [HW3.out]
   refine M3.out.mono ?_
   rintro e w4 ⟨rfl, b4⟩
   have b14 : Laid wr w4 := B3.out.trans (b4.mono B3.out.size)
   have B4 := Lib.hid b14
   have I4 := Lib.hid (show Below w1.heap.size w1 w4 from I.out.1.trans (b14.mono I.out.1.size))
   have P4 := Lib.hid (PW.out w4 I4.out)
   clear b4 b14 c0 c1' M3 PW
   go_wp2_with fail
   refine P4.out.mono ?_
   rintro e w5 ⟨rfl, b5⟩
   have b15 : Laid wr w5 := B4.out.trans (b5.mono B4.out.size)
   have B5 := Lib.hid b15
   have OW := Lib.hid (own_laid I.out.2 b15)
   have I5 := Lib.hid (show Below w1.heap.size w1 w5 from I.out.1.trans (b15.mono I.out.1.size))
   have F1 := Lib.hid (show k + 1 ≤ maxLen ∧ (k + 1) * 16 ≤ 140737488355328 from by unfold maxLen; omega)
   clear b5 b15 P4
   go_wp2_with (at_builtin; refine wpl_app rfl _ _ 38 rfl w1.heap.size 25 i0 (.agg #[.int .i64 0, .int .i64 0]) 2 16 Tryz.underlying38 hi0 hz0 hz1 hz2 rfl (by decide) (.slice A9 k d) k (((ms.take k).map (movedN wv (rs.map lr))).flatMap nposV) rfl (OW.out.alloc _) (some ⟨w5.heap.size, 0, none⟩) 1 1 (nposV mv) rfl (w5.heap.size + 1) (sq_pair _ _ _ _) (by simp [nposV, Value.oneCell']) F1.out.1 F1.out.2 (by have := I5.out.size; simp; omega) ?_; intro v6 w6 ho6 hg6 _; (obtain ⟨A6, d6, rfl, _⟩ := own_cap ho6); (have O6 := Lib.hid ho6); (have G6 := Lib.hid hg6); clear ho6 hg6)
   go_roundw
   case rel =>
    refine ⟨k + 1, d6, A6, by trivial, by go_num, by omega, Lib.hid ⟨?_, by rw [NX.out]; exact O6.out⟩⟩
    have ba : Laid w5 (w5.alloc (.cells #[.int .i64 (mv.1 : Int), .int .i64 (mv.2 : Int)] 25)) := (Below.refl _ _).alloc (Nat.le_refl _) _
    exact (I5.out.trans (ba.mono I5.out.size)).grown G6.out (by have := I5.out.size; simp; omega) (fun j e => (OW.out.lt j e).1)
   case measure => first | (simp [intOf]; done) | (simp [intOf]; omega)
  ·obtain rfl : k = nm := by omega
   have MT := Lib.hid (show ms.take k = ms from List.take_of_length_le (by rw [ML.out]; exact Nat.le_refl _))
   have AW := Lib.hid (all_walk A1 N c1 wv vs J wr (S1.out.below I.out.1 S1.out.size) ((RD.out.below I.out.1).up I.out.1.size) hN1 OK.out HW.out.1 HW.out.2)
   have hnl : ¬ (k : Int) < (k : Int) := by omega
   go_wp2_with fail
   refine AW.out.mono ?_
   rintro e w4 ⟨v4, rs4, rfl, O4, M4, b4⟩
   have IB := Lib.hid (show Below w.heap.size w wr from B1.out.trans (I.out.1.mono B1.out.size))
   have FN := Lib.hid (show Own w4 w.heap.size v4 rs4 ∧ rs4.map lr = allL wv (joinL (rs.map lr)) ∧ w4.ownsRow w.heap.size 25 2 (.slice A9 k d) k ((ms.map (movedN wv (rs.map lr))).flatMap nposV) ∧ Below w.heap.size w w4 from ⟨O4.down IB.out.size, by rw [HJ.out]; exact M4, by
    have h := own_down (own_laid I.out.2 b4) B1.out.size
    rw [MT.out] at h
    exact h, IB.out.trans (b4.mono IB.out.size)⟩)
   clear O4 M4 b4 AW
   go_wp2_with fail
   refine bodyPost_ret (results_tmp2 (t := 6) (u := 7) rfl _ _ _) rfl ?_
   exact ⟨_, _, rs4, rfl, FN.out⟩
end Ln
end Go.Proofs.YtgmijnnhanpocaaGreatDoor
namespace Go.Proofs.YtgmijnnhanpocaaGreatDoor
open Go.ChangeShapes Go.WideShapes Go.ChangeAt Go.RowKit
namespace Ln
open Rw
theorem join_signs {rs : List LR} (h : ∀ r ∈ rs, ∀ c ∈ r.2, -2147483648 ≤ c.1 ∧ c.1 ≤ 2147483647) : ∀ l ∈ joinL rs, ∀ c ∈ l, -2147483648 ≤ c.1 ∧ c.1 ≤ 2147483647 := by
 intro l hl c hc
 obtain ⟨p, hp, rfl⟩ := List.mem_map.1 hl
 unfold joined trimL at hc
 obtain ⟨r, hr, hcr⟩ := List.mem_flatMap.1 (List.mem_of_mem_take hc)
 have hrs : r ∈ rs := by rw [← parts_flatten rs]; exact List.mem_flatten.2 ⟨p, hp, hr⟩
 refine h r hrs c ?_
 unfold cellsR at hcr
 split at hcr
 ·exact (List.mem_filter.1 hcr).1
 ·cases hcr
theorem rows_ok {W : World} {B n : Nat} {A : Option Addr} {rs : List RowIn} (h : Rws W B A n rs) (hn : n ≤ 33) : LOk (joinL (rs.map lr)) := by
 refine ⟨join_ok _, fun l hl => ?_, join_signs fun r hr => ?_⟩
 ·exact joinL_len (rs := rs.map lr) (N := 10000) (by rw [List.length_map, h.len]; omega) l hl
 ·obtain ⟨x, hx, rfl⟩ := List.mem_map.1 hr
  exact (h.each x hx).signs
theorem joinL_many {rs : List LR} : (joinL rs).length ≤ rs.length := by
 unfold joinL
 rw [List.length_map]
 exact parts_length_le rs
theorem rows_many {W : World} {B n : Nat} {A : Option Addr} {rs : List RowIn} (h : Rws W B A n rs) (hn : n ≤ 1000) : (joinL (rs.map lr)).length ≤ 1000 := by
 have h1 := joinL_many (rs := rs.map lr)
 rw [List.length_map, h.len] at h1
 omega
end Ln
end Go.Proofs.YtgmijnnhanpocaaGreatDoor
namespace Go.Proofs.YtgmijnnhanpocaaGreatDoor
namespace Ln
open Rw
theorem trimN_last (l : List (Int × Int × Int)) : ∀ n, n ≤ l.length → ∀ p (hp : p < l.length), trimN l n = p + 1 → blankC l[p] = false
 | 0, _, p, _, h => by simp [trimN] at h
 | n + 1, hn, p, hp, h => by
  have hg : l[n]? = some l[n] := List.getElem?_eq_getElem (by omega)
  cases hb : blankC l[n]
  ·rw [trimN_no hg hb] at h
   have e : n = p := by omega
   subst e
   exact hb
  ·rw [trimN_yes hg hb] at h
   exact trimN_last l n (by omega) p hp h
theorem trimL_two (l : List (Int × Int × Int)) : trimL (trimL l) = trimL l := by
 have hle := trimN_le l l.length
 have hlen : (trimL l).length = trimN l l.length := by unfold trimL; rw [List.length_take]; omega
 have key : trimN (trimL l) (trimL l).length = (trimL l).length := by
  rw [hlen]
  cases hp : trimN l l.length with
  | zero => rfl
  | succ p =>
   have hpl : p < l.length := by omega
   have hb := trimN_last l l.length (Nat.le_refl _) p hpl hp
   have hpt : p < (trimL l).length := by omega
   have hg : (trimL l)[p]? = some l[p] := by
    unfold trimL
    rw [List.getElem?_take, if_pos (by omega), List.getElem?_eq_getElem hpl]
   exact trimN_no hg hb
 have e : trimL (trimL l) = (trimL l).take (trimN (trimL l) (trimL l).length) := rfl
 rw [e, key]
 exact List.take_length
theorem layL_end {w : Nat} (hw : 2 ≤ w) (hw2 : w ≤ 300) {l : List Cel} (hl : lineB l = true) : ∀ r, (layL w l).getLast? = some r → goes r = false := by
 obtain ⟨done, last, e, _⟩ := layL_is hw hw2 hl
 intro r hr
 rw [e, List.getLast?_concat] at hr
 obtain rfl := Option.some.inj hr
 rfl
theorem join_all {w : Nat} (hw : 2 ≤ w) (hw2 : w ≤ 300) : ∀ (ls : List (List Cel)), (∀ l ∈ ls, lineB l = true) → joinL (allL w ls) = ls.map trimL
 | [], _ => rfl
 | l :: ls, h => by
  have ih := join_all hw hw2 ls fun y hy => h y (by simp [hy])
  have hl := h l (by simp)
  rw [show allL w (l :: ls) = layL w l ++ allL w ls by unfold allL; rw [List.flatMap_cons], joinL_append (layL_end hw hw2 hl), join_lay hw hw2 hl, ih]
  rfl
theorem all_wide {w : Nat} (hw : 2 ≤ w) (hw2 : w ≤ 300) {ls : List (List Cel)} (h : ∀ l ∈ ls, lineB l = true) : ∀ r ∈ allL w ls, r.2.length = w := by
 intro r hr
 unfold allL at hr
 obtain ⟨l, hl, hr⟩ := List.mem_flatMap.1 hr
 obtain ⟨_, _, _, _, h2, _⟩ := layL_is hw hw2 (h l hl)
 exact (h2 r hr).1
theorem join_trim (rs : List LR) : (joinL rs).map trimL = joinL rs := by
 unfold joinL
 rw [List.map_map]
 refine List.map_congr_left fun p _ => ?_
 show trimL (trimL _) = _
 rw [trimL_two]
 rfl
theorem join_back {w : Nat} (hw : 2 ≤ w) (hw2 : w ≤ 300) (rs : List LR) : joinL (allL w (joinL rs)) = joinL rs := by
 rw [join_all hw hw2 _ (join_ok rs), join_trim]
end Ln
end Go.Proofs.YtgmijnnhanpocaaGreatDoor
namespace Go.Proofs.YtgmijnnhanpocaaGreatDoor
open Go.ChangeShapes Go.WideShapes Go.ChangeAt Go.RowKit
namespace Ln
open Rw
theorem infoInt : (Tryz.prog.info? 3).map (fun i => (i.zero, i.size, i.bytes)) = some (some (.int .i64 0), 1, 8) := by kernel_rfl
def offR (l : List LR) : Nat := l.foldl (fun at' r => if goes r then at' + (cellsR r).length else 0) 0
theorem offR_snoc (l : List LR) (r : LR) : offR (l ++ [r]) = if goes r then offR l + (cellsR r).length else 0 := by unfold offR; rw [List.foldl_append]; rfl
theorem cellsR_len (r : LR) : (cellsR r).length ≤ 300 := by
 unfold cellsR
 split
 ·rename_i h
  unfold mayL at h
  simp only [Bool.and_eq_true, decide_eq_true_eq] at h
  exact Nat.le_trans (List.length_filter_le _ _) h.1
 ·exact Nat.zero_le _
theorem offR_le (l : List LR) : offR l ≤ 300 * l.length := by
 refine snoc_ind (P := fun l => offR l ≤ 300 * l.length) (Nat.zero_le _) (fun l x ih => ?_) l
 rw [offR_snoc, List.length_append, List.length_singleton]
 have := cellsR_len x
 split <;> omega
theorem ends_le (l : List LR) : ends l ≤ l.length := List.length_filter_le _ _
def linesV (L : List LR) (k : Nat) : List Value := (List.range k).map fun i => .int .i64 ((ends (L.take i) : Nat) : Int)
def offsV (L : List LR) (k : Nat) : List Value := (List.range k).map fun i => .int .i64 ((offR (L.take i) : Nat) : Int)
theorem linesV_next (L : List LR) (k : Nat) : linesV L (k + 1) = linesV L k ++ [.int .i64 ((ends (L.take k) : Nat) : Int)] := by unfold linesV; rw [List.range_succ, List.map_append]; rfl
theorem offsV_next (L : List LR) (k : Nat) : offsV L (k + 1) = offsV L k ++ [.int .i64 ((offR (L.take k) : Nat) : Int)] := by unfold offsV; rw [List.range_succ, List.map_append]; rfl
theorem linesV_get {L : List LR} {k i : Nat} (h : i < k) : (linesV L k)[i]? = some (.int .i64 ((ends (L.take i) : Nat) : Int)) := by unfold linesV; rw [List.getElem?_map, List.getElem?_range h]; rfl
theorem offsV_get {L : List LR} {k i : Nat} (h : i < k) : (offsV L k)[i]? = some (.int .i64 ((offR (L.take i) : Nat) : Int)) := by unfold offsV; rw [List.getElem?_map, List.getElem?_range h]; rfl
theorem sq_single (w : World) (e : TypeId) (x : Value) : Sq (w.alloc (.cells #[x] e)) (w.heap.size + 1) 1 1 (some ⟨w.heap.size, 0, none⟩) [x] :=
 ⟨rfl, fun _ => ⟨w.heap.size, 0, rfl, Nat.lt_succ_self _, fun j u hu => by
  have h := cell_single w e x j u hu
  rw [add_at] at h
  exact h⟩⟩
def OfPost (L : List LR) (n : Nat) (w : World) (e : Ending) (w' : World) : Prop :=
 ∃ v1 v2, e = .returned (.tuple #[v1, v2]) ∧ w'.ownsRow w.heap.size 3 1 v1 n (linesV L n) ∧ w'.ownsRow w.heap.size 3 1 v2 n (offsV L n) ∧ Below w.heap.size w w'
set_option maxRecDepth 100000 in
set_option maxHeartbeats 6400000 in
theorem refOf_walk (A : Option Addr) (n c : Nat) (rs : List RowIn) (w : World) (hr : Rws w w.heap.size A n rs) (hn : n ≤ 1000000) :
  Calls Tryz.prog 40 #[.slice A n c] w fun e w' => OfPost (rs.map lr) n w e w' := by
 obtain ⟨i0, hi0, hz0, hz1, hz2⟩ := info_parts infoInt
 have R := Lib.hid hr
 have I0 := Lib.hid (Below.refl w.heap.size w)
 obtain ⟨L, hL⟩ : ∃ L, rs.map lr = L := ⟨_, rfl⟩
 have HL := Lib.hid hL
 rw [hL]
 clear hr hL
 go_enter Tryz.func40, Tryz.ntmps40
 go_wp2_with fail
 go_loopw [4, 5, 6, 7, 8] (fun v1 v2 nn at' i wr => ∃ (k d1 d2 E O : Nat) (A1 A2 : Option Addr), v1 = .slice A1 k d1 ∧ v2 = .slice A2 k d2 ∧ nn = .int .i64 (E : Int) ∧ at' = .int .i64 (O : Int) ∧ i = .int .i64 (k : Int) ∧ k ≤ n ∧ Hid (E = ends (L.take k) ∧ O = offR (L.take k)) ∧ Hid (Below w.heap.size w wr) ∧ Hid (wr.ownsRow w.heap.size 3 1 (.slice A1 k d1) k (linesV L k) ∧ wr.ownsRow w.heap.size 3 1 (.slice A2 k d2) k (offsV L k) ∧ ∀ j, (Value.slice A1 k d1).ownBlock = some j → (Value.slice A2 k d2).ownBlock ≠ some j)) (fun _ _ _ _ i _ => n - (intOf i).toNat)
 case atStart => exact ⟨0, 0, 0, 0, 0, none, none, rfl, rfl, rfl, rfl, rfl, Nat.zero_le _, Lib.hid ⟨rfl, rfl⟩, I0, Lib.hid ⟨World.ownsRow_nil _ _ _ _, World.ownsRow_nil _ _ _ _, fun j e => by cases e⟩⟩
 case round =>
  obtain ⟨k, d1, d2, E, O, A1, A2, rfl, rfl, rfl, rfl, rfl, hk, EO, I, OW⟩ := hrel
  clear I0
  by_cases hlt : k < n
  ·obtain ⟨r, hr⟩ : ∃ r, rs[k]? = some r := ⟨_, List.getElem?_eq_getElem (by rw [R.out.len]; exact hlt)⟩
   have RO := Lib.hid (R.out.each r (List.mem_of_getElem? hr))
   obtain ⟨b, off, rfl, hb, q0, q1⟩ := rows_at R.out.sq hr hlt
   have hLk : L[k]? = some (lr r) := by rw [← HL.out, List.getElem?_map, hr]; rfl
   have NE := Lib.hid (show ends (L.take (k + 1)) = E + if goes (lr r) then 0 else 1 from by rw [take_one hLk, ends_snoc, EO.out.1])
   have NO := Lib.hid (show offR (L.take (k + 1)) = if goes (lr r) then O + (cellsR (lr r)).length else 0 from by rw [take_one hLk, offR_snoc, EO.out.2])
   have CB := Lib.hid (show ∀ W, Below w.heap.size w W → W.cell? ⟨b, off + k * 2, none⟩ = some (.slice r.A r.n r.c) ∧ W.cell? ⟨b, off + k * 2 + 1, none⟩ = some (.bool r.wrap) from fun W hW => ⟨(hW.cell (p := ⟨b, off + k * 2, none⟩) hb).trans q0, (hW.cell (p := ⟨b, off + k * 2 + 1, none⟩) hb).trans q1⟩)
   have hki : (k : Int) < (n : Int) := by omega
   have hE : E ≤ k := by have h := ends_le (L.take k); have := EO.out.1; rw [List.length_take] at h; omega
   have hO : O ≤ 300 * k := by have h := offR_le (L.take k); have := EO.out.2; rw [List.length_take] at h; omega
   have hF : k + 1 ≤ maxLen ∧ (k + 1) * 8 ≤ 140737488355328 := by unfold maxLen; omega
   have F1 := Lib.hid hF
   have BZ := Lib.hid I.out.size
   obtain ⟨sL, hsL⟩ : ∃ sL, (cellsR (lr r)).length = sL := ⟨_, rfl⟩
   have hs300 : sL ≤ 300 := by rw [← hsL]; exact cellsR_len _
   have SL := Lib.hid hsL
   clear hr q0 q1 hLk hsL hF
   go_upto_region 7 with (first
    | (at_builtin; refine wpl_app rfl _ _ 43 rfl w.heap.size 3 i0 (.int .i64 0) 1 8 Tryz.underlying43 hi0 hz0 hz1 hz2 rfl (by decide) (.slice A1 k d1) k (linesV L k) rfl (OW.out.1.alloc _) (some ⟨wr.heap.size, 0, none⟩) 1 1 [.int .i64 (E : Int)] rfl (wr.heap.size + 1) (sq_single _ _ _) (by simp [Value.oneCell']) F1.out.1 F1.out.2 (by have := BZ.out; simp; omega) ?_; intro v4 w4 ho4 hg4 hb4; (obtain ⟨A4, d4, rfl, _⟩ := own_cap ho4); (have O4 := Lib.hid ho4); (have G4 := Lib.hid hg4); (have B4 := Lib.hid hb4); (have P4 := Lib.hid (own_keep (OW.out.2.1.alloc (.cells #[.int .i64 (E : Int)] 3)) (fun j hj => hg4.block j (by have := (OW.out.2.1.lt j hj).2; simp; omega) (fun e => OW.out.2.2 j e.symm hj)))); (have Z4 := Lib.hid (show w.heap.size ≤ w4.heap.size from Nat.le_trans (by have := BZ.out; simp; omega) hg4.size)); clear ho4 hg4 hb4)
    | (at_builtin; refine wpl_app rfl _ _ 43 rfl w.heap.size 3 i0 (.int .i64 0) 1 8 Tryz.underlying43 hi0 hz0 hz1 hz2 rfl (by decide) (.slice A2 k d2) k (offsV L k) rfl (P4.out.alloc _) (some ⟨w4.heap.size, 0, none⟩) 1 1 [.int .i64 (O : Int)] rfl (w4.heap.size + 1) (sq_single _ _ _) (by simp [Value.oneCell']) F1.out.1 F1.out.2 (by have := Z4.out; simp; omega) ?_; intro v5 w5 ho5 hg5 hb5; (obtain ⟨A5, d5, rfl, _⟩ := own_cap ho5); (have O5 := Lib.hid ho5); (have G5 := Lib.hid hg5); (have B5 := Lib.hid hb5); clear ho5 hg5 hb5))
   have L4 : Laid w4 (w4.alloc (.cells #[.int .i64 (O : Int)] 3)) := (Below.refl _ _).alloc (Nat.le_refl _) _
   have b4 : Below w.heap.size w w4 := (I.out.alloc I.out.size _).grown G4.out (by have := BZ.out; simp; omega) (fun j e => (OW.out.1.lt j e).1)
   have I5 := Lib.hid (show Below w.heap.size w w5 from (b4.alloc b4.size _).grown G5.out (by have := Z4.out; simp; omega) (fun j e => (P4.out.lt j e).1))
   have X5 := Lib.hid (show w5.ownsRow w.heap.size 3 1 (.slice A4 (k + 1) d4) (k + 1) (linesV L (k + 1)) ∧ w5.ownsRow w.heap.size 3 1 (.slice A5 (k + 1) d5) (k + 1) (offsV L (k + 1)) ∧ ∀ j, (Value.slice A4 (k + 1) d4).ownBlock = some j → (Value.slice A5 (k + 1) d5).ownBlock ≠ some j from by
    rw [linesV_next, offsV_next, ← EO.out.1, ← EO.out.2]
    have apart4 : ∀ j, (Value.slice A4 (k + 1) d4).ownBlock = some j → (Value.slice A2 k d2).ownBlock ≠ some j := fun j hj e => by
     rcases B4.out with h | h
     ·exact OW.out.2.2 j (h.symm.trans hj) e
     ·rw [h] at hj
      injection hj with hj
      have := (OW.out.2.1.lt j e).2
      simp at hj
      omega
    refine ⟨own_keep (O4.out.alloc _) (fun j hj => G5.out.block j (by have := (O4.out.lt j hj).2; simp; omega) (fun e => apart4 j hj e.symm)), O5.out, fun j hj e => ?_⟩
    rcases B5.out with h | h
    ·exact apart4 j hj (h.symm.trans e)
    ·rw [h] at e
     injection e with e
     have := (O4.out.lt j hj).2
     simp at e
     omega)
   obtain ⟨q0, q1⟩ := CB.out w5 I5.out
   clear L4 b4 O4 O5 G4 G5 B4 B5 P4 Z4 OW
   have SW := Lib.hid (refSigns_walk r.A r.n r.c r.wrap r.l w5 RO.out.signs ((RO.out.sq.below I5.out).up I5.out.size) (by have h1 := RO.out.le; have h2 := RO.out.cap; unfold maxLen at h2; omega))
   go_wp2_with fail
   refine SW.out.mono ?_
   rintro e w6 ⟨v6, rfl, h6, b6⟩
   obtain ⟨A6, d6, rfl, _⟩ := own_cap (show w6.ownsRow w5.heap.size 50 3 v6 (cellsR (lr r)).length (flat (cellsR (lr r))) from h6)
   have I6 := Lib.hid (I5.out.trans (b6.mono I5.out.size))
   have X6 := Lib.hid (show w6.ownsRow w.heap.size 3 1 (.slice A4 (k + 1) d4) (k + 1) (linesV L (k + 1)) ∧ w6.ownsRow w.heap.size 3 1 (.slice A5 (k + 1) d5) (k + 1) (offsV L (k + 1)) ∧ ∀ j, (Value.slice A4 (k + 1) d4).ownBlock = some j → (Value.slice A5 (k + 1) d5).ownBlock ≠ some j from ⟨own_laid X5.out.1 b6, own_laid X5.out.2.1 b6, X5.out.2.2⟩)
   obtain ⟨q0, q1⟩ := CB.out w6 I6.out
   have SL' := SL.out
   rw [SL'] at NO ⊢
   have RW := Lib.hid (refRow_any r.A r.n r.c r.wrap r.l w6 RO.out.signs ((RO.out.sq.below I6.out).up I6.out.size) (by have h1 := RO.out.le; have h2 := RO.out.cap; unfold maxLen at h2; omega))
   have GO := Lib.hid (show goes (lr r) = (r.wrap && mayL r.l) from rfl)
   obtain ⟨ma, hma⟩ : ∃ ma, mayL r.l = ma := ⟨_, rfl⟩
   rw [hma] at RW GO
   obtain ⟨rA, rn, rc, rb, rl⟩ := r
   dsimp only at q0 q1 RW GO
   clear b6 h6 SW hma SL' X5 I5
   cases rb with
   | false =>
    have N1 := Lib.hid (show E + 1 = ends (L.take (k + 1)) ∧ 0 = offR (L.take (k + 1)) from by rw [NE.out, NO.out, GO.out]; simp)
    go_wp2_with fail
    go_roundw
    case rel => exact ⟨k + 1, d4, d5, E + 1, 0, A4, A5, rfl, rfl, by go_num, rfl, by go_num, by omega, N1, I6, X6⟩
    case measure => simp [intOf]; omega
   | true =>
    go_wp2_with fail
    refine RW.out.mono ?_
    rintro e w7 ⟨rfl, b7⟩
    have I7 := Lib.hid (I6.out.trans (b7.mono I6.out.size))
    have X7 := Lib.hid (show w7.ownsRow w.heap.size 3 1 (.slice A4 (k + 1) d4) (k + 1) (linesV L (k + 1)) ∧ w7.ownsRow w.heap.size 3 1 (.slice A5 (k + 1) d5) (k + 1) (offsV L (k + 1)) ∧ ∀ j, (Value.slice A4 (k + 1) d4).ownBlock = some j → (Value.slice A5 (k + 1) d5).ownBlock ≠ some j from ⟨own_laid X6.out.1 b7, own_laid X6.out.2.1 b7, X6.out.2.2⟩)
    clear b7 RW X6 I6 q0 q1
    cases ma with
    | false =>
     have N1 := Lib.hid (show E + 1 = ends (L.take (k + 1)) ∧ 0 = offR (L.take (k + 1)) from by rw [NE.out, NO.out, GO.out]; simp)
     go_wp2_with fail
     go_roundw
     case rel => exact ⟨k + 1, d4, d5, E + 1, 0, A4, A5, rfl, rfl, by go_num, rfl, by go_num, by omega, N1, I7, X7⟩
     case measure => simp [intOf]; omega
    | true =>
     have N1 := Lib.hid (show E = ends (L.take (k + 1)) ∧ O + sL = offR (L.take (k + 1)) from by rw [NE.out, NO.out, GO.out]; simp)
     go_wp2_with fail
     go_roundw
     case rel => exact ⟨k + 1, d4, d5, E, O + sL, A4, A5, rfl, rfl, by first | rfl | trivial, by go_num, by go_num, by omega, N1, I7, X7⟩
     case measure => simp [intOf]; omega
  ·obtain rfl : k = n := by omega
   have hnl : ¬ (k : Int) < (k : Int) := by omega
   go_wp2
   exact bodyPost_ret (v := .tuple #[.slice A1 k d1, .slice A2 k d2]) (results_tmp2 (t := 2) (u := 3) rfl _ _ _) rfl ⟨_, _, rfl, OW.out.1, OW.out.2.1, I.out⟩
end Ln
end Go.Proofs.YtgmijnnhanpocaaGreatDoor
namespace Go.Proofs.YtgmijnnhanpocaaGreatDoor
namespace Ln
open Rw
theorem ahead_pre {pr : Nat} {pc : Int} : ∀ {A B : List Pl}, (∀ y ∈ A, stops pr pc y = false) → aheadN pr pc (A ++ B) = A.length + aheadN pr pc B
 | [], B, _ => by simp
 | y :: A, B, h => by
  rw [List.cons_append, aheadN, h y (by simp), ahead_pre (A := A) (B := B) (fun z hz => h z (by simp [hz])), List.length_cons]
  simp
  omega
theorem ahead_stop {pr : Nat} {pc : Int} {B : List Pl} (h : ∀ y ∈ B, stops pr pc y = true) : aheadN pr pc B = 0 := by
 cases B with
 | nil => rfl
 | cons y B => rw [aheadN, h y (by simp)]; rfl
def colN (l : List Cel) (pc : Int) : Nat := (max 0 (min pc (l.length : Int))).toNat
def halfN (l : List Cel) (col : Nat) : Bool := decide (col < l.length) && (decide (0 < col) && (cAt l col).2.1 == 0)
def cutN (l : List Cel) (pc : Int) : Nat := if halfN l (colN l pc) then colN l pc - 1 else colN l pc
theorem sign_w {c : Cel} (h : signC c = true) (hm : mayB c = true) : 1 ≤ c.2.1 ∧ c.2.1 ≤ 2 := by
 rcases sign_wide h hm with h | h <;> omega
theorem sign_two {c : Cel} (h : c.2.1 = 2) : signC c = true := by
 obtain ⟨r, m, a⟩ := c
 simp only at h
 subst h
 unfold signC padC isB
 simp
theorem from_at {i : Nat} : ∀ {m : List Cel} {b : Nat} {y : Pl}, y ∈ signsFrom i b m → y.1.1 = i ∧ ∃ j, j < m.length ∧ y.1.2 = b + j ∧ m[j]? = some y.2 ∧ signC y.2 = true
 | [], _, y, h => by cases h
 | c :: m, b, y, h => by
  rw [signsFrom] at h
  rcases List.mem_append.1 h with h | h
  ·split at h
   ·rename_i hc
    simp at h
    subst h
    exact ⟨rfl, 0, by simp, rfl, rfl, hc⟩
   ·cases h
  ·obtain ⟨h1, j, h2, h3, h4, h5⟩ := from_at h
   exact ⟨h1, j + 1, by rw [List.length_cons]; omega, by omega, by simpa using h4, h5⟩
theorem row_ahead {l : List Cel} (hm : mayL l = true) (q : Nat) (pc : Int) : aheadN q pc (signsFrom q 0 l) = (signsFrom q 0 (l.take (cutN l pc))).length := by
 obtain ⟨_, G⟩ := (mayL_iff l).1 hm
 have hcol : colN l pc ≤ l.length := by unfold colN; omega
 have hcut : cutN l pc ≤ colN l pc := by unfold cutN; split <;> omega
 have e : signsFrom q 0 l = signsFrom q 0 (l.take (cutN l pc)) ++ signsFrom q (cutN l pc) (l.drop (cutN l pc)) := by
  conv => lhs; rw [← List.take_append_drop (cutN l pc) l]
  rw [signsFrom_append, List.length_take, Nat.min_eq_left (by omega), Nat.zero_add]
 have half : ∀ j, (cAt l j).2.1 = 2 → j + 1 < l.length ∧ (cAt l (j + 1)).2.1 = 0 := fun j hj => by
  have h1 := (G.next j).1 hj
  refine ⟨?_, h1⟩
  by_cases h : j + 1 < l.length
  ·exact h
  ·rw [cAt_none (by omega)] at h1
   exact absurd h1 (by decide)
 rw [e, ahead_pre, ahead_stop, Nat.add_zero]
 ·intro y hy
  obtain ⟨h1, j, h2, h3, h4, h5⟩ := from_at hy
  rw [List.length_drop] at h2
  rw [List.getElem?_drop] at h4
  have hc := cAt_some h4
  obtain ⟨w1, w2⟩ := sign_w h5 (by rw [← hc]; exact G.each _ (by omega))
  unfold stops
  rw [h1, beq_self_eq_true, Bool.true_and, decide_eq_true_eq, h3]
  have hlt : colN l pc < l.length := by
   unfold cutN at h2
   by_cases hh : halfN l (colN l pc) = true
   ·unfold halfN at hh
    simp only [Bool.and_eq_true, decide_eq_true_eq] at hh
    exact hh.1
   ·rw [if_neg hh] at h2
    omega
  have hpc : pc ≤ (colN l pc : Int) := by unfold colN at hlt ⊢; omega
  by_cases hh : halfN l (colN l pc) = true
  ·have hcu : cutN l pc = colN l pc - 1 := by unfold cutN; rw [if_pos hh]
   unfold halfN at hh
   simp only [Bool.and_eq_true, decide_eq_true_eq, beq_iff_eq] at hh
   obtain ⟨_, h6, h7⟩ := hh
   by_cases hj : j = 0
   ·subst hj
    have h8 : (cAt l (colN l pc - 1)).2.1 = 2 := (G.next _).2 (by rw [show colN l pc - 1 + 1 = colN l pc by omega]; exact h7)
    rw [Nat.add_zero, hcu] at hc
    rw [hc] at h8
    rw [h8, hcu]
    omega
   ·rw [hcu]
    omega
  ·have hcu : cutN l pc = colN l pc := by unfold cutN; rw [if_neg hh]
   rw [hcu]
   omega
 ·intro y hy
  obtain ⟨h1, j, h2, h3, h4, h5⟩ := from_at hy
  rw [List.length_take] at h2
  rw [List.getElem?_take, if_pos (by omega)] at h4
  have hc := cAt_some h4
  obtain ⟨w1, w2⟩ := sign_w h5 (by rw [← hc]; exact G.each _ (by omega))
  unfold stops
  rw [h1, beq_self_eq_true, Bool.true_and, decide_eq_false_iff_not, h3, Nat.zero_add]
  have hj : j < cutN l pc := by omega
  have hpc : ((colN l pc : Nat) : Int) ≤ pc := by unfold colN at hcut ⊢; omega
  by_cases hw : y.2.2.1 = 2
  ·rw [hw]
   obtain ⟨g1, g2⟩ := half j (by rw [hc]; exact hw)
   by_cases hh : halfN l (colN l pc) = true
   ·have hcu : cutN l pc = colN l pc - 1 := by unfold cutN; rw [if_pos hh]
    omega
   ·have hcu : cutN l pc = colN l pc := by unfold cutN; rw [if_neg hh]
    have : j + 1 ≠ colN l pc := fun e => hh (by
     unfold halfN
     rw [← e]
     simp only [Bool.and_eq_true, decide_eq_true_eq, beq_iff_eq]
     exact ⟨g1, by omega, g2⟩)
    omega
  ·omega
theorem row_count {l : List Cel} (hm : mayL l = true) (q : Nat) (pc : Int) : ((l.take (colN l pc)).filter signC).length - (if halfN l (colN l pc) then 1 else 0) = aheadN q pc (signsFrom q 0 l) ∧ (halfN l (colN l pc) = true → 1 ≤ ((l.take (colN l pc)).filter signC).length) := by
 obtain ⟨_, G⟩ := (mayL_iff l).1 hm
 rw [row_ahead hm, ← List.length_map (f := fun y : Pl => y.2), signsFrom_cells]
 by_cases hh : halfN l (colN l pc) = true
 ·have hcu : cutN l pc = colN l pc - 1 := by unfold cutN; rw [if_pos hh]
  rw [if_pos hh, hcu]
  unfold halfN at hh
  simp only [Bool.and_eq_true, decide_eq_true_eq, beq_iff_eq] at hh
  obtain ⟨h5, h6, h7⟩ := hh
  have h8 : (cAt l (colN l pc - 1)).2.1 = 2 := (G.next _).2 (by rw [show colN l pc - 1 + 1 = colN l pc by omega]; exact h7)
  have h9 := filter_next (cAt_get (l := l) (i := colN l pc - 1) (by omega))
  rw [show colN l pc - 1 + 1 = colN l pc by omega, if_pos (sign_two h8)] at h9
  rw [h9, List.length_append, List.length_singleton]
  exact ⟨by omega, fun _ => by omega⟩
 ·have hcu : cutN l pc = colN l pc := by unfold cutN; rw [if_neg hh]
  rw [if_neg hh, hcu]
  exact ⟨by omega, fun h => absurd h hh⟩
def rowA (r : LR) (pc : Int) : Nat := if mayL r.2 then ((r.2.take (cutN r.2 pc)).filter signC).length else 0
theorem rowA_is (q : Nat) (r : LR) (pc : Int) : aheadN q pc (signsRow q r) = rowA r pc := by
 unfold signsRow rowA
 by_cases hm : mayL r.2 = true
 ·rw [if_pos hm, if_pos hm, row_ahead hm, ← List.length_map (f := fun y : Pl => y.2), signsFrom_cells]
 ·rw [if_neg hm, if_neg hm]
  rfl
theorem ends_append (a b : List LR) : ends (a ++ b) = ends a + ends b := by unfold ends; rw [List.filter_append, List.length_append]
theorem ends_go {a : List LR} (h : ∀ r ∈ a, goes r = true) : ends a = 0 := by
 unfold ends
 rw [List.filter_eq_nil_iff.2 fun r hr => by simp [h r hr]]
 rfl
theorem offR_go {a : List LR} (h : ∀ r ∈ a, goes r = true) : offR a = (signsAll 0 a).length := by
 have key : ∀ a : List LR, (signsAll 0 a).length = (a.flatMap cellsR).length := fun a => by rw [← signsAll_cells a 0, List.length_map]
 rw [key]
 revert h
 refine snoc_ind (P := fun a => (∀ r ∈ a, goes r = true) → offR a = (a.flatMap cellsR).length) (fun _ => rfl) (fun a r ih h => ?_) a
 rw [offR_snoc, if_pos (h r (by simp)), ih fun x hx => h x (by simp [hx]), List.flatMap_append, List.length_append]
 simp
theorem offR_zero {a : List LR} (h : offR a = 0) (b : List LR) : offR (a ++ b) = offR b := by
 unfold offR at h ⊢
 rw [List.foldl_append, h]
theorem cut_goes {L : List LR} {i : Nat} {r : LR} (h : i + 1 < cut L) (hr : L[i]? = some r) : goes r = true := ((cut_step (by omega) hr).1 h).1
theorem cut_ends {L : List LR} (h : cut L < L.length) {r : LR} (hr : L[cut L - 1]? = some r) : goes r = false := by
 have h1 := cut_pos (l := L) (by intro e; rw [e] at h; simp at h)
 have h2 := (cut_step (l := L) (i := cut L - 1) (by omega) hr).2
 cases hg : goes r with
 | false => rfl
 | true => exact absurd (h2 ⟨hg, by omega⟩) (by omega)
theorem take_goes {L : List LR} {p : Nat} (h : p < cut L) : ∀ r ∈ L.take p, goes r = true := fun r hr => by
 obtain ⟨i, hi⟩ := List.mem_iff_getElem?.1 hr
 rw [List.getElem?_take] at hi
 split at hi
 ·exact cut_goes (by omega) hi
 ·cases hi
theorem spot_ref (pc : Int) : ∀ (N : Nat) (L : List LR) (pr k : Nat) (r : LR), L.length ≤ N → L[pr]? = some r →
  ∃ l, (joinL L)[ends (L.take pr)]? = some l ∧ spotN pc pr k (parts L) = (k + ends (L.take pr), min (offR (L.take pr) + rowA r pc) l.length, offR (L.take pr) + rowA r pc - l.length)
 | 0, L, pr, k, r, hN, hr => by
  have := (List.getElem?_eq_some_iff.1 hr).1
  omega
 | N + 1, L, pr, k, r, hN, hr => by
  have hlt := (List.getElem?_eq_some_iff.1 hr).1
  have hne : L ≠ [] := fun e => by rw [e] at hlt; simp at hlt
  have hp := cut_pos hne
  have hc := cut_le L
  have hpart := parts_cut hne
  have hjoin : joinL L = joined (L.take (cut L)) :: joinL (L.drop (cut L)) := by unfold joinL; rw [hpart]; rfl
  have hlen : (L.take (cut L)).length = cut L := by rw [List.length_take]; omega
  rw [hpart, spotN, hlen]
  by_cases hpc : pr < cut L
  ·rw [if_pos hpc, List.take_take, show min (pr + 1) (cut L) = pr + 1 by omega]
   have hg := take_goes hpc
   have e1 := ends_go hg
   have e2 := offR_go hg
   have e3 : aheadN pr pc (signsAll 0 (L.take (pr + 1))) = offR (L.take pr) + rowA r pc := by
    have hl : (L.take pr).length = pr := by rw [List.length_take]; omega
    rw [take_one hr, signsAll_append, Nat.zero_add, hl, ahead_pre, e2, signsAll, signsAll, List.append_nil, rowA_is]
    intro y hy
    obtain ⟨_, _, _, h4⟩ := signs_fit hy
    rw [hl] at h4
    unfold stops
    rw [show (y.1.1 == pr) = false from by simp; omega]
    rfl
   refine ⟨joined (L.take (cut L)), by rw [e1, hjoin]; rfl, ?_⟩
   rw [e1, e3]
   rfl
  ·rw [if_neg hpc]
   obtain ⟨s, hs⟩ : ∃ s, L[cut L - 1]? = some s := ⟨_, List.getElem?_eq_getElem (by omega)⟩
   have hg := cut_ends (by omega) hs
   have hdr : (L.drop (cut L))[pr - cut L]? = some r := by rw [List.getElem?_drop, show cut L + (pr - cut L) = pr by omega]; exact hr
   obtain ⟨l, h1, h2⟩ := spot_ref pc N (L.drop (cut L)) (pr - cut L) (k + 1) r (by rw [List.length_drop]; omega) hdr
   have hsplit : L.take pr = L.take (cut L) ++ (L.drop (cut L)).take (pr - cut L) := by
    rw [show pr = cut L + (pr - cut L) by omega, List.take_add, show cut L + (pr - cut L) - cut L = pr - cut L by omega]
   have hsn : L.take (cut L) = L.take (cut L - 1) ++ [s] := by
    have := take_one hs
    rw [show cut L - 1 + 1 = cut L by omega] at this
    exact this
   have e1 : ends (L.take (cut L)) = 1 := by
    rw [hsn, ends_snoc, ends_go (take_goes (by omega)), hg]
    rfl
   have e2 : offR (L.take (cut L)) = 0 := by
    rw [hsn, offR_snoc, hg]
    rfl
   have e3 : ends (L.take pr) = ends ((L.drop (cut L)).take (pr - cut L)) + 1 := by rw [hsplit, ends_append, e1, Nat.add_comm]
   have e4 : offR (L.take pr) = offR ((L.drop (cut L)).take (pr - cut L)) := by rw [hsplit, offR_zero e2]
   refine ⟨l, by rw [e3, hjoin, List.getElem?_cons_succ]; exact h1, ?_⟩
   rw [h2, e3, e4]
   congr 1
   omega
end Ln
end Go.Proofs.YtgmijnnhanpocaaGreatDoor
namespace Go.Proofs.YtgmijnnhanpocaaGreatDoor
open Go.ChangeShapes Go.WideShapes Go.ChangeAt Go.RowKit
namespace Ln
open Rw
def jrL : List Ord.Line := [
 (some 29, Go.Op.move (Go.Operand.tmp 3), none, []),
 (some 30, Go.Op.move (Go.Operand.tmp 4), none, []),
 (some 31, Go.Op.move (Go.Operand.tmp 6), none, []),
 (some 32, Go.Op.indexAddr 43 (Go.Operand.tmp 30) (Go.Operand.tmp 31), none, [1, 2]),
 (some 33, Go.Op.load 3 (Go.Operand.tmp 32), none, [3]),
 (some 34, Go.Op.move (Go.Operand.tmp 3), none, []),
 (some 35, Go.Op.move (Go.Operand.tmp 4), none, []),
 (some 36, Go.Op.move (Go.Operand.tmp 6), none, []),
 (some 37, Go.Op.indexAddr 43 (Go.Operand.tmp 35) (Go.Operand.tmp 36), none, [6, 7]),
 (some 38, Go.Op.load 3 (Go.Operand.tmp 37), none, [8]),
 (some 39, Go.Op.indexAddr 23 (Go.Operand.tmp 34) (Go.Operand.tmp 38), none, [5, 9]),
 (some 40, Go.Op.load 46 (Go.Operand.tmp 39), none, [10]),
 (some 41, Go.Op.move (Go.Operand.tmp 0), none, []),
 (some 42, Go.Op.move (Go.Operand.tmp 6), none, []),
 (some 43, Go.Op.indexAddr 22 (Go.Operand.tmp 41) (Go.Operand.tmp 42), none, [12, 13]),
 (some 44, Go.Op.load 48 (Go.Operand.tmp 43), none, [14]),
 (some 45, Go.Op.call { callee := Go.Callee.value (Go.Operand.func 41), args := #[Go.Operand.tmp 44], argTypes := #[48] }, none, [15]),
 (some 46, Go.Op.call { callee := Go.Callee.builtin Go.Builtin.append, args := #[Go.Operand.tmp 40, Go.Operand.tmp 45], argTypes := #[46, 46] }, none, [11, 16, 16]),
 (some 47, Go.Op.indexAddr 23 (Go.Operand.tmp 29) (Go.Operand.tmp 33), none, [0, 4, 0, 1, 2, 3, 4, 5, 6, 7, 8, 9, 10, 11, 12, 13, 14, 15, 16, 17]),
 (none, Go.Op.store 46 (Go.Operand.tmp 47) (Go.Operand.tmp 46), none, [18, 17, 17, 0, 1, 2, 3, 4, 5, 6, 7, 8, 9, 10, 11, 12, 13, 14, 15, 16, 17])]
structure JrFr (b0 o0 n c go p d3 g4 d4 k : Nat) (a0 a : Act) : Prop where
 size : a.tmps.size = 63
 s0 : Chain.At a 0 (.slice (some ⟨b0, o0, none⟩) n c)
 s3 : Chain.At a 3 (.slice (some ⟨go, 0, none⟩) p d3)
 s4 : Chain.At a 4 (.slice (some ⟨g4, 0, none⟩) n d4)
 s6 : Chain.At a 6 (.int .i64 (k : Int))
 fr : Fr 29 47 a0 a
theorem JrFr.next {b0 o0 n c go p d3 g4 d4 k : Nat} {a0 a a' : Act} {d : Nat} {v : Value} (F : JrFr b0 o0 n c go p d3 g4 d4 k a0 a) (nx : Chain.Next a a' d v) (h : 29 ≤ d ∧ d ≤ 47) : JrFr b0 o0 n c go p d3 g4 d4 k a0 a' := ⟨nx.size.trans F.size, nx.keep 0 _ (by omega) F.s0, nx.keep 3 _ (by omega) F.s3, nx.keep 4 _ (by omega) F.s4, nx.keep 6 _ (by omega) F.s6, F.fr.next nx h⟩
theorem JrFr.lt {b0 o0 n c go p d3 g4 d4 k : Nat} {a0 a : Act} {d : Nat} (F : JrFr b0 o0 n c go p d3 g4 d4 k a0 a) (h : d < 63) : d < a.tmps.size := by rw [F.size]; exact h
set_option maxRecDepth 100000 in
set_option maxHeartbeats 3200000 in
theorem jr_region {ops : Array Oper} {Q : Exit → Act → World → Prop} (R : Ord.Reg ops jrL) (hQ : ∀ c a w d v, Q (.panic c) (Act.put a (some d) v) w → Q (.panic c) a w) {w1 : World} {Rd : World → Prop} {b0 o0 n c go p d3 g4 d4 k E nx cX rn rc sL B : Nat} {AX rA : Option Addr} {rb : Bool} {xs news : List Value} {P1 : World → Option Addr → Nat → Prop} {i0 : TypeInfo}
  (hi : Tryz.prog.info? 50 = some i0) (hz0 : i0.zero = some (.agg #[.int .i32 0, .int .i64 0, .int .i64 0])) (hz1 : i0.size = 3) (hz2 : i0.bytes = 24)
  (hk0 : (0 : Int) ≤ (k : Int)) (hkn : (k : Int) < (n : Int)) (hE0 : (0 : Int) ≤ (E : Int)) (hEp : (E : Int) < (p : Int))
  (k0 : ∀ w : World, Rd w → w.cell? ⟨g4, k, none⟩ = some (.int .i64 (E : Int))) (kx : w1.cell? ⟨go, E, none⟩ = some (.slice AX nx cX)) (ka : ∀ w : World, Rd w → w.cell? ⟨b0, o0 + k * 2, none⟩ = some (.slice rA rn rc)) (kb : ∀ w : World, Rd w → w.cell? ⟨b0, o0 + k * 2 + 1, none⟩ = some (.bool rb))
  (C1 : Calls Tryz.prog 41 #[.agg #[.slice rA rn rc, .bool rb]] w1 fun e w' => ∃ A6 c6, e = .returned (.slice A6 sL c6) ∧ P1 w' A6 c6)
  (KS1 : ∀ w A6 c6, P1 w A6 c6 → Rd w) (X1 : ∀ w A6 c6, P1 w A6 c6 → w.ownsRow B 50 3 (.slice AX nx cX) nx xs ∧ Sq w w.heap.size 3 sL A6 news ∧ B ≤ w.heap.size) (KX : ∀ w A6 c6, P1 w A6 c6 → w.cell? ⟨go, E, none⟩ = some (.slice AX nx cX)) (KA : ∀ w A6 c6 w', P1 w A6 c6 → w.grownBy w' (Value.slice AX nx cX).ownBlock → Rd w' ∧ (∃ x, w'.cell? ⟨go, E, none⟩ = some x) ∧ w'.frozen? ⟨go, E, none⟩ = false) (ks : ∀ (w : World) (v : Value), Rd w → Rd (w.setCell ⟨go, E, none⟩ v))
  (h1 : ∀ u ∈ news, u.oneCell' = true) (hm : nx + sL ≤ maxLen) (hm2 : (nx + sL) * 24 ≤ 140737488355328) (hS : Rd w1)
  (a0 a : Act) (F : JrFr b0 o0 n c go p d3 g4 d4 k a0 a) (h : ∀ a w A6 c6 w4 A4 c4, P1 w A6 c6 → w4.ownsRow B 50 3 (.slice A4 (nx + sL) c4) (nx + sL) (xs ++ news) → w.grownBy w4 (Value.slice AX nx cX).ownBlock → ((Value.slice A4 (nx + sL) c4).ownBlock = (Value.slice AX nx cX).ownBlock ∨ (Value.slice A4 (nx + sL) c4).ownBlock = some w.heap.size) → JrFr b0 o0 n c go p d3 g4 d4 k a0 a → Q .normal a (w4.setCell ⟨go, E, none⟩ (.slice A4 (nx + sL) c4))) :
  wpAnyH Tryz.prog .any ops Q (fun w => Rd w) 20 (List.replicate 20 false).toArray a w1 := by
 have hld : ∀ (w : World) (a : Act), w.cell? ⟨go, E, none⟩ = some (.slice AX nx cX) → Chain.At a 39 (.pointer (some ⟨go, E, none⟩)) → ∀ ty, (execOp a.eval ⟨some 40, .load 46 (.tmp 39), ty, "", #[], none⟩).run Tryz.prog w = .ok (.value (.slice AX nx cX)) w := fun w a q f ty => by
  have e := f
  unfold Chain.At at e
  go_simp
 have tail : ∀ (a : Act) (w : World) (A6 : Option Addr) (c6 : Nat), P1 w A6 c6 → JrFr b0 o0 n c go p d3 g4 d4 k a0 a → Chain.At a 29 (.slice (some ⟨go, 0, none⟩) p d3) → Chain.At a 33 (.int .i64 (E : Int)) → Chain.At a 40 (.slice AX nx cX) → Chain.At a 45 (.slice A6 sL c6) → wpAnyH Tryz.prog .any ops Q (fun w => Rd w) 3 (Ord.upto 17 20).toArray a w := by
  intro a w A6 c6 K1 F f29 f33 f40 f45
  refine Ord.append R (k := 17) (.tmp 40) (.tmp 45) 46 (bs' := (Ord.upto 18 20)) rfl (by kernel_rfl) trivial (F.lt (by decide)) B 50 i0 (.agg #[.int .i32 0, .int .i64 0, .int .i64 0]) 3 24 Tryz.underlying46 hi hz0 hz1 hz2 rfl (by decide) (.slice AX nx cX) nx xs f40.ev (X1 _ _ _ K1).1 A6 sL c6 news f45.ev _ (X1 _ _ _ K1).2.1 h1 hm hm2 (X1 _ _ _ K1).2.2 ?_
  intro A4 c4 w4 hown hg hat
  obtain ⟨hR4, ⟨x4, hx4⟩, hf4⟩ := KA _ _ _ _ K1 hg
  refine ⟨hR4, fun a17 N => ?_⟩
  have F2 := F.next N (by decide)
  have g29 := N.keep 29 _ (by decide) f29
  have g33 := N.keep 33 _ (by decide) f33
  have g46 := N.got
  refine Ord.value R (k := 18) (v := .pointer (some ⟨go, E, none⟩)) (bs' := (Ord.upto 19 20)) rfl (by kernel_rfl) trivial hR4 (fun ty => by have e1 := g29; have e2 := g33; unfold Chain.At at e1 e2; have q0 := hE0; have q1 := hEp; clear F F2; go_simp) (F2.lt (by decide)) fun a18 N2 => ?_
  have F3 := F2.next N2 (by decide)
  have k46 := N2.keep 46 _ (by decide) g46
  have k47 := N2.got
  refine Ord.effect R (k := 19) (bs' := (Ord.upto 20 20)) rfl (by kernel_rfl) trivial (ks _ _ hR4) (w1 := w4.setCell ⟨go, E, none⟩ (.slice A4 (nx + sL) c4)) (fun ty => ?_) ?_
  ·have q0 := hx4
   have q1 := hf4
   have e1 := k46
   have e2 := k47
   unfold Chain.At at e1 e2
   clear F F2 F3
   go_simp
  ·exact Ord.finish R (by kernel_rfl) (h _ _ _ _ _ _ _ K1 hown hg hat F3)
 refine Ord.take R (k := 0) (v := .slice (some ⟨go, 0, none⟩) p d3) (bs' := (Ord.upto 1 20)) rfl (by kernel_rfl) hQ trivial hS (fun w _ hS => Chain.ev_move F.s3.ev) (F.lt (by decide)) fun a0 N => ?_
 replace F := F.next N (by decide)
 have f29 := N.got
 clear N a
 refine Ord.take R (k := 1) (v := .slice (some ⟨g4, 0, none⟩) n d4) (bs' := (Ord.upto 2 20)) rfl (by kernel_rfl) hQ trivial hS (fun w _ hS => Chain.ev_move F.s4.ev) (F.lt (by decide)) fun a1 N => ?_
 replace F := F.next N (by decide)
 replace f29 := N.keep 29 _ (by decide) f29
 have f30 := N.got
 clear N a0
 refine Ord.take R (k := 2) (v := .int .i64 (k : Int)) (bs' := (Ord.upto 3 20)) rfl (by kernel_rfl) hQ trivial hS (fun w _ hS => Chain.ev_move F.s6.ev) (F.lt (by decide)) fun a2 N => ?_
 replace F := F.next N (by decide)
 replace f29 := N.keep 29 _ (by decide) f29
 replace f30 := N.keep 30 _ (by decide) f30
 have f31 := N.got
 clear N a1
 refine Ord.take R (k := 3) (v := .pointer (some ⟨g4, k, none⟩)) (bs' := (Ord.upto 4 20)) rfl (by kernel_rfl) hQ trivial hS (fun w _ hS => by have e30 := f30; unfold Chain.At at e30; have e31 := f31; unfold Chain.At at e31; have q0 := hk0; have q1 := hkn; clear F; go_simp) (F.lt (by decide)) fun a3 N => ?_
 replace F := F.next N (by decide)
 replace f29 := N.keep 29 _ (by decide) f29
 clear f30
 clear f31
 have f32 := N.got
 clear N a2
 refine Ord.take R (k := 4) (v := .int .i64 (E : Int)) (bs' := (Ord.upto 5 20)) rfl (by kernel_rfl) hQ trivial hS (fun w _ hS => by have e32 := f32; unfold Chain.At at e32; have q0 := (k0 w hS); clear F; go_simp) (F.lt (by decide)) fun a4 N => ?_
 replace F := F.next N (by decide)
 replace f29 := N.keep 29 _ (by decide) f29
 clear f32
 have f33 := N.got
 clear N a3
 refine Ord.take R (k := 5) (v := .slice (some ⟨go, 0, none⟩) p d3) (bs' := (Ord.upto 6 20)) rfl (by kernel_rfl) hQ trivial hS (fun w _ hS => Chain.ev_move F.s3.ev) (F.lt (by decide)) fun a5 N => ?_
 replace F := F.next N (by decide)
 replace f29 := N.keep 29 _ (by decide) f29
 replace f33 := N.keep 33 _ (by decide) f33
 have f34 := N.got
 clear N a4
 refine Ord.take R (k := 6) (v := .slice (some ⟨g4, 0, none⟩) n d4) (bs' := (Ord.upto 7 20)) rfl (by kernel_rfl) hQ trivial hS (fun w _ hS => Chain.ev_move F.s4.ev) (F.lt (by decide)) fun a6 N => ?_
 replace F := F.next N (by decide)
 replace f29 := N.keep 29 _ (by decide) f29
 replace f33 := N.keep 33 _ (by decide) f33
 replace f34 := N.keep 34 _ (by decide) f34
 have f35 := N.got
 clear N a5
 refine Ord.take R (k := 7) (v := .int .i64 (k : Int)) (bs' := (Ord.upto 8 20)) rfl (by kernel_rfl) hQ trivial hS (fun w _ hS => Chain.ev_move F.s6.ev) (F.lt (by decide)) fun a7 N => ?_
 replace F := F.next N (by decide)
 replace f29 := N.keep 29 _ (by decide) f29
 replace f33 := N.keep 33 _ (by decide) f33
 replace f34 := N.keep 34 _ (by decide) f34
 replace f35 := N.keep 35 _ (by decide) f35
 have f36 := N.got
 clear N a6
 refine Ord.take R (k := 8) (v := .pointer (some ⟨g4, k, none⟩)) (bs' := (Ord.upto 9 20)) rfl (by kernel_rfl) hQ trivial hS (fun w _ hS => by have e35 := f35; unfold Chain.At at e35; have e36 := f36; unfold Chain.At at e36; have q0 := hk0; have q1 := hkn; clear F; go_simp) (F.lt (by decide)) fun a8 N => ?_
 replace F := F.next N (by decide)
 replace f29 := N.keep 29 _ (by decide) f29
 replace f33 := N.keep 33 _ (by decide) f33
 replace f34 := N.keep 34 _ (by decide) f34
 clear f35
 clear f36
 have f37 := N.got
 clear N a7
 refine Ord.take R (k := 9) (v := .int .i64 (E : Int)) (bs' := (Ord.upto 10 20)) rfl (by kernel_rfl) hQ trivial hS (fun w _ hS => by have e37 := f37; unfold Chain.At at e37; have q0 := (k0 w hS); clear F; go_simp) (F.lt (by decide)) fun a9 N => ?_
 replace F := F.next N (by decide)
 replace f29 := N.keep 29 _ (by decide) f29
 replace f33 := N.keep 33 _ (by decide) f33
 replace f34 := N.keep 34 _ (by decide) f34
 clear f37
 have f38 := N.got
 clear N a8
 refine Ord.take R (k := 10) (v := .pointer (some ⟨go, E, none⟩)) (bs' := (Ord.upto 11 20)) rfl (by kernel_rfl) hQ trivial hS (fun w _ hS => by have e34 := f34; unfold Chain.At at e34; have e38 := f38; unfold Chain.At at e38; have q0 := hE0; have q1 := hEp; clear F; go_simp) (F.lt (by decide)) fun a10 N => ?_
 replace F := F.next N (by decide)
 replace f29 := N.keep 29 _ (by decide) f29
 replace f33 := N.keep 33 _ (by decide) f33
 clear f34
 clear f38
 have f39 := N.got
 clear N a9
 refine Ord.take R (k := 12) (v := .slice (some ⟨b0, o0, none⟩) n c) (bs' := [true, true, true, true, true, true, true, true, true, true, true, false, true, false, false, false, false, false, false, false]) rfl (by kernel_rfl) hQ trivial hS (fun w _ hS => Chain.ev_move F.s0.ev) (F.lt (by decide)) fun a12 N => ?_
 replace F := F.next N (by decide)
 replace f29 := N.keep 29 _ (by decide) f29
 replace f33 := N.keep 33 _ (by decide) f33
 replace f39 := N.keep 39 _ (by decide) f39
 have f41 := N.got
 clear N a10
 refine Ord.take R (k := 13) (v := .int .i64 (k : Int)) (bs' := [true, true, true, true, true, true, true, true, true, true, true, false, true, true, false, false, false, false, false, false]) rfl (by kernel_rfl) hQ trivial hS (fun w _ hS => Chain.ev_move F.s6.ev) (F.lt (by decide)) fun a13 N => ?_
 replace F := F.next N (by decide)
 replace f29 := N.keep 29 _ (by decide) f29
 replace f33 := N.keep 33 _ (by decide) f33
 replace f39 := N.keep 39 _ (by decide) f39
 replace f41 := N.keep 41 _ (by decide) f41
 have f42 := N.got
 clear N a12
 refine Ord.take R (k := 14) (v := .pointer (some ⟨b0, o0 + k * 2, none⟩)) (bs' := [true, true, true, true, true, true, true, true, true, true, true, false, true, true, true, false, false, false, false, false]) rfl (by kernel_rfl) hQ trivial hS (fun w _ hS => by have e41 := f41; unfold Chain.At at e41; have e42 := f42; unfold Chain.At at e42; have q0 := hk0; have q1 := hkn; clear F; go_simp) (F.lt (by decide)) fun a14 N => ?_
 replace F := F.next N (by decide)
 replace f29 := N.keep 29 _ (by decide) f29
 replace f33 := N.keep 33 _ (by decide) f33
 replace f39 := N.keep 39 _ (by decide) f39
 clear f41
 clear f42
 have f43 := N.got
 clear N a13
 refine Ord.take R (k := 15) (v := .agg #[.slice rA rn rc, .bool rb]) (bs' := [true, true, true, true, true, true, true, true, true, true, true, false, true, true, true, true, false, false, false, false]) rfl (by kernel_rfl) hQ trivial hS (fun w _ hS => by have e43 := f43; unfold Chain.At at e43; have q0 := (ka w hS); have q1 := (kb w hS); clear F; go_simp) (F.lt (by decide)) fun a15 N => ?_
 replace F := F.next N (by decide)
 replace f29 := N.keep 29 _ (by decide) f29
 replace f33 := N.keep 33 _ (by decide) f33
 replace f39 := N.keep 39 _ (by decide) f39
 clear f43
 have f44 := N.got
 clear N a14
 refine Ord.either R (i := 11) (j := 16) (bs1 := [true, true, true, true, true, true, true, true, true, true, true, true, true, true, true, true, false, false, false, false]) (bs2 := [true, true, true, true, true, true, true, true, true, true, true, false, true, true, true, true, true, false, false, false]) (by kernel_rfl) ?_ ?_
 ·refine Ord.step_value R (k := 11) rfl trivial hS (hld w1 _ kx f39) (F.lt (by decide)) fun a16 N => ?_
  have G := F.next N (by decide)
  have g29 := N.keep 29 _ (by decide) f29
  have g33 := N.keep 33 _ (by decide) f33
  have g44 := N.keep 44 _ (by decide) f44
  have g40 := N.got
  refine Ord.call R (k := 16) (bs' := (Ord.upto 17 20)) (args := #[.agg #[.slice rA rn rc, .bool rb]]) rfl (by kernel_rfl) trivial (by simp [g44.ev]) (by kernel_rfl) C1 (G.lt (by decide)) ?_
  rintro e w ⟨A6, c6, rfl, K1⟩
  refine ⟨_, rfl, KS1 _ _ _ K1, fun a17 N2 => ?_⟩
  exact tail _ _ _ _ K1 (G.next N2 (by decide)) (N2.keep 29 _ (by decide) g29) (N2.keep 33 _ (by decide) g33) (N2.keep 40 _ (by decide) g40) N2.got
 ·refine Ord.step_call R (k := 16) (args := #[.agg #[.slice rA rn rc, .bool rb]]) rfl trivial (by simp [f44.ev]) (by kernel_rfl) C1 (F.lt (by decide)) ?_
  rintro e w ⟨A6, c6, rfl, K1⟩
  refine ⟨_, rfl, KS1 _ _ _ K1, fun a16 N => ?_⟩
  have G := F.next N (by decide)
  have g29 := N.keep 29 _ (by decide) f29
  have g33 := N.keep 33 _ (by decide) f33
  have g39 := N.keep 39 _ (by decide) f39
  have g45 := N.got
  refine Ord.value R (k := 11) (bs' := (Ord.upto 17 20)) rfl (by kernel_rfl) trivial (KS1 _ _ _ K1) (hld w _ (KX _ _ _ K1) g39) (G.lt (by decide)) fun a17 N2 => ?_
  exact tail _ _ _ _ K1 (G.next N2 (by decide)) (N2.keep 29 _ (by decide) g29) (N2.keep 33 _ (by decide) g33) N2.got (N2.keep 45 _ (by decide) g45)
end Ln
end Go.Proofs.YtgmijnnhanpocaaGreatDoor
