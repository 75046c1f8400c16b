/-
  The function that line.signs hands out tells the cells of rows in which a sign stands. line.parts, line.signs; line.joined: the line of the rows of one. line.Join: its round's last statement, step by step. line.Join: the lines of rows. cell.Line of any cells. The statements' own rows: of those that were drawn, not too many, each in memory of its own. Rows of one width, each in a block of its own, all apart: a cell put into one of them, one that goes on, one more.
-/
import Derived.Test.YtjhmndmnhkbigaaGreatDoorQWLine0
import Derived.Test.YtjhmndmnhkbigaaGreatDoorQWBase0
import Derived.Lib.OthersKept
import Derived.Test.YtjhmndmnhkbigaaGreatDoorQWBase2
import Derived.Test.YtjhmndmnhkbigaaGreatDoorQWRow0
namespace Go.Proofs.YtjhmndmnhkbigaaGreatDoor
open Go.ChangeShapes Go.WideShapes Go.ChangeAt Go.RowKit
namespace Ln
open Rw
attribute [local go_sem] Oper.semAt_some
def signsFrom (i : Nat) : Nat → List Cel → List Pl
 | _, [] => []
 | col, c :: l => (if signC c then [((i, col), c)] else []) ++ signsFrom i (col + 1) l
def signsRow (i : Nat) (r : LR) : List Pl := if mayL r.2 then signsFrom i 0 r.2 else []
def signsAll : Nat → List LR → List Pl
 | _, [] => []
 | i, r :: rs => signsRow i r ++ signsAll (i + 1) rs
theorem signsFrom_append (i : Nat) : ∀ (a b : List Cel) (col : Nat), signsFrom i col (a ++ b) = signsFrom i col a ++ signsFrom i (col + a.length) b
 | [], _, _ => rfl
 | c :: a, b, col => by
  rw [List.cons_append, signsFrom, signsFrom, signsFrom_append i a b (col + 1), List.append_assoc, List.length_cons, show col + 1 + a.length = col + (a.length + 1) by omega]
theorem signsAll_append : ∀ (a b : List LR) (i : Nat), signsAll i (a ++ b) = signsAll i a ++ signsAll (i + a.length) b
 | [], _, _ => rfl
 | r :: a, b, i => by
  rw [List.cons_append, signsAll, signsAll, signsAll_append a b (i + 1), List.append_assoc, List.length_cons, show i + 1 + a.length = i + (a.length + 1) by omega]
theorem signsFrom_cells (i : Nat) : ∀ (l : List Cel) (col : Nat), (signsFrom i col l).map (·.2) = l.filter signC
 | [], _ => rfl
 | c :: l, col => by
  rw [signsFrom, List.map_append, signsFrom_cells i l (col + 1), List.filter_cons]
  cases signC c <;> simp
theorem signsAll_cells : ∀ (rs : List LR) (i : Nat), (signsAll i rs).map (·.2) = rs.flatMap cellsR
 | [], _ => rfl
 | r :: rs, i => by
  rw [signsAll, List.map_append, signsAll_cells rs (i + 1), List.flatMap_cons]
  congr 1
  unfold signsRow cellsR
  split
  ·exact signsFrom_cells i _ 0
  ·rfl
theorem signsFrom_le (i : Nat) : ∀ (l : List Cel) (col : Nat), (signsFrom i col l).length ≤ l.length
 | [], _ => Nat.le_refl _
 | c :: l, col => by
  have := signsFrom_le i l (col + 1)
  rw [signsFrom, List.length_append, List.length_cons]
  split <;> simp <;> omega
theorem signsRow_le (i : Nat) (r : LR) : (signsRow i r).length ≤ 300 := by
 unfold signsRow
 split
 ·rename_i h
  have := signsFrom_le i r.2 0
  unfold mayL at h
  rw [Bool.and_eq_true, decide_eq_true_eq] at h
  omega
 ·simp
theorem signsAll_le : ∀ (rs : List LR) (i : Nat), (signsAll i rs).length ≤ 300 * rs.length
 | [], _ => Nat.le_refl _
 | r :: rs, i => by
  have := signsAll_le rs (i + 1)
  have := signsRow_le i r
  rw [signsAll, List.length_append, List.length_cons]
  omega
def told (rs : List LR) (i col : Nat) (l : List Cel) : Nat := (signsAll 0 (rs.take i)).length + (signsFrom i 0 (l.take col)).length
theorem told_pre {rs : List LR} {i : Nat} {r : LR} (h : rs[i]? = some r) (hm : mayL r.2 = true) (k : Nat) : ∃ t, signsAll 0 rs = (signsAll 0 (rs.take i) ++ signsFrom i 0 (r.2.take k)) ++ t := by
 have hi := (List.getElem?_eq_some_iff.1 h).1
 have e : rs = rs.take i ++ (r :: rs.drop (i + 1)) := by
  conv => lhs; rw [← List.take_append_drop i rs]
  rw [List.drop_eq_getElem_cons hi, (List.getElem?_eq_some_iff.1 h).2]
 have e2 : signsRow i r = signsFrom i 0 (r.2.take k) ++ signsFrom i (0 + (r.2.take k).length) (r.2.drop k) := by
  unfold signsRow
  rw [if_pos hm, ← signsFrom_append, List.take_append_drop]
 have e3 : (rs.take i).length = i := by rw [List.length_take]; omega
 refine ⟨signsFrom i (0 + (r.2.take k).length) (r.2.drop k) ++ signsAll (i + 1) (rs.drop (i + 1)), ?_⟩
 conv => lhs; rw [e]
 rw [signsAll_append, e3, Nat.zero_add, signsAll, e2]
 simp only [List.append_assoc]
theorem told_next {r : LR} {i col : Nat} {c : Cel} (rs : List LR) (h : r.2[col]? = some c) : told rs i (col + 1) r.2 = told rs i col r.2 + if signC c then 1 else 0 := by
 unfold told
 have hl : (r.2.take col).length = col := by rw [List.length_take]; have := (List.getElem?_eq_some_iff.1 h).1; omega
 rw [take_one h, signsFrom_append, List.length_append, signsFrom, signsFrom]
 cases signC c <;> simp
 omega
theorem told_get {rs : List LR} {r : LR} {i col : Nat} {c : Cel} (hr : rs[i]? = some r) (hm : mayL r.2 = true) (h : r.2[col]? = some c) (hs : signC c = true) : (signsAll 0 rs)[told rs i col r.2]? = some ((i, col), c) := by
 obtain ⟨t, e⟩ := told_pre hr hm (col + 1)
 have hl : (r.2.take col).length = col := by rw [List.length_take]; have := (List.getElem?_eq_some_iff.1 h).1; omega
 rw [e, take_one h, signsFrom_append, hl, Nat.zero_add, signsFrom, signsFrom, if_pos hs, List.append_nil, List.getElem?_append_left (by unfold told; simp), List.getElem?_append_right (by unfold told; omega), show told rs i col r.2 - (signsAll 0 (rs.take i)).length = (signsFrom i 0 (r.2.take col)).length by unfold told; omega, List.getElem?_append_right (Nat.le_refl _), Nat.sub_self]
 rfl
theorem told_row {rs : List LR} {r : LR} {i : Nat} (hr : rs[i]? = some r) (hm : mayL r.2 = true) : told rs i r.2.length r.2 = (signsAll 0 (rs.take (i + 1))).length := by
 have hi := (List.getElem?_eq_some_iff.1 hr).1
 unfold told
 rw [take_one hr, signsAll_append, List.length_append, List.take_length, signsAll, signsAll, List.append_nil, Nat.zero_add, show (rs.take i).length = i by rw [List.length_take]; omega]
 unfold signsRow
 rw [if_pos hm]
theorem told_none {rs : List LR} {r : LR} {i : Nat} (hr : rs[i]? = some r) (hm : mayL r.2 = false) : (signsAll 0 (rs.take (i + 1))).length = (signsAll 0 (rs.take i)).length := by
 rw [take_one hr, signsAll_append, List.length_append, signsAll, signsAll, List.append_nil]
 unfold signsRow
 rw [hm]
 simp
def FitS (L : List Pl) (k : Nat) (x : Array Value) (_ : World) : Prop := ∃ y : Pl, L[k]? = some y ∧ x = #[.agg #[.int .i64 (y.1.1 : Int), .int .i64 (y.1.2 : Int)], cellV y.2.1 y.2.2.1 y.2.2.2]
set_option maxRecDepth 100000 in
set_option maxHeartbeats 6400000 in
theorem signs_tells {S Bx : Nat} {A : Option Addr} {n c : Nat} {rs : List RowIn} {Kp : World → World → Prop} {w : World} (h : PSrc S Bx A n c rs w) (hKp : ∀ A B, Kp A B → Leaves S Bx A B) (hn : n ≤ 1000000) :
  Tells Tryz.prog 114 #[.pointer (some ⟨Bx, 0, none⟩)] (signsAll 0 (rs.map lr)).length (FitS (signsAll 0 (rs.map lr))) Kp w := by
 intro l J Jx W hL hJ hJx hY h0
 obtain ⟨N, hN⟩ : ∃ N, (signsAll 0 (rs.map lr)).length = N := ⟨_, rfl⟩
 have P0 := Lib.hid (h.laid hL)
 have J0 := Lib.hid h0
 have c0 : W.cell? ⟨Bx, 0, none⟩ = some (.slice A n c) := cell_of_row _ _ 0 _ _ (0, 0) (h.laid hL).box
 have YH := Lib.hid hY
 have JH := Lib.hid (And.intro hJ hJx)
 have KH := Lib.hid hKp
 have NH := Lib.hid hN
 have RL := Lib.hid (show (rs.map lr).length = n from by rw [List.length_map]; exact h.rows.len)
 rw [hN] at YH ⊢
 clear hY hJ hJx hKp hN h hL h0
 refine callsIn_of_wp Tryz.func114 rfl trivial ?_ rfl
 simp only [Tryz.ntmps114, List.size_toArray, List.length_cons, List.length_nil, Nat.reduceAdd, Nat.reduceSub, Array.replicate_succ, Array.replicate_zero, List.push_toArray, List.append_toArray, List.nil_append, List.cons_append]
 gi_wp2
 gi_loopw [9] (fun t wr => ∃ i : Nat, t = .int .i64 i ∧ i ≤ n ∧ Hid (PSrc S Bx A n c rs wr) ∧ Hid (J (signsAll 0 ((rs.map lr).take i)).length wr)) (fun t _ => n - (intOf t).toNat)
 case atStart => exact ⟨0, rfl, Nat.zero_le _, P0, J0⟩
 case round =>
  obtain ⟨i, rfl, hi, P, JJ⟩ := hrel
  clear P0 J0 c0
  by_cases hlt : i < n
  ·obtain ⟨r, hr⟩ : ∃ r, rs[i]? = some r := ⟨_, List.getElem?_eq_getElem (by rw [P.out.rows.len]; exact hlt)⟩
   obtain ⟨rA, rn, rc, rw', rl⟩ := r
   obtain ⟨b, off, rfl, hb, q0, q1⟩ := rows_at P.out.rows.sq hr hlt
   have hlr : (rs.map lr)[i]? = some (rw', rl) := by rw [List.getElem?_map, hr]; rfl
   have HR := Lib.hid hr
   have HLR := Lib.hid hlr
   have bb : Laid wr (wr.alloc (.cells #[.slice rA rn rc, .bool rw'] 48)) := (Below.refl _ _).alloc (Nat.le_refl _) _
   have RO := Lib.hid (P.out.rows.each ⟨rA, rn, rc, rw', rl⟩ (List.mem_of_getElem? hr))
   obtain ⟨g, hg⟩ : ∃ g, mayL rl = g := ⟨_, rfl⟩
   have GO := Lib.hid (packMay_any rA rn rc rw' rl _ (P.out.laid bb).sp RO.out.signs ((RO.out.sq.below (bb.mono P.out.big)).up (Nat.le_trans P.out.big bb.size)))
   rw [hg] at GO
   have HG := Lib.hid hg
   have P3 := Lib.hid (P.out.laid bb)
   have J3 := Lib.hid (JH.out.1 _ _ _ JJ.out bb)
   have Q3 := Lib.hid (heap_alloc_new wr (.cells #[.slice rA rn rc, .bool rw'] 48))
   clear bb hg hr hlr
   cases g
   ·have NX := Lib.hid (told_none HLR.out HG.out)
    gi_wp2_with (refine ⟨trivial, ?_⟩; gi_at_call 113; refine (callsIn_wide.2 GO.out).mono ?_; rintro e w3 ⟨rfl, b3⟩; (have P4 := Lib.hid (P3.out.laid b3)); (have J4 := Lib.hid (JH.out.1 _ _ _ J3.out b3)); clear b3 P3 J3 GO q0 q1 Q3)
    go_roundw
    case rel => exact ⟨i + 1, by go_num, by omega, P4, Lib.hid (by rw [NX.out]; exact J4.out)⟩
    case measure => simp [intOf]; omega
   ·gi_wp2_with (refine ⟨trivial, ?_⟩; gi_at_call 113; refine (callsIn_wide.2 GO.out).mono ?_; rintro e w3 ⟨rfl, b3⟩; (have P4 := Lib.hid (P3.out.laid b3)); (have J4 := Lib.hid (JH.out.1 _ _ _ J3.out b3)); (have k0 : w3.cell? ⟨wr.heap.size, 0, none⟩ = some (.slice rA rn rc) := cell_of_row _ _ 0 _ _ (0, 0) ((b3.block _ (by simp)).trans Q3.out)); clear b3 P3 J3 GO q0 q1 Q3)
    have K0 := Lib.hid (show J (told (rs.map lr) i 0 rl) w3 from by unfold told; exact J4.out)
    have RN := Lib.hid (show rl.length = rn from by have := RO.out.sq.len; rw [flat_length] at this; show rl.length = rn; simp only at this; omega)
    have hrn : rn ≤ 300 := by
     have h1 := HG.out
     unfold mayL at h1
     rw [Bool.and_eq_true, decide_eq_true_eq] at h1
     have := RN.out
     omega
    clear J4
    gi_loopw [20] (fun t wx => ∃ col : Nat, t = .int .i64 col ∧ col ≤ rn ∧ Hid (PSrc S Bx (some ⟨b, off, none⟩) n c rs wx) ∧ Hid (J (told (rs.map lr) i col rl) wx)) (fun t _ => rn - (intOf t).toNat)
    case atStart => exact ⟨0, rfl, Nat.zero_le _, P4, K0⟩
    case round =>
     obtain ⟨col, rfl, hcol, P5, J5⟩ := hrel
     clear P4 K0 k0 P JJ
     by_cases hlc : col < rn
     ·obtain ⟨b', off', rfl, hb', ⟨x, m, a⟩, hcc, q0, q1, q2⟩ := (P5.out.rows.each _ (List.mem_of_getElem? HR.out)).sq.three hlc
      have HC := Lib.hid hcc
      have bb : Laid wr (wr.alloc (.cells #[.int .i32 x, .int .i64 m, .int .i64 a] 52)) := (Below.refl _ _).alloc (Nat.le_refl _) _
      have P6 := Lib.hid (P5.out.laid bb)
      have J6 := Lib.hid (JH.out.1 _ _ _ J5.out bb)
      have NX := Lib.hid (told_next (r := (rw', rl)) (i := i) (rs.map lr) HC.out)
      simp only at NX
      by_cases hm0 : m = 0
      ·subst hm0
       rw [show signC (x, 0, a) = false by simp [signC]] at NX
       clear bb P5 J5 hcc
       gi_wp2_with fail
       refine ⟨trivial, ?_⟩
       gi_wp2_with fail
       go_roundw
       case rel => exact ⟨col + 1, by go_num, by omega, P6, Lib.hid (by rw [NX.out]; exact J6.out)⟩
       case measure => simp [intOf]; omega
      ·have hm1 : (m == 0) = false := by simpa using hm0
       obtain ⟨p, hp⟩ : ∃ p, isB 0 x m a = p := ⟨_, rfl⟩
       have PC := Lib.hid (isPad_walk x m a)
       have TG := Lib.hid (fun h => told_get (r := (rw', rl)) (i := i) HLR.out HG.out HC.out h)
       rw [show signC (x, m, a) = !p by simp [signC, padC, hm1, hp]] at NX TG
       rw [hp] at PC
       have Q6 := Lib.hid (heap_alloc_new wr (.cells #[.int .i32 x, .int .i64 m, .int .i64 a] 52))
       clear bb P5 J5 hcc hp
       cases p
       ·have KL := Lib.hid (show told (rs.map lr) i col rl < N from by
         rw [← NH.out]
         exact (List.getElem?_eq_some_iff.1 (TG.out rfl)).1)
        have FT := Lib.hid (show ∀ W, FitS (signsAll 0 (rs.map lr)) (told (rs.map lr) i col rl) #[.agg #[.int .i64 (i : Int), .int .i64 (col : Int)], cellV x m a] W from fun W => ⟨_, TG.out rfl, rfl⟩)
        gi_wp2_with (refine ⟨trivial, ?_⟩; gi_at_call 115; refine (callsIn_wide.2 (PC.out _)).mono ?_; rintro e w4 ⟨rfl, b4⟩; (have P7 := Lib.hid (P6.out.laid b4)); (have J7 := Lib.hid (JH.out.1 _ _ _ J6.out b4)); (have Q7 := Lib.hid ((b4.block _ (by simp)).trans Q6.out)); (have k0 : w4.cell? ⟨wr.heap.size, 0, none⟩ = some (.int .i32 x) := cell_of_row _ _ 0 _ _ (0, 0) Q7.out); (have k1 : w4.cell? ⟨wr.heap.size, 1, none⟩ = some (.int .i64 m) := cell_of_row _ _ 1 _ _ (0, 0) Q7.out); (have k2 : w4.cell? ⟨wr.heap.size, 2, none⟩ = some (.int .i64 a) := cell_of_row _ _ 2 _ _ (0, 0) Q7.out); (obtain ⟨fn, tmps, assign, body, hy, hR⟩ := YH.out _ _ _ KL.out J7.out (FT.out _)); (have RR := Lib.hid hR); clear b4 P6 J6 q0 q1 q2 Q6 PC hR J7)
        refine RR.out.mono ?_
        rintro e W5 (⟨rfl, hJ5, hk5⟩ | ⟨rfl, hJx5⟩)
        ·have P8 := Lib.hid (P7.out.kept (KH.out _ _ hk5))
         have J8 := Lib.hid hJ5
         clear hJ5 hk5 hy RR P7 FT TG Q7 k0 k1 k2
         gi_wp2
         go_roundw
         case rel => exact ⟨col + 1, by go_num, by omega, P8, Lib.hid (by rw [NX.out]; exact J8.out)⟩
         case measure => simp [intOf]; omega
        ·have DX := Lib.hid hJx5
         clear hJx5 hy RR P7 FT TG Q7 k0 k1 k2
         gi_wp2
         refine bodyPost_ret (results_none rfl _ _ _) rfl ?_
         exact ⟨⟨_, rfl⟩, .inr ⟨_, KL.out, DX.out⟩⟩
       ·gi_wp2_with (refine ⟨trivial, ?_⟩; gi_at_call 115; refine (callsIn_wide.2 (PC.out _)).mono ?_; rintro e w4 ⟨rfl, b4⟩; (have P7 := Lib.hid (P6.out.laid b4)); (have J7 := Lib.hid (JH.out.1 _ _ _ J6.out b4)); clear b4 P6 J6 q0 q1 q2 Q6 PC TG)
        go_roundw
        case rel => exact ⟨col + 1, by go_num, by omega, P7, Lib.hid (by rw [NX.out]; exact J7.out)⟩
        case measure => simp [intOf]; omega
     ·obtain rfl : col = rn := by omega
      have E := Lib.hid (show told (rs.map lr) i rl.length rl = (signsAll 0 ((rs.map lr).take (i + 1))).length from told_row HLR.out HG.out)
      have J9 := Lib.hid (show J (signsAll 0 ((rs.map lr).take (i + 1))).length wr from by
       rw [← E.out, RN.out]
       exact J5.out)
      clear J5 E
      gi_wp2
      go_roundw
      case rel => exact ⟨i + 1, by go_num, by omega, P5, J9⟩
      case measure => simp [intOf]; omega
  ·obtain rfl : i = n := by omega
   have DN := Lib.hid (show J N wr from by have := JJ.out; rwa [List.take_of_length_le (by rw [RL.out]; exact Nat.le_refl _), NH.out] at this)
   gi_wp2
   go_end0
   exact ⟨⟨_, rfl⟩, .inl DN.out⟩
end Ln
end Go.Proofs.YtjhmndmnhkbigaaGreatDoor
namespace Go.Proofs.YtjhmndmnhkbigaaGreatDoor
open Go.ChangeShapes Go.WideShapes Go.ChangeAt Go.RowKit
namespace Ln
open Rw
attribute [local go_sem] Oper.semAt_some
set_option maxRecDepth 100000 in
theorem parts_walk (A : Option Addr) (n c : Nat) (w : World) : Calls Tryz.prog 40 #[.slice A n c] w fun e w' => e = .returned (.func (.func 75) #[] #[.pointer (some ⟨w.heap.size, 0, none⟩)]) ∧ w' = w.alloc (.cells #[.slice A n c] 22) := by
 go_enter Tryz.func40, Tryz.ntmps40
 go_wp2
 go_ret
 exact ⟨rfl, rfl⟩
set_option maxRecDepth 100000 in
theorem signs_walk (A : Option Addr) (n c : Nat) (w : World) : Calls Tryz.prog 77 #[.slice A n c] w fun e w' => e = .returned (.func (.func 114) #[] #[.pointer (some ⟨w.heap.size, 0, none⟩)]) ∧ w' = w.alloc (.cells #[.slice A n c] 22) := by
 go_enter Tryz.func77, Tryz.ntmps77
 go_wp2
 go_ret
 exact ⟨rfl, rfl⟩
theorem own_keep {w w' : World} {base : Nat} {e : TypeId} {size n : Nat} {v : Value} {xs : List Value} (h : w.ownsRow base e size v n xs) (hk : ∀ k, v.ownBlock = some k → w'.heap[k]? = w.heap[k]?) : w'.ownsRow base e size v n xs := by
 refine ⟨h.1, ?_⟩
 rcases h.2 with e1 | ⟨g, cap, cur, rfl, hb, hg, r⟩
 ·exact .inl e1
 ·exact .inr ⟨g, cap, cur, rfl, hb, (hk g rfl).trans hg, r⟩
theorem own_down {w : World} {base base' : Nat} {e : TypeId} {size n : Nat} {v : Value} {xs : List Value} (h : w.ownsRow base e size v n xs) (hb : base' ≤ base) : w.ownsRow base' e size v n xs := by
 refine ⟨h.1, ?_⟩
 rcases h.2 with e1 | ⟨g, cap, cur, rfl, h2, r⟩
 ·exact .inl e1
 ·exact .inr ⟨g, cap, cur, rfl, Nat.le_trans hb h2, r⟩
theorem own_laid {w w' : World} {base : Nat} {e : TypeId} {size n : Nat} {v : Value} {xs : List Value} (h : w.ownsRow base e size v n xs) (hb : Below w.heap.size w w') : w'.ownsRow base e size v n xs := own_keep h fun k hk => hb.block k (h.lt k hk).2
theorem own_cap {w : World} {B : Nat} {e : TypeId} {s n : Nat} {v : Value} {xs : List Value} (h : w.ownsRow B e s v n xs) : ∃ A c, v = .slice A n c ∧ n ≤ c := by
 rcases h.2 with ⟨rfl, h0⟩ | ⟨g, cap, cur, rfl, _, _, hc, _⟩
 ·rw [h0]; exact ⟨_, _, rfl, Nat.le_refl _⟩
 ·exact ⟨_, _, rfl, hc⟩
theorem Leaves.trans {S Bx : Nat} {A B C : World} (h : Leaves S Bx A B) (k : Leaves S Bx B C) : Leaves S Bx A C := ⟨Nat.le_trans h.1 k.1, fun j hj => (k.2 j hj).trans (h.2 j hj)⟩
theorem Leaves.put {S Bx l : Nat} {W : World} (hS : S ≤ l) (hB : Bx < l) (o' : Obj) : Leaves S Bx W (W.putObj l o') :=
 ⟨by simp [World.putObj], fun j hj => World.putObj_heap_other (by rcases hj with hj | rfl <;> omega)⟩
theorem cell_three (w : World) (e : TypeId) (x y z : Value) : ∀ (j : Nat) (u : Value), [x, y, z][j]? = some u → (w.alloc (.cells #[x, y, z] e)).cell? ((⟨w.heap.size, 0, none⟩ : Addr).add j) = some u := by
 intro j u hu
 rw [add_at, Nat.zero_add, cell_of_row _ _ _ _ _ (0, 0) (heap_alloc_new w _)]
 match j, hu with
 | 0, hu => exact hu
 | 1, hu => exact hu
 | 2, hu => exact hu
 | j + 3, hu => simp at hu
structure BoxC (w0 : World) (g B : Nat) (l : List Cel) (W : World) : Prop where
 old : Below w0.heap.size w0 W
 low : w0.heap.size ≤ g
 gB : g < B
 box : ∃ A c, W.heap[g]? = some (.cells #[.slice A l.length c] 41 (0, 0)) ∧ HasC W B (.slice A l.length c) l
namespace BoxC
variable {w0 W W' : World} {g B : Nat} {l : List Cel}
theorem laid (h : BoxC w0 g B l W) (hb : Laid W W') : BoxC w0 g B l W' := by
 obtain ⟨A, c, h1, h2⟩ := h.box
 exact ⟨h.old.trans (hb.mono h.old.size), h.low, h.gB, A, c, (hb.block _ (Array.getElem?_eq_some_iff.1 h1).1).trans h1, own_laid h2 hb⟩
theorem put (h : BoxC w0 g B l W) {j : Nat} {o : Obj} (o' : Obj) (hj : w0.heap.size ≤ j) (ho : W.heap[j]? = some o) (hc : o.isCells = false) : BoxC w0 g B l (W.putObj j o') := by
 obtain ⟨A, c, h1, h2⟩ := h.box
 refine ⟨h.old.trans ⟨rfl, rfl, rfl, by simp, fun k hk => World.putObj_heap_other (by omega)⟩, h.low, h.gB, A, c, (World.putObj_heap_other (fun e => ?_)).trans h1, ownsRow_putObj h2 o' ho hc⟩
 subst e
 rw [h1] at ho
 cases ho
 cases hc
end BoxC
theorem BoxC.snoc {w0 W W' : World} {g B : Nat} {l : List Cel} {y : Cel} {A : Option Addr} {c : Nat} {v' : Value} (h : BoxC w0 g B l W) (hb : W.heap[g]? = some (.cells #[.slice A l.length c] 41 (0, 0)))
  (ho : W'.ownsRow B 52 3 v' (l.length + 1) (flat l ++ [.int .i32 y.1, .int .i64 y.2.1, .int .i64 y.2.2])) (hA : W.ownsRow B 52 3 (.slice A l.length c) l.length (flat l)) (hg : W.grownBy W' (Value.slice A l.length c).ownBlock) :
  BoxC w0 g B (l ++ [y]) (W'.setCell ⟨g, 0, none⟩ v') := by
 have hlt := (Array.getElem?_eq_some_iff.1 hb).1
 have hne : ∀ j, j < B → (Value.slice A l.length c).ownBlock ≠ some j := fun j hj e => by have := (hA.lt j e).1; omega
 have hb' : W'.heap[g]? = _ := (hg.block g hlt (fun e => hne g h.gB e.symm)).trans hb
 obtain ⟨A', c', rfl, hc'⟩ := own_cap ho
 have e : flat (l ++ [y]) = flat l ++ [.int .i32 y.1, .int .i64 y.2.1, .int .i64 y.2.2] := by rw [flat_append]; rfl
 refine ⟨?_, h.low, h.gB, A', c', ?_, ?_⟩
 ·have h1 : Below w0.heap.size w0 W' := h.old.grown hg h.old.size (fun j e => by have h1 := (hA.lt j e).1; have := h.low; have := h.gB; omega)
  exact h1.setCell (p := ⟨g, 0, none⟩) h.low _
 ·rw [List.length_append, List.length_singleton]
  have := heap_setCell_same W' g 0 _ _ (.slice A' (l.length + 1) c') hb'
  simpa using this
 ·unfold HasC
  rw [e, List.length_append, List.length_singleton]
  refine own_keep ho fun k hk => Below.heap_setCell _ _ _ _ ?_
  have := (ho.lt k hk).1
  have := h.gB
  show k ≠ g
  omega
theorem keeps_grown {W W' : World} {row : Option Nat} {B : Nat} (hg : W.grownBy W' row) (hrow : ∀ j, row = some j → ∃ o, W.heap[j]? = some o ∧ o.isCells = true) : KeepsFrom B W W' :=
 ⟨hg.size, fun k _ _ hk ho => (hg.block k (Array.getElem?_eq_some_iff.1 hk).1 (fun e => by
  obtain ⟨o', h1, h2⟩ := hrow k e.symm
  rw [hk] at h1
  cases h1
  rw [ho] at h2
  cases h2)).trans hk⟩
theorem keeps_laid {W W' : World} {B : Nat} (h : Laid W W') : KeepsFrom B W W' := ⟨h.size, fun k _ _ hk _ => (h.block k (Array.getElem?_eq_some_iff.1 hk).1).trans hk⟩
theorem own_isCells {w : World} {base : Nat} {e : TypeId} {size n : Nat} {v : Value} {xs : List Value} (h : w.ownsRow base e size v n xs) : ∀ j, v.ownBlock = some j → ∃ o, w.heap[j]? = some o ∧ o.isCells = true := by
 intro j hj
 rcases h.2 with ⟨rfl, _⟩ | ⟨g, cap, cur, rfl, _, hg, _⟩
 ·cases hj
 ·injection hj with hj
  subst hj
  exact ⟨_, hg, rfl⟩
def snds (L : List Pl) : List Cel := L.map fun y => y.2
theorem snds_cells (rs : List LR) : rs.flatMap cellsR = snds (signsAll 0 rs) := (signsAll_cells rs 0).symm
theorem snds_next {L : List Pl} {k : Nat} {y : Pl} (h : L[k]? = some y) : snds (L.take (k + 1)) = snds (L.take k) ++ [y.2] := by unfold snds; rw [take_one h, List.map_append]; rfl
theorem fits_in {N k : Nat} (h : N ≤ 300000000) (hk : k < N) : k + 1 ≤ maxLen ∧ (k + 1) * 24 ≤ 140737488355328 := by unfold maxLen; omega
set_option maxRecDepth 100000 in
set_option maxHeartbeats 6400000 in
theorem joined_walk (A : Option Addr) (n c : Nat) (rs : List RowIn) (w : World) (hs : Spans w) (hr : Rws w w.heap.size A n rs) (hn : n ≤ 1000000) :
  Calls Tryz.prog 41 #[.slice A n c] w fun e w' => TrimPost ((rs.map lr).flatMap cellsR) w e w' := by
 obtain ⟨i0, hi0, hz0, hz1, hz2⟩ := info_parts infoCell
 obtain ⟨S, hS⟩ : ∃ S, w.heap.size = S := ⟨_, rfl⟩
 obtain ⟨L, hL⟩ : ∃ L, signsAll 0 (rs.map lr) = L := ⟨_, rfl⟩
 have hcells : (rs.map lr).flatMap cellsR = snds L := by rw [← hL]; exact snds_cells _
 have hLn : L.length ≤ 300000000 := by
  have h1 := signsAll_le (rs.map lr) 0
  rw [hL, List.length_map, hr.len] at h1
  omega
 have hsp : 0 < S := by rw [← hS]; exact hs.size
 obtain ⟨w1, hw1⟩ : ∃ w1, w.alloc (.cells #[.slice none 0 0] 41) = w1 := ⟨_, rfl⟩
 have b1 : Below w.heap.size w w1 := by rw [← hw1]; exact (Below.refl _ _).alloc (Nat.le_refl _) _
 have z1 : w1.heap.size = S + 1 := by rw [← hw1, ← hS]; simp
 obtain ⟨w2, hw2⟩ : ∃ w2, w1.alloc (.cells #[.slice A n c] 22) = w2 := ⟨_, rfl⟩
 have b2 : Laid w1 w2 := by rw [← hw2]; exact (Below.refl _ _).alloc (Nat.le_refl _) _
 have z2 : w2.heap.size = S + 2 := by rw [← hw2]; simp [z1]
 have h0 : BoxC w S (S + 2) [] w2 := by
  refine ⟨b1.trans (b2.mono b1.size), by rw [hS]; exact Nat.le_refl _, by omega, none, 0, (b2.block S (by omega)).trans ?_, World.ownsRow_nil _ _ _ _⟩
  rw [← hw1, ← hS]
  exact heap_alloc_new w _
 have hps : PSrc S (S + 1) A n c rs w2 := by
  refine ⟨hs.below h0.old hs.size, hsp, ?_, ?_, by omega⟩
  ·rw [← hw2, ← z1]
   exact heap_alloc_new w1 _
  ·have := hr.below h0.old
   rw [hS] at this
   exact this
 have TL := Lib.hid (signs_tells (Kp := Leaves S (S + 1)) hps (fun _ _ h => h) hn)
 rw [hL] at TL
 have SW := Lib.hid (signs_walk A n c w1)
 rw [hw2, z1] at SW
 have H0 := Lib.hid h0
 have HW := Lib.hid hw1
 have HS := Lib.hid hS
 have Z2 := Lib.hid z2
 have HL := Lib.hid hLn
 rw [hcells]
 clear hr hs hps h0 b1 b2 hw1 hw2 z1 z2 hL hcells hsp hLn
 refine (callsIn_wide (n := 3)).1 (callsIn_of_wp_marks Tryz.func41 rfl trivial ?_ rfl)
 simp only [Tryz.ntmps41, List.size_toArray, List.length_cons, List.length_nil, Nat.reduceAdd, Nat.reduceSub, Array.replicate_succ, Array.replicate_zero, List.push_toArray, List.append_toArray, List.nil_append, List.cons_append]
 refine wpIn_wide.2 ?_
 go_wp2_with fail
 rw [HW.out]
 refine SW.out.mono ?_
 rintro e w' ⟨rfl, rfl⟩
 go_wp2_with fail
 refine wp_over (Fit := FitS L) (Kp := Leaves S (S + 1)) (N := L.length) (gf := 114) (lb := #[.pointer (some ⟨S + 1, 0, none⟩)]) rfl (enters_of Tryz.func114 (by kernel_rfl) rfl) TL.out Leaves.trans
  (fun A B hA h => Leaves.laid h (by have := Z2.out; omega) (by have := Z2.out; omega)) (fun W l o o' hl ho hc => Leaves.put (by have := Z2.out; omega) (by have := Z2.out; omega) o') (fun k x W h => by obtain ⟨y, _, rfl⟩ := h; rfl)
  (fun k W => Hid (BoxC w S (S + 2) (snds (L.take k)) W ∧ S + 2 ≤ W.heap.size)) (fun _ _ _ => False)
  (fun k A B h hb => Lib.hid ⟨h.out.1.laid hb, Nat.le_trans h.out.2 hb.size⟩) (fun k W l o o' hl ho hc h => Lib.hid ⟨h.out.1.put o' (by have := Z2.out; have := HS.out; omega) ho hc, by rw [World.putObj_size]; exact h.out.2⟩)
  (fun _ _ _ _ h _ => h) (fun _ _ _ _ _ _ _ _ _ h => h) (Lib.hid ⟨H0.out, by have := Z2.out; omega⟩) ?round ?done (fun _ _ _ _ _ _ h _ => h.elim)
 case round =>
  rintro l2 k2 x W hk2 hl2 ⟨o, ho, hoc⟩ hi ⟨⟨⟨pr, pc⟩, r, m, a⟩, hy, rfl⟩
  have bb : Laid W (W.alloc (.cells #[.int .i32 r, .int .i64 m, .int .i64 a] 52)) := (Below.refl _ _).alloc (Nat.le_refl _) _
  simp only
  gi_wp2
  refine ⟨bb, fun o1 => ?_⟩
  have hS2 : S + 2 ≤ l2 := by have := Z2.out; omega
  have hlt2 : l2 < W.heap.size := (Array.getElem?_eq_some_iff.1 ho).1
  have ho' := (bb.block l2 hlt2).trans ho
  have H2 := Lib.hid ((hi.out.1.laid bb).put o1 (by have := HS.out; omega) ho' hoc)
  have q5 : ((W.alloc (.cells #[.int .i32 r, .int .i64 m, .int .i64 a] 52)).putObj l2 o1).heap[W.heap.size]? = some (.cells #[.int .i32 r, .int .i64 m, .int .i64 a] 52 (0, 0)) := (World.putObj_heap_other (by omega)).trans (heap_alloc_new W _)
  have SZ := Lib.hid (show S + 2 ≤ ((W.alloc (.cells #[.int .i32 r, .int .i64 m, .int .i64 a] 52)).putObj l2 o1).heap.size from by simp; have := hi.out.2; omega)
  generalize (W.alloc (.cells #[.int .i32 r, .int .i64 m, .int .i64 a] 52)).putObj l2 o1 = W2 at H2 q5 SZ ⊢
  generalize W.heap.size = gc at q5
  clear bb ho' hi ho hlt2
  obtain ⟨l0, hl0⟩ : ∃ l0, snds (L.take k2) = l0 := ⟨_, rfl⟩
  have hll : l0.length = k2 := by rw [← hl0]; unfold snds; rw [List.length_map, List.length_take]; omega
  rw [hl0] at H2
  obtain ⟨A2, c2, hb2, ho2⟩ := H2.out.box
  have k0 : W2.cell? ⟨gc, 0, none⟩ = some (.int .i32 r) := cell_of_row _ _ 0 _ _ (0, 0) q5
  have k1 : W2.cell? ⟨gc, 1, none⟩ = some (.int .i64 m) := cell_of_row _ _ 1 _ _ (0, 0) q5
  have k3 : W2.cell? ⟨gc, 2, none⟩ = some (.int .i64 a) := cell_of_row _ _ 2 _ _ (0, 0) q5
  have c3 : W2.cell? ⟨S, 0, none⟩ = some (.slice A2 l0.length c2) := cell_of_row _ _ 0 _ _ (0, 0) hb2
  have hfit := fits_in HL.out hk2
  have B1 := Lib.hid (show l0.length + 1 ≤ maxLen from by rw [hll]; exact hfit.1)
  have B2 := Lib.hid (show (l0.length + 1) * 24 ≤ 140737488355328 from by rw [hll]; exact hfit.2)
  have OW := Lib.hid (show W2.ownsRow (S + 2) 52 3 (.slice A2 l0.length c2) l0.length (flat l0) from ho2)
  have HB := Lib.hid hb2
  have HK := Lib.hid (show snds (L.take (k2 + 1)) = l0 ++ [(r, m, a)] from by rw [snds_next hy, hl0])
  clear hb2 ho2 hl0 hll hfit q5
  gi_wp2_with (gi_at_builtin; refine wpListIn_append_own _ rfl _ _ 41 rfl (S + 2) 52 i0 (.agg #[.int .i32 0, .int .i64 0, .int .i64 0]) 3 24 Tryz.underlying41 hi0 hz0 hz1 hz2 rfl (by decide) _ _ _ rfl (OW.out.alloc _) ⟨W2.heap.size, 0, none⟩ 1 1 [.int .i32 r, .int .i64 m, .int .i64 a] rfl rfl (cell_three _ _ _ _ _) (by simp [Value.oneCell']) B1.out B2.out (by have := SZ.out; simp; omega) ?_; intro v4 W4 ho4 hg4 _; (obtain ⟨A4, c4, rfl, _⟩ := own_cap ho4); (have h4 : W4.heap[S]? = some (.cells #[.slice A2 l0.length c2] 41 (0, 0)) := (hg4.block S (by have := SZ.out; simp; omega) (fun e => by have := (OW.out.lt S e.symm).1; omega)).trans ((Below.heap_alloc _ _ _ (by have := SZ.out; omega)).trans HB.out)); (have k4 := cell_of_row _ _ 0 _ _ (0, 0) h4); (have f4 := frozen_of_row W4 S 0 _ _ h4); (have O4 := Lib.hid ho4); (have G4 := Lib.hid hg4); clear ho4 hg4 h4)
  have GA := Lib.hid (show Laid W2 (W2.alloc (.cells #[.int .i32 r, .int .i64 m, .int .i64 a] 52)) from (Below.refl _ _).alloc (Nat.le_refl _) _)
  have BC := Lib.hid (BoxC.snoc (y := (r, m, a)) (H2.out.laid GA.out) ((GA.out.block S (by have := SZ.out; omega)).trans HB.out) O4.out (OW.out.alloc _) G4.out)
  refine ⟨?_, ?_, Lib.hid ?_⟩
  ·exact (keeps_laid GA.out).trans ((keeps_grown G4.out (own_isCells (OW.out.alloc _))).trans ((KeepsOthers.setCell _ _ _).from _))
  ·refine ⟨?_, fun j hj => ?_⟩
   ·have h1 := GA.out.size
    have h2 := G4.out.size
    simp at h1 h2 ⊢
    omega
   ·have hj2 : j < S + 2 := by omega
    refine (Below.heap_setCell _ _ _ _ (by show j ≠ S; omega)).trans ((G4.out.block j ?_ ?_).trans (GA.out.block j ?_))
    ·have := SZ.out; simp; omega
    ·intro e; have := (OW.out.lt j e.symm).1; omega
    ·have := SZ.out; omega
  ·rw [HK.out]
   refine ⟨BC.out, ?_⟩
   have h1 := GA.out.size
   have h2 := G4.out.size
   have := SZ.out
   simp at h1 h2 ⊢
   omega
 case done =>
  rintro D W hD hi hdef
  rw [List.take_of_length_le (Nat.le_refl _)] at hi
  obtain ⟨A2, c2, hb2, ho2⟩ := hi.out.1.box
  have c3 : W.cell? ⟨S, 0, none⟩ = some (.slice A2 (snds L).length c2) := cell_of_row _ _ 0 _ _ (0, 0) hb2
  obtain ⟨n2, hn2⟩ : ∃ n2, (snds L).length = n2 := ⟨_, rfl⟩
  unfold HasC at ho2
  rw [hn2] at c3 ho2 hb2
  obtain ⟨A3, c3', e3, hc3⟩ := own_cap ho2
  injection e3 with e3 _ e3'
  subst e3 e3'
  have TR := Lib.hid (trim_walk A2 n2 c2 hc3 (snds L) W (by have := HL.out; rw [← hn2]; unfold snds; rw [List.length_map]; omega) (Sq.own ho2))
  have HI := Lib.hid (And.intro hi.out hdef)
  clear hi hdef hb2 ho2 hn2 TL
  go_wp2_with fail
  refine TR.out.mono ?_
  rintro e w5 ⟨v5, rfl, h5, b5⟩
  have H5 := Lib.hid (And.intro h5 b5)
  clear TR h5 b5 c3
  go_wp2_with fail
  have hdD : w5.heap[D]? = some (.deferred (some [])) := (H5.out.2.block D (Array.getElem?_eq_some_iff.1 HI.out.2).1).trans HI.out.2
  refine ⟨by simp, .inl ⟨_, _, rfl, run_takeDeferred hdD, ?_⟩⟩
  have o1 : Below w.heap.size w w5 := HI.out.1.1.old.trans (H5.out.2.mono HI.out.1.1.old.size)
  have o2 : Below w.heap.size w (w5.putObj D (.deferred none)) := o1.trans ⟨rfl, rfl, rfl, by simp, fun k hk => World.putObj_heap_other (by have := Z2.out; have := HS.out; omega)⟩
  have h6 : (w5.putObj D (.deferred none)).ownsRow w.heap.size 52 3 v5 (trimL (snds L)).length (flat (trimL (snds L))) := ownsRow_putObj (own_down (show w5.ownsRow W.heap.size 52 3 v5 (trimL (snds L)).length (flat (trimL (snds L))) from H5.out.1) HI.out.1.1.old.size) _ hdD rfl
  refine ⟨_, ?_, v5, rfl, h6, o2⟩
  simp [results, go_sem]
end Ln
end Go.Proofs.YtjhmndmnhkbigaaGreatDoor

namespace Go.Proofs.YtjhmndmnhkbigaaGreatDoor
open Go.ChangeShapes Go.WideShapes Go.ChangeAt Go.RowKit
namespace Ln
open Rw
attribute [local go_sem] Oper.semAt_some
theorem own_type {w : World} {base : Nat} {e : TypeId} {size n : Nat} {v : Value} {xs : List Value} (h : w.ownsRow base e size v n xs) : ∀ j, v.ownBlock = some j → ∃ cur, w.heap[j]? = some (.cells cur e (0, 0)) := by
 intro j hj
 rcases h.2 with ⟨rfl, _⟩ | ⟨g, cap, cur, rfl, _, hg, _⟩
 ·cases hj
 ·injection hj with hj
  subst hj
  exact ⟨_, hg⟩
theorem own_ne {w : World} {b1 b2 : Nat} {e1 e2 : TypeId} {s1 s2 n1 n2 : Nat} {v1 v2 : Value} {xs1 xs2 : List Value} (h1 : w.ownsRow b1 e1 s1 v1 n1 xs1) (h2 : w.ownsRow b2 e2 s2 v2 n2 xs2) (he : e1 ≠ e2) : ∀ j, v1.ownBlock = some j → v2.ownBlock ≠ some j := by
 intro j hj hj2
 obtain ⟨c1, k1⟩ := own_type h1 j hj
 obtain ⟨c2, k2⟩ := own_type h2 j hj2
 rw [k1] at k2
 injection k2 with k2
 injection k2 with _ k2 _
 exact he k2
theorem infoSl : (Tryz.prog.info? 41).map (fun i => (i.zero, i.size, i.bytes)) = some (some (.slice none 0 0), 1, 24) := by kernel_rfl
structure Lns (W : World) (B : Nat) (v : Value) (vs : List Value) (ls : List (List Cel)) : Prop where
 own : W.ownsRow B 41 1 v ls.length vs
 each : ∀ (i : Nat) (x : Value) (l : List Cel), vs[i]? = some x → ls[i]? = some l → HasC W B x l
namespace Lns
variable {W W' : World} {B : Nat} {v v' x : Value} {vs : List Value} {ls : List (List Cel)} {l : List Cel}
theorem nothing (W : World) (B : Nat) : Lns W B (.slice none 0 0) [] [] := ⟨World.ownsRow_nil _ _ _ _, fun i x l h => by simp at h⟩
theorem len (h : Lns W B v vs ls) : vs.length = ls.length := by have := h.own.1; omega
theorem keep (h : Lns W B v vs ls) (hk : ∀ j, B ≤ j → j < W.heap.size → W'.heap[j]? = W.heap[j]?) : Lns W' B v vs ls :=
 ⟨own_keep h.own fun j hj => hk j (h.own.lt j hj).1 (h.own.lt j hj).2, fun i x l hx hl => own_keep (h.each i x l hx hl) fun j hj => by
  have hh : W.ownsRow B 52 3 x l.length (flat l) := h.each i x l hx hl
  exact hk j (hh.lt j hj).1 (hh.lt j hj).2⟩
theorem laid (h : Lns W B v vs ls) (hb : Laid W W') : Lns W' B v vs ls := h.keep fun j _ hj => hb.block j hj
theorem put (h : Lns W B v vs ls) {j : Nat} {o : Obj} (o' : Obj) (ho : W.heap[j]? = some o) (hc : o.isCells = false) : Lns (W.putObj j o') B v vs ls :=
 ⟨ownsRow_putObj h.own o' ho hc, fun i x l hx hl => ownsRow_putObj (h.each i x l hx hl) o' ho hc⟩
theorem down (h : Lns W B v vs ls) {B' : Nat} (hb : B' ≤ B) : Lns W B' v vs ls := ⟨own_down h.own hb, fun i x l hx hl => own_down (h.each i x l hx hl) hb⟩
theorem snoc (h : Lns W B v vs ls) (hx : HasC W B x l) (ho : W'.ownsRow B 41 1 v' (ls.length + 1) (vs ++ [x])) (hg : W.grownBy W' v.ownBlock) : Lns W' B v' (vs ++ [x]) (ls ++ [l]) := by
 have keepc : ∀ {y : Value} {m : List Cel}, HasC W B y m → HasC W' B y m := fun {y m} hy => own_keep hy fun j hj => by
  have hh : W.ownsRow B 52 3 y m.length (flat m) := hy
  exact hg.block j (hh.lt j hj).2 (fun e => own_ne hh h.own (by decide) j hj e.symm)
 refine ⟨by rw [List.length_append, List.length_singleton]; exact ho, fun i y m hy hm => ?_⟩
 have hl := h.len
 by_cases hi : i < ls.length
 ·rw [List.getElem?_append_left (by omega)] at hy
  rw [List.getElem?_append_left hi] at hm
  exact keepc (h.each i y m hy hm)
 ·have hi2 := (List.getElem?_eq_some_iff.1 hm).1
  rw [List.length_append, List.length_singleton] at hi2
  obtain rfl : i = ls.length := by omega
  rw [List.getElem?_append_right (by omega), hl, Nat.sub_self] at hy
  rw [List.getElem?_append_right (Nat.le_refl _), Nat.sub_self] at hm
  simp at hy hm
  subst hy hm
  exact keepc hx
end Lns
structure BoxL (w0 : World) (g B : Nat) (ls : List (List Cel)) (W : World) : Prop where
 old : Below w0.heap.size w0 W
 low : w0.heap.size ≤ g
 gB : g < B
 big : B ≤ W.heap.size
 box : ∃ A c vs, W.heap[g]? = some (.cells #[.slice A ls.length c] 23 (0, 0)) ∧ Lns W B (.slice A ls.length c) vs ls
namespace BoxL
variable {w0 W W' : World} {g B : Nat} {ls : List (List Cel)}
theorem laid (h : BoxL w0 g B ls W) (hb : Laid W W') : BoxL w0 g B ls W' := by
 obtain ⟨A, c, vs, h1, h2⟩ := h.box
 exact ⟨h.old.trans (hb.mono h.old.size), h.low, h.gB, Nat.le_trans h.big hb.size, A, c, vs, (hb.block _ (Array.getElem?_eq_some_iff.1 h1).1).trans h1, h2.laid hb⟩
theorem put (h : BoxL w0 g B ls W) {j : Nat} {o : Obj} (o' : Obj) (hj : w0.heap.size ≤ j) (ho : W.heap[j]? = some o) (hc : o.isCells = false) : BoxL w0 g B ls (W.putObj j o') := by
 obtain ⟨A, c, vs, h1, h2⟩ := h.box
 refine ⟨h.old.trans ⟨rfl, rfl, rfl, by simp, fun k hk => World.putObj_heap_other (by omega)⟩, h.low, h.gB, by simp; exact h.big, A, c, vs, (World.putObj_heap_other (fun e => ?_)).trans h1, h2.put o' ho hc⟩
 subst e
 rw [h1] at ho
 cases ho
 cases hc
theorem snoc {A : Option Addr} {c : Nat} {vs : List Value} {v' x : Value} {l : List Cel} (h : BoxL w0 g B ls W) (hb : W.heap[g]? = some (.cells #[.slice A ls.length c] 23 (0, 0))) (hl : Lns W B (.slice A ls.length c) vs ls) (hx : HasC W B x l)
  (ho : W'.ownsRow B 41 1 v' (ls.length + 1) (vs ++ [x])) (hg : W.grownBy W' (Value.slice A ls.length c).ownBlock) : BoxL w0 g B (ls ++ [l]) (W'.setCell ⟨g, 0, none⟩ v') := by
 have hlt := (Array.getElem?_eq_some_iff.1 hb).1
 have hne : ∀ j, j < B → (Value.slice A ls.length c).ownBlock ≠ some j := fun j hj e => by have := (hl.own.lt j e).1; omega
 have hb' : W'.heap[g]? = _ := (hg.block g hlt (fun e => hne g h.gB e.symm)).trans hb
 obtain ⟨A', c', rfl, hc'⟩ := own_cap ho
 have hs := hl.snoc hx ho hg
 refine ⟨?_, h.low, h.gB, ?_, A', c', vs ++ [x], ?_, ?_⟩
 ·have h1 : Below w0.heap.size w0 W' := h.old.grown hg h.old.size (fun j e => by have h1 := (hl.own.lt j e).1; have := h.low; have := h.gB; omega)
  exact h1.setCell (p := ⟨g, 0, none⟩) h.low _
 ·have := h.big; have := hg.size; simp; omega
 ·rw [List.length_append, List.length_singleton]
  have := heap_setCell_same W' g 0 _ _ (.slice A' (ls.length + 1) c') hb'
  simpa using this
 ·rw [List.length_append, List.length_singleton]
  refine hs.keep fun j hj _ => Below.heap_setCell _ _ _ _ ?_
  have := h.gB
  show j ≠ g
  omega
end BoxL
theorem part_le {p : List LR} : ∀ {l : List LR}, p ∈ parts l → p.length ≤ l.length
 | [], h => by simp [parts] at h
 | r :: rs, h => by
  rw [parts_cons] at h
  cases e : parts rs with
  | nil =>
   rw [e] at h
   simp [addP] at h
   subst h
   simp
  | cons q qs =>
   have ih := fun h => part_le (p := p) (l := rs) h
   have iq := part_le (p := q) (l := rs) (by rw [e]; simp)
   rw [e] at h ih
   rw [addP_cons] at h
   split at h
   ·rcases List.mem_cons.1 h with rfl | h
    ·simp; omega
    ·have := ih (by simp [h]); simp; omega
   ·rcases List.mem_cons.1 h with rfl | h
    ·simp
    ·have := ih h; simp; omega
theorem cell_single (w : World) (e : TypeId) (x : Value) : ∀ (j : Nat) (u : Value), [x][j]? = some u → (w.alloc (.cells #[x] e)).cell? ((⟨w.heap.size, 0, none⟩ : Addr).add j) = some u := by
 intro j u hu
 rw [add_at, Nat.zero_add, cell_of_row _ _ _ _ _ (0, 0) (heap_alloc_new w _)]
 match j, hu with
 | 0, hu => exact hu
 | j + 1, hu => simp at hu
end Ln
end Go.Proofs.YtjhmndmnhkbigaaGreatDoor
namespace Go.Proofs.YtjhmndmnhkbigaaGreatDoor
open Go.ChangeShapes Go.WideShapes Go.ChangeAt Go.RowKit
namespace Ln
open Rw
set_option maxRecDepth 100000 in
set_option maxHeartbeats 3200000 in
theorem line_any (A : Option Addr) (n c : Nat) (l : List Cel) (w : World) (hs : Spans w) (hl : ∀ c ∈ l, -2147483648 ≤ c.1 ∧ c.1 ≤ 2147483647) (hq : Sq w w.heap.size 3 n A (flat l)) (hn : n ≤ 1000000) :
  Calls Tryz.prog 47 #[.slice A n c] w fun e w' => e = .returned (.bool (lineB l)) ∧ Below w.heap.size w w' := by
 have hll : l.length = n := by have := hq.len; rw [flat_length] at this; omega
 have LN := Lib.hid hll
 have S := Lib.hid hs
 have Q := Lib.hid hq
 have HL := Lib.hid hl
 have I0 := Lib.hid (Below.refl w.heap.size w)
 obtain ⟨B, hB⟩ : ∃ B, lineB l = B := ⟨_, rfl⟩
 have E0 := Lib.hid (show lineB (l.drop 0) = B from hB)
 rw [hB]
 clear hs hq hl hB hll
 go_enter Tryz.func47, Tryz.ntmps47
 go_wp2
 go_loopw [7] (fun i wr => ∃ k : Nat, i = .int .i64 k ∧ k ≤ n ∧ Hid (Below w.heap.size w wr) ∧ Hid (lineB (l.drop k) = B)) (fun i _ => n - (intOf i).toNat)
 case atStart => exact ⟨0, rfl, Nat.zero_le _, I0, E0⟩
 case round =>
  obtain ⟨k, rfl, hk, I, E⟩ := hrel
  clear I0 E0
  by_cases hlt : k < n
  ·obtain ⟨b, off, rfl, hb, ⟨r, m, a⟩, hcc, q0, q1, q2⟩ := (Q.out.below I.out).three hlt
   have hr := HL.out _ (List.mem_of_getElem? hcc)
   obtain ⟨g, hg⟩ : ∃ g, hasB r m a = g := ⟨_, rfl⟩
   obtain ⟨g2, hg2⟩ : ∃ g2, mayB (r, m, a) = g2 := ⟨_, rfl⟩
   have SG := Lib.hid (hasSign_walk r m a)
   have MG := Lib.hid (may_any r m a hr.1 hr.2)
   rw [hg] at SG
   rw [hg2] at MG
   have EE := Lib.hid (show (g && g2 && lineB (l.drop (k + 1))) = B from by
    have := E.out
    obtain ⟨h1, h2⟩ := List.getElem?_eq_some_iff.1 hcc
    rw [List.drop_eq_getElem_cons h1, h2] at this
    unfold lineB at this
    rw [List.all_cons] at this
    unfold okC at this
    simp only [hg, hg2] at this
    exact this)
   have IZ := Lib.hid I.out.size
   have b1 : Below wr.heap.size wr (wr.alloc (.cells #[.int .i32 r, .int .i64 m, .int .i64 a] 52)) := (Below.refl _ _).alloc (Nat.le_refl _) _
   have C1 := Lib.hid (heap_alloc_new wr (.cells #[.int .i32 r, .int .i64 m, .int .i64 a] 52))
   have I1 := Lib.hid (I.out.trans (b1.mono I.out.size))
   clear hcc hr hg hg2 b1 I
   cases g
   ·have RB := Lib.hid (show B = false from by have := EE.out; simpa using this.symm)
    go_wp2_with fail
    refine (SG.out _).mono ?_
    rintro e w2 ⟨rfl, b2⟩
    have I2 := Lib.hid (I1.out.trans (b2.mono I1.out.size))
    clear b2 SG MG q0 q1 q2 C1
    go_wp2_with fail
    go_ret
    exact ⟨ret_bool RB.out.symm, I2.out⟩
   ·go_wp2_with fail
    refine (SG.out _).mono ?_
    rintro e w2 ⟨rfl, b2⟩
    have I2 := Lib.hid (I1.out.trans (b2.mono I1.out.size))
    have c2 := (b2.block wr.heap.size (by simp)).trans C1.out
    have k0 : w2.cell? ⟨wr.heap.size, 0, none⟩ = some (.int .i32 r) := cell_of_row _ _ 0 _ _ (0, 0) c2
    have k1 : w2.cell? ⟨wr.heap.size, 1, none⟩ = some (.int .i64 m) := cell_of_row _ _ 1 _ _ (0, 0) c2
    have k2 : w2.cell? ⟨wr.heap.size, 2, none⟩ = some (.int .i64 a) := cell_of_row _ _ 2 _ _ (0, 0) c2
    clear b2 SG q0 q1 q2 C1 c2
    go_wp2_with fail
    refine (MG.out w2 (S.out.below I2.out S.out.size)).mono ?_
    rintro e w3 ⟨rfl, b3⟩
    have I3 := Lib.hid (I2.out.trans (b3.mono I2.out.size))
    clear b3 MG k0 k1 k2
    cases g2
    ·have RB := Lib.hid (show B = false from by have := EE.out; simpa using this.symm)
     go_wp2
     go_ret
     exact ⟨ret_bool RB.out.symm, I3.out⟩
    ·have E2 := Lib.hid (show lineB (l.drop (k + 1)) = B from by have := EE.out; simpa using this)
     go_wp2
     go_roundw
     case rel => exact ⟨k + 1, by go_num, by omega, I3, E2⟩
     case measure => simp [intOf]; omega
  ·obtain rfl : k = n := by omega
   have RB := Lib.hid (show B = true from by
    have h1 := E.out
    rw [List.drop_eq_nil_of_le (by rw [LN.out]; exact Nat.le_refl _)] at h1
    exact h1.symm)
   go_wp2
   go_ret
   exact ⟨ret_bool RB.out.symm, I.out⟩
end Ln
end Go.Proofs.YtjhmndmnhkbigaaGreatDoor
namespace Go.Proofs.YtjhmndmnhkbigaaGreatDoor
open Go.ChangeShapes Go.WideShapes Go.ChangeAt Go.RowKit
namespace Ln
open Rw
structure Own (W : World) (B : Nat) (v : Value) (rs : List RowIn) : Prop where
 own : W.ownsRow B 48 2 v rs.length (rs.flatMap RowIn.vals)
 each : ∀ r ∈ rs, HasC W B (.slice r.A r.n r.c) r.l ∧ (∀ c ∈ r.l, -2147483648 ≤ c.1 ∧ c.1 ≤ 2147483647) ∧ r.c ≤ maxLen
namespace Own
variable {W W' : World} {B : Nat} {v v' : Value} {rs : List RowIn}
theorem nothing (W : World) (B : Nat) : Own W B (.slice none 0 0) [] := ⟨World.ownsRow_nil _ _ _ _, fun r h => by cases h⟩
theorem shape (h : Own W B v rs) : ∃ A c, v = .slice A rs.length c ∧ rs.length ≤ c := own_cap h.own
theorem keep (h : Own W B v rs) (hk : ∀ j, B ≤ j → j < W.heap.size → W'.heap[j]? = W.heap[j]?) : Own W' B v rs :=
 ⟨own_keep h.own fun j hj => hk j (h.own.lt j hj).1 (h.own.lt j hj).2, fun r hr => ⟨own_keep (h.each r hr).1 fun j hj => by
  have hh : W.ownsRow B 52 3 (.slice r.A r.n r.c) r.l.length (flat r.l) := (h.each r hr).1
  exact hk j (hh.lt j hj).1 (hh.lt j hj).2, (h.each r hr).2⟩⟩
theorem laid (h : Own W B v rs) (hb : Laid W W') : Own W' B v rs := h.keep fun j _ hj => hb.block j hj
theorem down (h : Own W B v rs) {B' : Nat} (hb : B' ≤ B) : Own W B' v rs := ⟨own_down h.own hb, fun r hr => ⟨own_down (h.each r hr).1 hb, (h.each r hr).2⟩⟩
theorem snoc {x : RowIn} (h : Own W B v rs) (hx : HasC W B (.slice x.A x.n x.c) x.l) (hs : ∀ c ∈ x.l, -2147483648 ≤ c.1 ∧ c.1 ≤ 2147483647) (hm : x.c ≤ maxLen) (ho : W'.ownsRow B 48 2 v' (rs.length + 1) (rs.flatMap RowIn.vals ++ x.vals)) (hg : W.grownBy W' v.ownBlock) : Own W' B v' (rs ++ [x]) := by
 have keepc : ∀ {y : Value} {m : List Cel}, HasC W B y m → HasC W' B y m := fun {y m} hy => own_keep hy fun j hj => by
  have hh : W.ownsRow B 52 3 y m.length (flat m) := hy
  exact hg.block j (hh.lt j hj).2 (fun e => own_ne hh h.own (by decide) j hj e.symm)
 refine ⟨?_, fun r hr => ?_⟩
 ·rw [List.length_append, List.length_singleton, List.flatMap_append]
  simpa [List.flatMap_cons] using ho
 ·rcases List.mem_append.1 hr with hr | hr
  ·exact ⟨keepc (h.each r hr).1, (h.each r hr).2⟩
  ·rw [List.mem_singleton.1 hr]
   exact ⟨keepc hx, hs, hm⟩
theorem rws {A : Option Addr} {n c : Nat} (h : Own W B (.slice A n c) rs) : n = rs.length ∧ Rws W W.heap.size A n rs := by
 obtain ⟨A', c', e, _⟩ := own_cap h.own
 injection e with e1 e2 e3
 subst e1 e2 e3
 refine ⟨rfl, fun r hr => ?_, Sq.own h.own⟩
 obtain ⟨rA, rn, rc, rb, rl⟩ := r
 obtain ⟨h1, h2, h3⟩ := h.each _ hr
 have hh : W.ownsRow B 52 3 (.slice rA rn rc) rl.length (flat rl) := h1
 obtain ⟨A', c', e, hc⟩ := own_cap hh
 injection e with e1 e2 e3
 subst e2
 have hq := Sq.own hh
 exact ⟨by show rl.length ≤ rc; omega, h3, h2, hq⟩
end Own
theorem infoRw : (Tryz.prog.info? 48).map (fun i => (i.zero, i.size, i.bytes)) = some (some (.agg #[.slice none 0 0, .bool false]), 2, 32) := by kernel_rfl
end Ln
end Go.Proofs.YtjhmndmnhkbigaaGreatDoor
namespace Go.Proofs.YtjhmndmnhkbigaaGreatDoor
open Go.ChangeShapes Go.WideShapes Go.ChangeAt Go.RowKit
namespace Ln
open Rw
structure Sheet (W : World) (B : Nat) (v : Value) (wv : Nat) (rs : List RowIn) : Prop where
 own : Own W B v rs
 row : ∀ r ∈ rs, r.n = wv ∧ r.l.length = wv ∧ ∃ g, r.A = some ⟨g, 0, none⟩
 apart : (rs.map RowIn.A).Nodup
def put3 (W : World) (g j : Nat) (x : Cel) : World := ((W.setCell ⟨g, j * 3, none⟩ (.int .i32 x.1)).setCell ⟨g, j * 3 + 1, none⟩ (.int .i64 x.2.1)).setCell ⟨g, j * 3 + 2, none⟩ (.int .i64 x.2.2)
theorem put3_other (W : World) (g j : Nat) (x : Cel) {k : Nat} (h : k ≠ g) : (put3 W g j x).heap[k]? = W.heap[k]? :=
 (Below.heap_setCell _ _ _ _ h).trans ((Below.heap_setCell _ _ _ _ h).trans (Below.heap_setCell _ _ _ _ h))
theorem mem_set {α : Type} {l : List α} {k : Nat} {a y : α} (h : y ∈ l.set k a) : y = a ∨ ∃ i, i ≠ k ∧ l[i]? = some y := by
 obtain ⟨i, hi⟩ := List.mem_iff_getElem?.1 h
 rw [List.getElem?_set] at hi
 split at hi
 ·split at hi
  ·cases hi; exact .inl rfl
  ·cases hi
 ·exact .inr ⟨i, fun e => by omega, hi⟩
theorem vals_wrap : ∀ (rs : List RowIn) (k : Nat) (r : RowIn) (b : Bool), rs[k]? = some r → (rs.flatMap RowIn.vals).set (k * 2 + 1) (.bool b) = (rs.set k { r with wrap := b }).flatMap RowIn.vals
 | [], k, r, b, h => by simp at h
 | x :: rs, 0, r, b, h => by
  simp at h
  subst h
  rfl
 | x :: rs, k + 1, r, b, h => by
  have ih := vals_wrap rs k r b (by simpa using h)
  rw [List.set_cons_succ, List.flatMap_cons, List.flatMap_cons, ← ih]
  show (Value.slice x.A x.n x.c :: Value.bool x.wrap :: rs.flatMap RowIn.vals).set ((k + 1) * 2 + 1) _ = Value.slice x.A x.n x.c :: Value.bool x.wrap :: (rs.flatMap RowIn.vals).set (k * 2 + 1) _
  rw [show (k + 1) * 2 + 1 = k * 2 + 1 + 1 + 1 by omega, List.set_cons_succ, List.set_cons_succ]
theorem vals_cells : ∀ (rs : List RowIn) (k : Nat) (r : RowIn) (m : List Cel), rs[k]? = some r → (rs.set k { r with l := m }).flatMap RowIn.vals = rs.flatMap RowIn.vals
 | [], k, r, m, h => by simp at h
 | x :: rs, 0, r, m, h => by
  simp at h
  subst h
  rfl
 | x :: rs, k + 1, r, m, h => by
  rw [List.set_cons_succ, List.flatMap_cons, List.flatMap_cons, vals_cells rs k r m (by simpa using h)]
theorem map_set {β : Type} (f : RowIn → β) {rs : List RowIn} {k : Nat} {r r' : RowIn} (h : rs[k]? = some r) (e : f r' = f r) : (rs.set k r').map f = rs.map f := by
 rw [List.map_set, e]
 refine List.ext_getElem? fun i => ?_
 rw [List.getElem?_set]
 split
 ·subst_vars
  rw [List.getElem?_map, h]
  have := (List.getElem?_eq_some_iff.1 h).1
  simp [this]
 ·rfl
namespace Sheet
variable {W W' : World} {B wv : Nat} {v v' : Value} {rs : List RowIn}
theorem keep (h : Sheet W B v wv rs) (hk : ∀ j, B ≤ j → j < W.heap.size → W'.heap[j]? = W.heap[j]?) : Sheet W' B v wv rs := ⟨h.own.keep hk, h.row, h.apart⟩
theorem laid (h : Sheet W B v wv rs) (hb : Laid W W') : Sheet W' B v wv rs := ⟨h.own.laid hb, h.row, h.apart⟩
theorem keepT (h : Sheet W B v wv rs) (h2 : 2 ≤ wv) (hk : ∀ (j : Nat) (cs : Array Value) (ty : TypeId), W.heap[j]? = some (.cells cs ty (0, 0)) → (ty = 48 ∨ ty = 52 ∧ cs.size ≠ 3) → W'.heap[j]? = W.heap[j]?) : Sheet W' B v wv rs := by
 refine ⟨⟨own_keep h.own.own fun j hj => ?_, fun r hr => ?_⟩, h.row, h.apart⟩
 ·rcases h.own.own.2 with ⟨rfl, _⟩ | ⟨g, cap, cur, rfl, _, hg, _⟩
  ·cases hj
  ·injection hj with hj
   subst hj
   exact hk _ _ _ hg (.inl rfl)
 ·obtain ⟨k1, k2⟩ := h.own.each r hr
  obtain ⟨e1, e2, -⟩ := h.row r hr
  have kk : W.ownsRow B 52 3 (.slice r.A r.n r.c) r.l.length (flat r.l) := k1
  refine ⟨own_keep kk fun j hj => ?_, k2⟩
  rcases kk.2 with ⟨_, h0⟩ | ⟨g, cap, cur, e, _, hg, hc, _, hz, _⟩
  ·omega
  ·rw [e] at hj
   injection hj with hj
   have hj' : g = j := hj
   subst hj'
   exact hk _ _ _ hg (.inr ⟨rfl, by omega⟩)
theorem ne (h : Sheet W B v wv rs) {i k : Nat} {y r : RowIn} (hy : rs[i]? = some y) (hr : rs[k]? = some r) (hik : i ≠ k) : y.A ≠ r.A := by
 intro e
 have hi : i < (rs.map RowIn.A).length := by have := (List.getElem?_eq_some_iff.1 hy).1; simpa using this
 exact hik ((List.getElem?_inj hi h.apart).1 (by rw [List.getElem?_map, List.getElem?_map, hy, hr]; simp [e]))
theorem put (h : Sheet W B v wv rs) {k j g : Nat} {r : RowIn} (hr : rs[k]? = some r) (hg : r.A = some ⟨g, 0, none⟩) (x : Cel) (hx : -2147483648 ≤ x.1 ∧ x.1 ≤ 2147483647) :
  Sheet (put3 W g j x) B v wv (rs.set k { r with l := r.l.set j x }) := by
 obtain ⟨rA, rn, rc, rb, rl⟩ := r
 dsimp only at hg
 subst hg
 obtain ⟨h1, h2, h3⟩ := h.own.each _ (List.mem_of_getElem? hr)
 have hh : W.ownsRow B 52 3 (.slice (some ⟨g, 0, none⟩) rn rc) rl.length (flat rl) := h1
 obtain ⟨hn, hl, -⟩ := h.row _ (List.mem_of_getElem? hr)
 dsimp only at hn hl h2
 have hln : rn = rl.length := by rw [hn, hl]
 subst hln
 refine ⟨⟨?_, fun y hy => ?_⟩, fun y hy => ?_, ?_⟩
 ·rw [List.length_set, vals_cells _ _ _ _ hr]
  exact own_keep h.own.own fun q hq => put3_other _ _ _ _ (fun e => own_ne h.own.own hh (by decide) q hq (by rw [e]; rfl))
 ·rcases mem_set hy with rfl | ⟨i, hi, hy⟩
  ·refine ⟨?_, fun c hc => ?_, h3⟩
   ·show World.ownsRow _ _ _ _ _ (rl.set j x).length (flat (rl.set j x))
    have e1 := (hh.stored (j * 3) (.int .i32 x.1)).1
    have e2 := (e1.stored (j * 3 + 1) (.int .i64 x.2.1)).1
    have e3 := (e2.stored (j * 3 + 2) (.int .i64 x.2.2)).1
    rw [flat_set] at e3
    rw [List.length_set]
    exact e3
   ·rcases List.mem_or_eq_of_mem_set hc with hc | rfl
    ·exact h2 _ hc
    ·exact hx
  ·obtain ⟨k1, k2, k3⟩ := h.own.each _ (List.mem_of_getElem? hy)
   have kk : W.ownsRow B 52 3 (.slice y.A y.n y.c) y.l.length (flat y.l) := k1
   obtain ⟨-, -, gy, ey⟩ := h.row _ (List.mem_of_getElem? hy)
   have hne := h.ne hy hr hi
   refine ⟨own_keep kk fun q hq => put3_other _ _ _ _ (fun e => ?_), k2, k3⟩
   rw [ey] at hq hne
   injection hq with hq
   have hq' : gy = q := hq
   subst hq' e
   exact hne rfl
 ·rcases mem_set hy with rfl | ⟨i, hi, hy⟩
  ·exact ⟨hn, by show (rl.set j x).length = wv; rw [List.length_set]; exact hl, g, rfl⟩
  ·exact h.row _ (List.mem_of_getElem? hy)
 ·refine (congrArg List.Nodup (map_set RowIn.A hr ?_)).mpr h.apart
  rfl
theorem goesOn {g n c k : Nat} (h : Sheet W B (.slice (some ⟨g, 0, none⟩) n c) wv rs) {r : RowIn} (hr : rs[k]? = some r) (b : Bool) : Sheet (W.setCell ⟨g, k * 2 + 1, none⟩ (.bool b)) B (.slice (some ⟨g, 0, none⟩) n c) wv (rs.set k { r with wrap := b }) := by
 obtain ⟨e, _⟩ := h.own.rws
 subst e
 have ho := h.own.own
 have hm : ∀ y ∈ rs.set k { r with wrap := b }, ∃ z ∈ rs, z.A = y.A ∧ z.n = y.n ∧ z.c = y.c ∧ z.l = y.l := fun y hy => by
  rcases List.mem_or_eq_of_mem_set hy with h1 | h1
  ·exact ⟨y, h1, rfl, rfl, rfl, rfl⟩
  ·rw [h1]; exact ⟨r, List.mem_of_getElem? hr, rfl, rfl, rfl, rfl⟩
 refine ⟨⟨?_, fun y hy => ?_⟩, fun y hy => ?_, ?_⟩
 ·rw [List.length_set, ← vals_wrap rs k r b hr]
  exact (ho.stored _ _).1
 ·obtain ⟨z, hz, e1, e2, e3, e4⟩ := hm y hy
  obtain ⟨h1, h2, h3⟩ := h.own.each z hz
  rw [e1, e2, e3, e4] at h1
  rw [e4] at h2
  rw [e3] at h3
  have hh : W.ownsRow B 52 3 (.slice y.A y.n y.c) y.l.length (flat y.l) := h1
  exact ⟨own_keep hh fun j hj => Below.heap_setCell _ _ _ _ (fun e => own_ne ho hh (by decide) g rfl (by rw [hj, e])), h2, h3⟩
 ·obtain ⟨z, hz, e1, e2, e3, e4⟩ := hm y hy
  have := h.row z hz
  rw [e1, e2, e4] at this
  exact this
 ·refine (congrArg List.Nodup (map_set RowIn.A hr ?_)).mpr h.apart
  rfl
theorem snoc {x : RowIn} {B2 : Nat} (h : Sheet W B v wv rs) (hx : HasC W B2 (.slice x.A x.n x.c) x.l) (hb : B ≤ B2) (hnew : ∀ r ∈ rs, ∀ q, r.A = some ⟨q, 0, none⟩ → q < B2) (hs : ∀ c ∈ x.l, -2147483648 ≤ c.1 ∧ c.1 ≤ 2147483647) (hm : x.c ≤ maxLen) (h1 : x.n = wv) (h2 : x.l.length = wv) (hw : ∃ q, x.A = some ⟨q, 0, none⟩)
  (ho : W'.ownsRow B 48 2 v' (rs.length + 1) (rs.flatMap RowIn.vals ++ x.vals)) (hg : W.grownBy W' v.ownBlock) : Sheet W' B v' wv (rs ++ [x]) := by
 refine ⟨h.own.snoc (own_down hx hb) hs hm ho hg, fun r hr => ?_, ?_⟩
 ·rcases List.mem_append.1 hr with hr | hr
  ·exact h.row r hr
  ·rw [List.mem_singleton.1 hr]; exact ⟨h1, h2, hw⟩
 ·rw [List.map_append, List.map_cons, List.map_nil]
  refine List.nodup_append.2 ⟨h.apart, by simp, fun a ha b hb' e => ?_⟩
  obtain ⟨r, hr, rfl⟩ := List.mem_map.1 ha
  rw [List.mem_singleton] at hb'
  obtain ⟨-, -, q, eq⟩ := h.row r hr
  have hq := hnew r hr q eq
  have hh : W.ownsRow B2 52 3 (.slice x.A x.n x.c) x.l.length (flat x.l) := hx
  have := (hh.lt q (by rw [← hb', ← e, eq]; rfl)).1
  omega
end Sheet
end Ln
end Go.Proofs.YtjhmndmnhkbigaaGreatDoor
