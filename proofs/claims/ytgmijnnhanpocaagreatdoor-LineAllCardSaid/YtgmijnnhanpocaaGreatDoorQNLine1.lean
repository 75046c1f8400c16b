/-
  The function that line.signs hands out tells the cells of rows in which a sign stands. line.parts, line.signs; line.joined: the line of the rows of one. line.Join: its round's last statement, step by step. line.Join: the lines of rows.
-/
import Derived.Test.YtgmijnnhanpocaaGreatDoorQNLine0
import Derived.Test.YtgmijnnhanpocaaGreatDoorQNBase0
import Derived.Lib.OthersKept
import Derived.Test.YtgmijnnhanpocaaGreatDoorQNBase3
namespace Go.Proofs.YtgmijnnhanpocaaGreatDoor
open Go.ChangeShapes Go.WideShapes Go.ChangeAt Go.RowKit
namespace Ln
open Rw
attribute [local go_sem] Oper.semAt_some
def signsFrom (i : Nat) : Nat → List Cel → List Pl
 | _, [] => []
 | col, c :: l => (if signC c then [((i, col), c)] else []) ++ signsFrom i (col + 1) l
def signsRow (i : Nat) (r : LR) : List Pl := if mayL r.2 then signsFrom i 0 r.2 else []
def signsAll : Nat → List LR → List Pl
 | _, [] => []
 | i, r :: rs => signsRow i r ++ signsAll (i + 1) rs
theorem signsFrom_append (i : Nat) : ∀ (a b : List Cel) (col : Nat), signsFrom i col (a ++ b) = signsFrom i col a ++ signsFrom i (col + a.length) b
 | [], _, _ => rfl
 | c :: a, b, col => by
  rw [List.cons_append, signsFrom, signsFrom, signsFrom_append i a b (col + 1), List.append_assoc, List.length_cons, show col + 1 + a.length = col + (a.length + 1) by omega]
theorem signsAll_append : ∀ (a b : List LR) (i : Nat), signsAll i (a ++ b) = signsAll i a ++ signsAll (i + a.length) b
 | [], _, _ => rfl
 | r :: a, b, i => by
  rw [List.cons_append, signsAll, signsAll, signsAll_append a b (i + 1), List.append_assoc, List.length_cons, show i + 1 + a.length = i + (a.length + 1) by omega]
theorem signsFrom_cells (i : Nat) : ∀ (l : List Cel) (col : Nat), (signsFrom i col l).map (·.2) = l.filter signC
 | [], _ => rfl
 | c :: l, col => by
  rw [signsFrom, List.map_append, signsFrom_cells i l (col + 1), List.filter_cons]
  cases signC c <;> simp
theorem signsAll_cells : ∀ (rs : List LR) (i : Nat), (signsAll i rs).map (·.2) = rs.flatMap cellsR
 | [], _ => rfl
 | r :: rs, i => by
  rw [signsAll, List.map_append, signsAll_cells rs (i + 1), List.flatMap_cons]
  congr 1
  unfold signsRow cellsR
  split
  ·exact signsFrom_cells i _ 0
  ·rfl
theorem signsFrom_le (i : Nat) : ∀ (l : List Cel) (col : Nat), (signsFrom i col l).length ≤ l.length
 | [], _ => Nat.le_refl _
 | c :: l, col => by
  have := signsFrom_le i l (col + 1)
  rw [signsFrom, List.length_append, List.length_cons]
  split <;> simp <;> omega
theorem signsRow_le (i : Nat) (r : LR) : (signsRow i r).length ≤ 300 := by
 unfold signsRow
 split
 ·rename_i h
  have := signsFrom_le i r.2 0
  unfold mayL at h
  rw [Bool.and_eq_true, decide_eq_true_eq] at h
  omega
 ·simp
theorem signsAll_le : ∀ (rs : List LR) (i : Nat), (signsAll i rs).length ≤ 300 * rs.length
 | [], _ => Nat.le_refl _
 | r :: rs, i => by
  have := signsAll_le rs (i + 1)
  have := signsRow_le i r
  rw [signsAll, List.length_append, List.length_cons]
  omega
def told (rs : List LR) (i col : Nat) (l : List Cel) : Nat := (signsAll 0 (rs.take i)).length + (signsFrom i 0 (l.take col)).length
theorem told_pre {rs : List LR} {i : Nat} {r : LR} (h : rs[i]? = some r) (hm : mayL r.2 = true) (k : Nat) : ∃ t, signsAll 0 rs = (signsAll 0 (rs.take i) ++ signsFrom i 0 (r.2.take k)) ++ t := by
 have hi := (List.getElem?_eq_some_iff.1 h).1
 have e : rs = rs.take i ++ (r :: rs.drop (i + 1)) := by
  conv => lhs; rw [← List.take_append_drop i rs]
  rw [List.drop_eq_getElem_cons hi, (List.getElem?_eq_some_iff.1 h).2]
 have e2 : signsRow i r = signsFrom i 0 (r.2.take k) ++ signsFrom i (0 + (r.2.take k).length) (r.2.drop k) := by
  unfold signsRow
  rw [if_pos hm, ← signsFrom_append, List.take_append_drop]
 have e3 : (rs.take i).length = i := by rw [List.length_take]; omega
 refine ⟨signsFrom i (0 + (r.2.take k).length) (r.2.drop k) ++ signsAll (i + 1) (rs.drop (i + 1)), ?_⟩
 conv => lhs; rw [e]
 rw [signsAll_append, e3, Nat.zero_add, signsAll, e2]
 simp only [List.append_assoc]
theorem told_next {r : LR} {i col : Nat} {c : Cel} (rs : List LR) (h : r.2[col]? = some c) : told rs i (col + 1) r.2 = told rs i col r.2 + if signC c then 1 else 0 := by
 unfold told
 have hl : (r.2.take col).length = col := by rw [List.length_take]; have := (List.getElem?_eq_some_iff.1 h).1; omega
 rw [take_one h, signsFrom_append, List.length_append, signsFrom, signsFrom]
 cases signC c <;> simp
 omega
theorem told_get {rs : List LR} {r : LR} {i col : Nat} {c : Cel} (hr : rs[i]? = some r) (hm : mayL r.2 = true) (h : r.2[col]? = some c) (hs : signC c = true) : (signsAll 0 rs)[told rs i col r.2]? = some ((i, col), c) := by
 obtain ⟨t, e⟩ := told_pre hr hm (col + 1)
 have hl : (r.2.take col).length = col := by rw [List.length_take]; have := (List.getElem?_eq_some_iff.1 h).1; omega
 rw [e, take_one h, signsFrom_append, hl, Nat.zero_add, signsFrom, signsFrom, if_pos hs, List.append_nil, List.getElem?_append_left (by unfold told; simp), List.getElem?_append_right (by unfold told; omega), show told rs i col r.2 - (signsAll 0 (rs.take i)).length = (signsFrom i 0 (r.2.take col)).length by unfold told; omega, List.getElem?_append_right (Nat.le_refl _), Nat.sub_self]
 rfl
theorem told_row {rs : List LR} {r : LR} {i : Nat} (hr : rs[i]? = some r) (hm : mayL r.2 = true) : told rs i r.2.length r.2 = (signsAll 0 (rs.take (i + 1))).length := by
 have hi := (List.getElem?_eq_some_iff.1 hr).1
 unfold told
 rw [take_one hr, signsAll_append, List.length_append, List.take_length, signsAll, signsAll, List.append_nil, Nat.zero_add, show (rs.take i).length = i by rw [List.length_take]; omega]
 unfold signsRow
 rw [if_pos hm]
theorem told_none {rs : List LR} {r : LR} {i : Nat} (hr : rs[i]? = some r) (hm : mayL r.2 = false) : (signsAll 0 (rs.take (i + 1))).length = (signsAll 0 (rs.take i)).length := by
 rw [take_one hr, signsAll_append, List.length_append, signsAll, signsAll, List.append_nil]
 unfold signsRow
 rw [hm]
 simp
def FitS (L : List Pl) (k : Nat) (x : Array Value) (_ : World) : Prop := ∃ y : Pl, L[k]? = some y ∧ x = #[.agg #[.int .i64 (y.1.1 : Int), .int .i64 (y.1.2 : Int)], cellV y.2.1 y.2.2.1 y.2.2.2]
set_option maxRecDepth 100000 in
set_option maxHeartbeats 6400000 in
theorem signs_tells {S Bx : Nat} {A : Option Addr} {n c : Nat} {rs : List RowIn} {Kp : World → World → Prop} {w : World} (h : PSrc S Bx A n c rs w) (hKp : ∀ A B, Kp A B → Leaves S Bx A B) (hn : n ≤ 1000000) :
  Tells Tryz.prog 113 #[.pointer (some ⟨Bx, 0, none⟩)] (signsAll 0 (rs.map lr)).length (FitS (signsAll 0 (rs.map lr))) Kp w := by
 intro l J Jx W hL hJ hJx hY h0
 obtain ⟨N, hN⟩ : ∃ N, (signsAll 0 (rs.map lr)).length = N := ⟨_, rfl⟩
 have P0 := Lib.hid (h.laid hL)
 have J0 := Lib.hid h0
 have c0 : W.cell? ⟨Bx, 0, none⟩ = some (.slice A n c) := cell_of_row _ _ 0 _ _ (0, 0) (h.laid hL).box
 have YH := Lib.hid hY
 have JH := Lib.hid (And.intro hJ hJx)
 have KH := Lib.hid hKp
 have NH := Lib.hid hN
 have RL := Lib.hid (show (rs.map lr).length = n from by rw [List.length_map]; exact h.rows.len)
 rw [hN] at YH ⊢
 clear hY hJ hJx hKp hN h hL h0
 refine callsIn_of_wp Tryz.func113 rfl trivial ?_ rfl
 simp only [Tryz.ntmps113, List.size_toArray, List.length_cons, List.length_nil, Nat.reduceAdd, Nat.reduceSub, Array.replicate_succ, Array.replicate_zero, List.push_toArray, List.append_toArray, List.nil_append, List.cons_append]
 gi_wp2
 gi_loopw [9] (fun t wr => ∃ i : Nat, t = .int .i64 i ∧ i ≤ n ∧ Hid (PSrc S Bx A n c rs wr) ∧ Hid (J (signsAll 0 ((rs.map lr).take i)).length wr)) (fun t _ => n - (intOf t).toNat)
 case atStart => exact ⟨0, rfl, Nat.zero_le _, P0, J0⟩
 case round =>
  obtain ⟨i, rfl, hi, P, JJ⟩ := hrel
  clear P0 J0 c0
  by_cases hlt : i < n
  ·obtain ⟨r, hr⟩ : ∃ r, rs[i]? = some r := ⟨_, List.getElem?_eq_getElem (by rw [P.out.rows.len]; exact hlt)⟩
   obtain ⟨rA, rn, rc, rw', rl⟩ := r
   obtain ⟨b, off, rfl, hb, q0, q1⟩ := rows_at P.out.rows.sq hr hlt
   have hlr : (rs.map lr)[i]? = some (rw', rl) := by rw [List.getElem?_map, hr]; rfl
   have HR := Lib.hid hr
   have HLR := Lib.hid hlr
   have bb : Laid wr (wr.alloc (.cells #[.slice rA rn rc, .bool rw'] 48)) := (Below.refl _ _).alloc (Nat.le_refl _) _
   have RO := Lib.hid (P.out.rows.each ⟨rA, rn, rc, rw', rl⟩ (List.mem_of_getElem? hr))
   obtain ⟨g, hg⟩ : ∃ g, mayL rl = g := ⟨_, rfl⟩
   have GO := Lib.hid (packMay_any rA rn rc rw' rl _ (P.out.laid bb).sp RO.out.signs ((RO.out.sq.below (bb.mono P.out.big)).up (Nat.le_trans P.out.big bb.size)))
   rw [hg] at GO
   have HG := Lib.hid hg
   have P3 := Lib.hid (P.out.laid bb)
   have J3 := Lib.hid (JH.out.1 _ _ _ JJ.out bb)
   have Q3 := Lib.hid (heap_alloc_new wr (.cells #[.slice rA rn rc, .bool rw'] 48))
   clear bb hg hr hlr
   cases g
   ·have NX := Lib.hid (told_none HLR.out HG.out)
    gi_wp2_with (refine ⟨trivial, ?_⟩; gi_at_call 112; refine (callsIn_wide.2 GO.out).mono ?_; rintro e w3 ⟨rfl, b3⟩; (have P4 := Lib.hid (P3.out.laid b3)); (have J4 := Lib.hid (JH.out.1 _ _ _ J3.out b3)); clear b3 P3 J3 GO q0 q1 Q3)
    go_roundw
    case rel => exact ⟨i + 1, by go_num, by omega, P4, Lib.hid (by rw [NX.out]; exact J4.out)⟩
    case measure => simp [intOf]; omega
   ·gi_wp2_with (refine ⟨trivial, ?_⟩; gi_at_call 112; refine (callsIn_wide.2 GO.out).mono ?_; rintro e w3 ⟨rfl, b3⟩; (have P4 := Lib.hid (P3.out.laid b3)); (have J4 := Lib.hid (JH.out.1 _ _ _ J3.out b3)); (have k0 : w3.cell? ⟨wr.heap.size, 0, none⟩ = some (.slice rA rn rc) := cell_of_row _ _ 0 _ _ (0, 0) ((b3.block _ (by simp)).trans Q3.out)); clear b3 P3 J3 GO q0 q1 Q3)
    have K0 := Lib.hid (show J (told (rs.map lr) i 0 rl) w3 from by unfold told; exact J4.out)
    have RN := Lib.hid (show rl.length = rn from by have := RO.out.sq.len; rw [flat_length] at this; show rl.length = rn; simp only at this; omega)
    have hrn : rn ≤ 300 := by
     have h1 := HG.out
     unfold mayL at h1
     rw [Bool.and_eq_true, decide_eq_true_eq] at h1
     have := RN.out
     omega
    clear J4
    gi_loopw [20] (fun t wx => ∃ col : Nat, t = .int .i64 col ∧ col ≤ rn ∧ Hid (PSrc S Bx (some ⟨b, off, none⟩) n c rs wx) ∧ Hid (J (told (rs.map lr) i col rl) wx)) (fun t _ => rn - (intOf t).toNat)
    case atStart => exact ⟨0, rfl, Nat.zero_le _, P4, K0⟩
    case round =>
     obtain ⟨col, rfl, hcol, P5, J5⟩ := hrel
     clear P4 K0 k0 P JJ
     by_cases hlc : col < rn
     ·obtain ⟨b', off', rfl, hb', ⟨x, m, a⟩, hcc, q0, q1, q2⟩ := (P5.out.rows.each _ (List.mem_of_getElem? HR.out)).sq.three hlc
      have HC := Lib.hid hcc
      have bb : Laid wr (wr.alloc (.cells #[.int .i32 x, .int .i64 m, .int .i64 a] 50)) := (Below.refl _ _).alloc (Nat.le_refl _) _
      have P6 := Lib.hid (P5.out.laid bb)
      have J6 := Lib.hid (JH.out.1 _ _ _ J5.out bb)
      have NX := Lib.hid (told_next (r := (rw', rl)) (i := i) (rs.map lr) HC.out)
      simp only at NX
      by_cases hm0 : m = 0
      ·subst hm0
       rw [show signC (x, 0, a) = false by simp [signC]] at NX
       clear bb P5 J5 hcc
       gi_wp2_with fail
       refine ⟨trivial, ?_⟩
       gi_wp2_with fail
       go_roundw
       case rel => exact ⟨col + 1, by go_num, by omega, P6, Lib.hid (by rw [NX.out]; exact J6.out)⟩
       case measure => simp [intOf]; omega
      ·have hm1 : (m == 0) = false := by simpa using hm0
       obtain ⟨p, hp⟩ : ∃ p, isB 0 x m a = p := ⟨_, rfl⟩
       have PC := Lib.hid (isPad_walk x m a)
       have TG := Lib.hid (fun h => told_get (r := (rw', rl)) (i := i) HLR.out HG.out HC.out h)
       rw [show signC (x, m, a) = !p by simp [signC, padC, hm1, hp]] at NX TG
       rw [hp] at PC
       have Q6 := Lib.hid (heap_alloc_new wr (.cells #[.int .i32 x, .int .i64 m, .int .i64 a] 50))
       clear bb P5 J5 hcc hp
       cases p
       ·have KL := Lib.hid (show told (rs.map lr) i col rl < N from by
         rw [← NH.out]
         exact (List.getElem?_eq_some_iff.1 (TG.out rfl)).1)
        have FT := Lib.hid (show ∀ W, FitS (signsAll 0 (rs.map lr)) (told (rs.map lr) i col rl) #[.agg #[.int .i64 (i : Int), .int .i64 (col : Int)], cellV x m a] W from fun W => ⟨_, TG.out rfl, rfl⟩)
        gi_wp2_with (refine ⟨trivial, ?_⟩; gi_at_call 114; refine (callsIn_wide.2 (PC.out _)).mono ?_; rintro e w4 ⟨rfl, b4⟩; (have P7 := Lib.hid (P6.out.laid b4)); (have J7 := Lib.hid (JH.out.1 _ _ _ J6.out b4)); (have Q7 := Lib.hid ((b4.block _ (by simp)).trans Q6.out)); (have k0 : w4.cell? ⟨wr.heap.size, 0, none⟩ = some (.int .i32 x) := cell_of_row _ _ 0 _ _ (0, 0) Q7.out); (have k1 : w4.cell? ⟨wr.heap.size, 1, none⟩ = some (.int .i64 m) := cell_of_row _ _ 1 _ _ (0, 0) Q7.out); (have k2 : w4.cell? ⟨wr.heap.size, 2, none⟩ = some (.int .i64 a) := cell_of_row _ _ 2 _ _ (0, 0) Q7.out); (obtain ⟨fn, tmps, assign, body, hy, hR⟩ := YH.out _ _ _ KL.out J7.out (FT.out _)); (have RR := Lib.hid hR); clear b4 P6 J6 q0 q1 q2 Q6 PC hR J7)
        refine RR.out.mono ?_
        rintro e W5 (⟨rfl, hJ5, hk5⟩ | ⟨rfl, hJx5⟩)
        ·have P8 := Lib.hid (P7.out.kept (KH.out _ _ hk5))
         have J8 := Lib.hid hJ5
         clear hJ5 hk5 hy RR P7 FT TG Q7 k0 k1 k2
         gi_wp2
         go_roundw
         case rel => exact ⟨col + 1, by go_num, by omega, P8, Lib.hid (by rw [NX.out]; exact J8.out)⟩
         case measure => simp [intOf]; omega
        ·have DX := Lib.hid hJx5
         clear hJx5 hy RR P7 FT TG Q7 k0 k1 k2
         gi_wp2
         refine bodyPost_ret (results_none rfl _ _ _) rfl ?_
         exact ⟨⟨_, rfl⟩, .inr ⟨_, KL.out, DX.out⟩⟩
       ·gi_wp2_with (refine ⟨trivial, ?_⟩; gi_at_call 114; refine (callsIn_wide.2 (PC.out _)).mono ?_; rintro e w4 ⟨rfl, b4⟩; (have P7 := Lib.hid (P6.out.laid b4)); (have J7 := Lib.hid (JH.out.1 _ _ _ J6.out b4)); clear b4 P6 J6 q0 q1 q2 Q6 PC TG)
        go_roundw
        case rel => exact ⟨col + 1, by go_num, by omega, P7, Lib.hid (by rw [NX.out]; exact J7.out)⟩
        case measure => simp [intOf]; omega
     ·obtain rfl : col = rn := by omega
      have E := Lib.hid (show told (rs.map lr) i rl.length rl = (signsAll 0 ((rs.map lr).take (i + 1))).length from told_row HLR.out HG.out)
      have J9 := Lib.hid (show J (signsAll 0 ((rs.map lr).take (i + 1))).length wr from by
       rw [← E.out, RN.out]
       exact J5.out)
      clear J5 E
      gi_wp2
      go_roundw
      case rel => exact ⟨i + 1, by go_num, by omega, P5, J9⟩
      case measure => simp [intOf]; omega
  ·obtain rfl : i = n := by omega
   have DN := Lib.hid (show J N wr from by have := JJ.out; rwa [List.take_of_length_le (by rw [RL.out]; exact Nat.le_refl _), NH.out] at this)
   gi_wp2
   go_end0
   exact ⟨⟨_, rfl⟩, .inl DN.out⟩
end Ln
end Go.Proofs.YtgmijnnhanpocaaGreatDoor
namespace Go.Proofs.YtgmijnnhanpocaaGreatDoor
open Go.ChangeShapes Go.WideShapes Go.ChangeAt Go.RowKit
namespace Ln
open Rw
attribute [local go_sem] Oper.semAt_some
set_option maxRecDepth 100000 in
theorem parts_walk (A : Option Addr) (n c : Nat) (w : World) : Calls Tryz.prog 38 #[.slice A n c] w fun e w' => e = .returned (.func (.func 74) #[] #[.pointer (some ⟨w.heap.size, 0, none⟩)]) ∧ w' = w.alloc (.cells #[.slice A n c] 22) := by
 go_enter Tryz.func38, Tryz.ntmps38
 go_wp2
 go_ret
 exact ⟨rfl, rfl⟩
set_option maxRecDepth 100000 in
theorem signs_walk (A : Option Addr) (n c : Nat) (w : World) : Calls Tryz.prog 76 #[.slice A n c] w fun e w' => e = .returned (.func (.func 113) #[] #[.pointer (some ⟨w.heap.size, 0, none⟩)]) ∧ w' = w.alloc (.cells #[.slice A n c] 22) := by
 go_enter Tryz.func76, Tryz.ntmps76
 go_wp2
 go_ret
 exact ⟨rfl, rfl⟩
theorem own_keep {w w' : World} {base : Nat} {e : TypeId} {size n : Nat} {v : Value} {xs : List Value} (h : w.ownsRow base e size v n xs) (hk : ∀ k, v.ownBlock = some k → w'.heap[k]? = w.heap[k]?) : w'.ownsRow base e size v n xs := by
 refine ⟨h.1, ?_⟩
 rcases h.2 with e1 | ⟨g, cap, cur, rfl, hb, hg, r⟩
 ·exact .inl e1
 ·exact .inr ⟨g, cap, cur, rfl, hb, (hk g rfl).trans hg, r⟩
theorem own_down {w : World} {base base' : Nat} {e : TypeId} {size n : Nat} {v : Value} {xs : List Value} (h : w.ownsRow base e size v n xs) (hb : base' ≤ base) : w.ownsRow base' e size v n xs := by
 refine ⟨h.1, ?_⟩
 rcases h.2 with e1 | ⟨g, cap, cur, rfl, h2, r⟩
 ·exact .inl e1
 ·exact .inr ⟨g, cap, cur, rfl, Nat.le_trans hb h2, r⟩
theorem own_laid {w w' : World} {base : Nat} {e : TypeId} {size n : Nat} {v : Value} {xs : List Value} (h : w.ownsRow base e size v n xs) (hb : Below w.heap.size w w') : w'.ownsRow base e size v n xs := own_keep h fun k hk => hb.block k (h.lt k hk).2
theorem own_cap {w : World} {B : Nat} {e : TypeId} {s n : Nat} {v : Value} {xs : List Value} (h : w.ownsRow B e s v n xs) : ∃ A c, v = .slice A n c ∧ n ≤ c := by
 rcases h.2 with ⟨rfl, h0⟩ | ⟨g, cap, cur, rfl, _, _, hc, _⟩
 ·rw [h0]; exact ⟨_, _, rfl, Nat.le_refl _⟩
 ·exact ⟨_, _, rfl, hc⟩
theorem Leaves.trans {S Bx : Nat} {A B C : World} (h : Leaves S Bx A B) (k : Leaves S Bx B C) : Leaves S Bx A C := ⟨Nat.le_trans h.1 k.1, fun j hj => (k.2 j hj).trans (h.2 j hj)⟩
theorem Leaves.put {S Bx l : Nat} {W : World} (hS : S ≤ l) (hB : Bx < l) (o' : Obj) : Leaves S Bx W (W.putObj l o') :=
 ⟨by simp [World.putObj], fun j hj => World.putObj_heap_other (by rcases hj with hj | rfl <;> omega)⟩
theorem cell_three (w : World) (e : TypeId) (x y z : Value) : ∀ (j : Nat) (u : Value), [x, y, z][j]? = some u → (w.alloc (.cells #[x, y, z] e)).cell? ((⟨w.heap.size, 0, none⟩ : Addr).add j) = some u := by
 intro j u hu
 rw [add_at, Nat.zero_add, cell_of_row _ _ _ _ _ (0, 0) (heap_alloc_new w _)]
 match j, hu with
 | 0, hu => exact hu
 | 1, hu => exact hu
 | 2, hu => exact hu
 | j + 3, hu => simp at hu
structure BoxC (w0 : World) (g B : Nat) (l : List Cel) (W : World) : Prop where
 old : Below w0.heap.size w0 W
 low : w0.heap.size ≤ g
 gB : g < B
 box : ∃ A c, W.heap[g]? = some (.cells #[.slice A l.length c] 46 (0, 0)) ∧ HasC W B (.slice A l.length c) l
namespace BoxC
variable {w0 W W' : World} {g B : Nat} {l : List Cel}
theorem laid (h : BoxC w0 g B l W) (hb : Laid W W') : BoxC w0 g B l W' := by
 obtain ⟨A, c, h1, h2⟩ := h.box
 exact ⟨h.old.trans (hb.mono h.old.size), h.low, h.gB, A, c, (hb.block _ (Array.getElem?_eq_some_iff.1 h1).1).trans h1, own_laid h2 hb⟩
theorem put (h : BoxC w0 g B l W) {j : Nat} {o : Obj} (o' : Obj) (hj : w0.heap.size ≤ j) (ho : W.heap[j]? = some o) (hc : o.isCells = false) : BoxC w0 g B l (W.putObj j o') := by
 obtain ⟨A, c, h1, h2⟩ := h.box
 refine ⟨h.old.trans ⟨rfl, rfl, rfl, by simp, fun k hk => World.putObj_heap_other (by omega)⟩, h.low, h.gB, A, c, (World.putObj_heap_other (fun e => ?_)).trans h1, ownsRow_putObj h2 o' ho hc⟩
 subst e
 rw [h1] at ho
 cases ho
 cases hc
end BoxC
theorem BoxC.snoc {w0 W W' : World} {g B : Nat} {l : List Cel} {y : Cel} {A : Option Addr} {c : Nat} {v' : Value} (h : BoxC w0 g B l W) (hb : W.heap[g]? = some (.cells #[.slice A l.length c] 46 (0, 0)))
  (ho : W'.ownsRow B 50 3 v' (l.length + 1) (flat l ++ [.int .i32 y.1, .int .i64 y.2.1, .int .i64 y.2.2])) (hA : W.ownsRow B 50 3 (.slice A l.length c) l.length (flat l)) (hg : W.grownBy W' (Value.slice A l.length c).ownBlock) :
  BoxC w0 g B (l ++ [y]) (W'.setCell ⟨g, 0, none⟩ v') := by
 have hlt := (Array.getElem?_eq_some_iff.1 hb).1
 have hne : ∀ j, j < B → (Value.slice A l.length c).ownBlock ≠ some j := fun j hj e => by have := (hA.lt j e).1; omega
 have hb' : W'.heap[g]? = _ := (hg.block g hlt (fun e => hne g h.gB e.symm)).trans hb
 obtain ⟨A', c', rfl, hc'⟩ := own_cap ho
 have e : flat (l ++ [y]) = flat l ++ [.int .i32 y.1, .int .i64 y.2.1, .int .i64 y.2.2] := by rw [flat_append]; rfl
 refine ⟨?_, h.low, h.gB, A', c', ?_, ?_⟩
 ·have h1 : Below w0.heap.size w0 W' := h.old.grown hg h.old.size (fun j e => by have h1 := (hA.lt j e).1; have := h.low; have := h.gB; omega)
  exact h1.setCell (p := ⟨g, 0, none⟩) h.low _
 ·rw [List.length_append, List.length_singleton]
  have := heap_setCell_same W' g 0 _ _ (.slice A' (l.length + 1) c') hb'
  simpa using this
 ·unfold HasC
  rw [e, List.length_append, List.length_singleton]
  refine own_keep ho fun k hk => Below.heap_setCell _ _ _ _ ?_
  have := (ho.lt k hk).1
  have := h.gB
  show k ≠ g
  omega
theorem keeps_grown {W W' : World} {row : Option Nat} {B : Nat} (hg : W.grownBy W' row) (hrow : ∀ j, row = some j → ∃ o, W.heap[j]? = some o ∧ o.isCells = true) : KeepsFrom B W W' :=
 ⟨hg.size, fun k _ _ hk ho => (hg.block k (Array.getElem?_eq_some_iff.1 hk).1 (fun e => by
  obtain ⟨o', h1, h2⟩ := hrow k e.symm
  rw [hk] at h1
  cases h1
  rw [ho] at h2
  cases h2)).trans hk⟩
theorem keeps_laid {W W' : World} {B : Nat} (h : Laid W W') : KeepsFrom B W W' := ⟨h.size, fun k _ _ hk _ => (h.block k (Array.getElem?_eq_some_iff.1 hk).1).trans hk⟩
theorem own_isCells {w : World} {base : Nat} {e : TypeId} {size n : Nat} {v : Value} {xs : List Value} (h : w.ownsRow base e size v n xs) : ∀ j, v.ownBlock = some j → ∃ o, w.heap[j]? = some o ∧ o.isCells = true := by
 intro j hj
 rcases h.2 with ⟨rfl, _⟩ | ⟨g, cap, cur, rfl, _, hg, _⟩
 ·cases hj
 ·injection hj with hj
  subst hj
  exact ⟨_, hg, rfl⟩
def snds (L : List Pl) : List Cel := L.map fun y => y.2
theorem snds_cells (rs : List LR) : rs.flatMap cellsR = snds (signsAll 0 rs) := (signsAll_cells rs 0).symm
theorem snds_next {L : List Pl} {k : Nat} {y : Pl} (h : L[k]? = some y) : snds (L.take (k + 1)) = snds (L.take k) ++ [y.2] := by unfold snds; rw [take_one h, List.map_append]; rfl
theorem fits_in {N k : Nat} (h : N ≤ 300000000) (hk : k < N) : k + 1 ≤ maxLen ∧ (k + 1) * 24 ≤ 140737488355328 := by unfold maxLen; omega
set_option maxRecDepth 100000 in
set_option maxHeartbeats 6400000 in
theorem joined_walk (A : Option Addr) (n c : Nat) (rs : List RowIn) (w : World) (hs : Spans w) (hr : Rws w w.heap.size A n rs) (hn : n ≤ 1000000) :
  Calls Tryz.prog 39 #[.slice A n c] w fun e w' => TrimPost ((rs.map lr).flatMap cellsR) w e w' := by
 obtain ⟨i0, hi0, hz0, hz1, hz2⟩ := info_parts infoCell
 obtain ⟨S, hS⟩ : ∃ S, w.heap.size = S := ⟨_, rfl⟩
 obtain ⟨L, hL⟩ : ∃ L, signsAll 0 (rs.map lr) = L := ⟨_, rfl⟩
 have hcells : (rs.map lr).flatMap cellsR = snds L := by rw [← hL]; exact snds_cells _
 have hLn : L.length ≤ 300000000 := by
  have h1 := signsAll_le (rs.map lr) 0
  rw [hL, List.length_map, hr.len] at h1
  omega
 have hsp : 0 < S := by rw [← hS]; exact hs.size
 obtain ⟨w1, hw1⟩ : ∃ w1, w.alloc (.cells #[.slice none 0 0] 46) = w1 := ⟨_, rfl⟩
 have b1 : Below w.heap.size w w1 := by rw [← hw1]; exact (Below.refl _ _).alloc (Nat.le_refl _) _
 have z1 : w1.heap.size = S + 1 := by rw [← hw1, ← hS]; simp
 obtain ⟨w2, hw2⟩ : ∃ w2, w1.alloc (.cells #[.slice A n c] 22) = w2 := ⟨_, rfl⟩
 have b2 : Laid w1 w2 := by rw [← hw2]; exact (Below.refl _ _).alloc (Nat.le_refl _) _
 have z2 : w2.heap.size = S + 2 := by rw [← hw2]; simp [z1]
 have h0 : BoxC w S (S + 2) [] w2 := by
  refine ⟨b1.trans (b2.mono b1.size), by rw [hS]; exact Nat.le_refl _, by omega, none, 0, (b2.block S (by omega)).trans ?_, World.ownsRow_nil _ _ _ _⟩
  rw [← hw1, ← hS]
  exact heap_alloc_new w _
 have hps : PSrc S (S + 1) A n c rs w2 := by
  refine ⟨hs.below h0.old hs.size, hsp, ?_, ?_, by omega⟩
  ·rw [← hw2, ← z1]
   exact heap_alloc_new w1 _
  ·have := hr.below h0.old
   rw [hS] at this
   exact this
 have TL := Lib.hid (signs_tells (Kp := Leaves S (S + 1)) hps (fun _ _ h => h) hn)
 rw [hL] at TL
 have SW := Lib.hid (signs_walk A n c w1)
 rw [hw2, z1] at SW
 have H0 := Lib.hid h0
 have HW := Lib.hid hw1
 have HS := Lib.hid hS
 have Z2 := Lib.hid z2
 have HL := Lib.hid hLn
 rw [hcells]
 clear hr hs hps h0 b1 b2 hw1 hw2 z1 z2 hL hcells hsp hLn
 refine (callsIn_wide (n := 3)).1 (callsIn_of_wp_marks Tryz.func39 rfl trivial ?_ rfl)
 simp only [Tryz.ntmps39, List.size_toArray, List.length_cons, List.length_nil, Nat.reduceAdd, Nat.reduceSub, Array.replicate_succ, Array.replicate_zero, List.push_toArray, List.append_toArray, List.nil_append, List.cons_append]
 refine wpIn_wide.2 ?_
 go_wp2_with fail
 rw [HW.out]
 refine SW.out.mono ?_
 rintro e w' ⟨rfl, rfl⟩
 go_wp2_with fail
 refine wp_over (Fit := FitS L) (Kp := Leaves S (S + 1)) (N := L.length) (gf := 113) (lb := #[.pointer (some ⟨S + 1, 0, none⟩)]) rfl (enters_of Tryz.func113 (by kernel_rfl) rfl) TL.out Leaves.trans
  (fun A B hA h => Leaves.laid h (by have := Z2.out; omega) (by have := Z2.out; omega)) (fun W l o o' hl ho hc => Leaves.put (by have := Z2.out; omega) (by have := Z2.out; omega) o') (fun k x W h => by obtain ⟨y, _, rfl⟩ := h; rfl)
  (fun k W => Hid (BoxC w S (S + 2) (snds (L.take k)) W ∧ S + 2 ≤ W.heap.size)) (fun _ _ _ => False)
  (fun k A B h hb => Lib.hid ⟨h.out.1.laid hb, Nat.le_trans h.out.2 hb.size⟩) (fun k W l o o' hl ho hc h => Lib.hid ⟨h.out.1.put o' (by have := Z2.out; have := HS.out; omega) ho hc, by rw [World.putObj_size]; exact h.out.2⟩)
  (fun _ _ _ _ h _ => h) (fun _ _ _ _ _ _ _ _ _ h => h) (Lib.hid ⟨H0.out, by have := Z2.out; omega⟩) ?round ?done (fun _ _ _ _ _ _ h _ => h.elim)
 case round =>
  rintro l2 k2 x W hk2 hl2 ⟨o, ho, hoc⟩ hi ⟨⟨⟨pr, pc⟩, r, m, a⟩, hy, rfl⟩
  have bb : Laid W (W.alloc (.cells #[.int .i32 r, .int .i64 m, .int .i64 a] 50)) := (Below.refl _ _).alloc (Nat.le_refl _) _
  simp only
  gi_wp2
  refine ⟨bb, fun o1 => ?_⟩
  have hS2 : S + 2 ≤ l2 := by have := Z2.out; omega
  have hlt2 : l2 < W.heap.size := (Array.getElem?_eq_some_iff.1 ho).1
  have ho' := (bb.block l2 hlt2).trans ho
  have H2 := Lib.hid ((hi.out.1.laid bb).put o1 (by have := HS.out; omega) ho' hoc)
  have q5 : ((W.alloc (.cells #[.int .i32 r, .int .i64 m, .int .i64 a] 50)).putObj l2 o1).heap[W.heap.size]? = some (.cells #[.int .i32 r, .int .i64 m, .int .i64 a] 50 (0, 0)) := (World.putObj_heap_other (by omega)).trans (heap_alloc_new W _)
  have SZ := Lib.hid (show S + 2 ≤ ((W.alloc (.cells #[.int .i32 r, .int .i64 m, .int .i64 a] 50)).putObj l2 o1).heap.size from by simp; have := hi.out.2; omega)
  generalize (W.alloc (.cells #[.int .i32 r, .int .i64 m, .int .i64 a] 50)).putObj l2 o1 = W2 at H2 q5 SZ ⊢
  generalize W.heap.size = gc at q5
  clear bb ho' hi ho hlt2
  obtain ⟨l0, hl0⟩ : ∃ l0, snds (L.take k2) = l0 := ⟨_, rfl⟩
  have hll : l0.length = k2 := by rw [← hl0]; unfold snds; rw [List.length_map, List.length_take]; omega
  rw [hl0] at H2
  obtain ⟨A2, c2, hb2, ho2⟩ := H2.out.box
  have k0 : W2.cell? ⟨gc, 0, none⟩ = some (.int .i32 r) := cell_of_row _ _ 0 _ _ (0, 0) q5
  have k1 : W2.cell? ⟨gc, 1, none⟩ = some (.int .i64 m) := cell_of_row _ _ 1 _ _ (0, 0) q5
  have k3 : W2.cell? ⟨gc, 2, none⟩ = some (.int .i64 a) := cell_of_row _ _ 2 _ _ (0, 0) q5
  have c3 : W2.cell? ⟨S, 0, none⟩ = some (.slice A2 l0.length c2) := cell_of_row _ _ 0 _ _ (0, 0) hb2
  have hfit := fits_in HL.out hk2
  have B1 := Lib.hid (show l0.length + 1 ≤ maxLen from by rw [hll]; exact hfit.1)
  have B2 := Lib.hid (show (l0.length + 1) * 24 ≤ 140737488355328 from by rw [hll]; exact hfit.2)
  have OW := Lib.hid (show W2.ownsRow (S + 2) 50 3 (.slice A2 l0.length c2) l0.length (flat l0) from ho2)
  have HB := Lib.hid hb2
  have HK := Lib.hid (show snds (L.take (k2 + 1)) = l0 ++ [(r, m, a)] from by rw [snds_next hy, hl0])
  clear hb2 ho2 hl0 hll hfit q5
  gi_wp2_with (gi_at_builtin; refine wpListIn_append_own _ rfl _ _ 46 rfl (S + 2) 50 i0 (.agg #[.int .i32 0, .int .i64 0, .int .i64 0]) 3 24 Tryz.underlying46 hi0 hz0 hz1 hz2 rfl (by decide) _ _ _ rfl (OW.out.alloc _) ⟨W2.heap.size, 0, none⟩ 1 1 [.int .i32 r, .int .i64 m, .int .i64 a] rfl rfl (cell_three _ _ _ _ _) (by simp [Value.oneCell']) B1.out B2.out (by have := SZ.out; simp; omega) ?_; intro v4 W4 ho4 hg4 _; (obtain ⟨A4, c4, rfl, _⟩ := own_cap ho4); (have h4 : W4.heap[S]? = some (.cells #[.slice A2 l0.length c2] 46 (0, 0)) := (hg4.block S (by have := SZ.out; simp; omega) (fun e => by have := (OW.out.lt S e.symm).1; omega)).trans ((Below.heap_alloc _ _ _ (by have := SZ.out; omega)).trans HB.out)); (have k4 := cell_of_row _ _ 0 _ _ (0, 0) h4); (have f4 := frozen_of_row W4 S 0 _ _ h4); (have O4 := Lib.hid ho4); (have G4 := Lib.hid hg4); clear ho4 hg4 h4)
  have GA := Lib.hid (show Laid W2 (W2.alloc (.cells #[.int .i32 r, .int .i64 m, .int .i64 a] 50)) from (Below.refl _ _).alloc (Nat.le_refl _) _)
  have BC := Lib.hid (BoxC.snoc (y := (r, m, a)) (H2.out.laid GA.out) ((GA.out.block S (by have := SZ.out; omega)).trans HB.out) O4.out (OW.out.alloc _) G4.out)
  refine ⟨?_, ?_, Lib.hid ?_⟩
  ·exact (keeps_laid GA.out).trans ((keeps_grown G4.out (own_isCells (OW.out.alloc _))).trans ((KeepsOthers.setCell _ _ _).from _))
  ·refine ⟨?_, fun j hj => ?_⟩
   ·have h1 := GA.out.size
    have h2 := G4.out.size
    simp at h1 h2 ⊢
    omega
   ·have hj2 : j < S + 2 := by omega
    refine (Below.heap_setCell _ _ _ _ (by show j ≠ S; omega)).trans ((G4.out.block j ?_ ?_).trans (GA.out.block j ?_))
    ·have := SZ.out; simp; omega
    ·intro e; have := (OW.out.lt j e.symm).1; omega
    ·have := SZ.out; omega
  ·rw [HK.out]
   refine ⟨BC.out, ?_⟩
   have h1 := GA.out.size
   have h2 := G4.out.size
   have := SZ.out
   simp at h1 h2 ⊢
   omega
 case done =>
  rintro D W hD hi hdef
  rw [List.take_of_length_le (Nat.le_refl _)] at hi
  obtain ⟨A2, c2, hb2, ho2⟩ := hi.out.1.box
  have c3 : W.cell? ⟨S, 0, none⟩ = some (.slice A2 (snds L).length c2) := cell_of_row _ _ 0 _ _ (0, 0) hb2
  obtain ⟨n2, hn2⟩ : ∃ n2, (snds L).length = n2 := ⟨_, rfl⟩
  unfold HasC at ho2
  rw [hn2] at c3 ho2 hb2
  obtain ⟨A3, c3', e3, hc3⟩ := own_cap ho2
  injection e3 with e3 _ e3'
  subst e3 e3'
  have TR := Lib.hid (trim_walk A2 n2 c2 hc3 (snds L) W (by have := HL.out; rw [← hn2]; unfold snds; rw [List.length_map]; omega) (Sq.own ho2))
  have HI := Lib.hid (And.intro hi.out hdef)
  clear hi hdef hb2 ho2 hn2 TL
  go_wp2_with fail
  refine TR.out.mono ?_
  rintro e w5 ⟨v5, rfl, h5, b5⟩
  have H5 := Lib.hid (And.intro h5 b5)
  clear TR h5 b5 c3
  go_wp2_with fail
  have hdD : w5.heap[D]? = some (.deferred (some [])) := (H5.out.2.block D (Array.getElem?_eq_some_iff.1 HI.out.2).1).trans HI.out.2
  refine ⟨by simp, .inl ⟨_, _, rfl, run_takeDeferred hdD, ?_⟩⟩
  have o1 : Below w.heap.size w w5 := HI.out.1.1.old.trans (H5.out.2.mono HI.out.1.1.old.size)
  have o2 : Below w.heap.size w (w5.putObj D (.deferred none)) := o1.trans ⟨rfl, rfl, rfl, by simp, fun k hk => World.putObj_heap_other (by have := Z2.out; have := HS.out; omega)⟩
  have h6 : (w5.putObj D (.deferred none)).ownsRow w.heap.size 50 3 v5 (trimL (snds L)).length (flat (trimL (snds L))) := ownsRow_putObj (own_down (show w5.ownsRow W.heap.size 50 3 v5 (trimL (snds L)).length (flat (trimL (snds L))) from H5.out.1) HI.out.1.1.old.size) _ hdD rfl
  refine ⟨_, ?_, v5, rfl, h6, o2⟩
  simp [results, go_sem]
end Ln
end Go.Proofs.YtgmijnnhanpocaaGreatDoor
namespace Go.Proofs.YtgmijnnhanpocaaGreatDoor
open Go.ChangeShapes Go.WideShapes Go.ChangeAt Go.RowKit
namespace Ln
def joinApL : List Ord.Line := [
 (some 10, .load 23 (.tmp 3), none, []),
 (some 11, .move (.tmp 5), none, []),
 (some 12, .call { callee := .value (.func 39), args := #[.tmp 11], argTypes := #[22] }, none, [1]),
 (some 13, .buildSlice 23 1 #[(0, .tmp 12)], none, [2]),
 (some 14, .call { callee := .builtin .append, args := #[.tmp 10, .tmp 13], argTypes := #[23, 23] }, none, [0, 3, 2]),
 (none, .store 23 (.tmp 3) (.tmp 14), none, [4, 4, 0, 1, 2, 3, 4])]
set_option maxRecDepth 100000 in
set_option maxHeartbeats 3200000 in
theorem joinAp {ops : Array Oper} {Rr : Act → World → Prop} {G : World → Value → Prop} (R : Ord.Reg ops joinApL) {w1 : World} {S B m c2 : Nat} {A2 : Option Addr} {vs : List Value} {x : Value} {i0 : TypeInfo} (hi0 : Tryz.prog.info? 46 = some i0) (hz0 : i0.zero = some (.slice none 0 0)) (hz1 : i0.size = 1) (hz2 : i0.bytes = 24)
  (hbox : w1.heap[S]? = some (.cells #[.slice A2 m c2] 23 (0, 0))) (C : Calls Tryz.prog 39 #[x] w1 fun e w' => ∃ A5 n5 c5, e = .returned (.slice A5 n5 c5) ∧ G w' (.slice A5 n5 c5))
  (hG : ∀ w' y, G w' y → Laid w1 w' ∧ w'.ownsRow B 46 1 (.slice A2 m c2) m vs) (hB : S < B) (hBw : B ≤ w1.heap.size) (b1 : m + 1 ≤ maxLen) (b2 : (m + 1) * 24 ≤ 140737488355328)
  (a : Act) (hz : a.tmps.size = 16) (f3 : Chain.At a 3 (.pointer (some ⟨S, 0, none⟩))) (f5 : Chain.At a 5 x)
  (h : ∀ a' w' A5 n5 c5 A4 c4 W4, G w' (.slice A5 n5 c5) → W4.ownsRow B 46 1 (.slice A4 (m + 1) c4) (m + 1) (vs ++ [.slice A5 n5 c5]) → (w'.alloc (.cells #[.slice A5 n5 c5] 46)).grownBy W4 (Value.slice A2 m c2).ownBlock → Rr a' (W4.setCell ⟨S, 0, none⟩ (.slice A4 (m + 1) c4))) :
  wpAnyH Tryz.prog .any ops (fun e a w => e = .normal ∧ Rr a w) (fun _ => True) 6 (List.replicate 6 false).toArray a w1 := by
 have hSw := (Array.getElem?_eq_some_iff.1 hbox).1
 have hld : ∀ (w' : World) (a : Act), w'.heap[S]? = some (.cells #[.slice A2 m c2] 23 (0, 0)) → Chain.At a 3 (.pointer (some ⟨S, 0, none⟩)) → ∀ ty, (execOp a.eval ⟨some 10, .load 23 (.tmp 3), ty, "", #[], none⟩).run Tryz.prog w' = .ok (.value (.slice A2 m c2)) w' := fun w' a hb f ty => by
  have q : w'.cell? ⟨S, 0, none⟩ = some (.slice A2 m c2) := cell_of_row _ _ 0 _ _ (0, 0) hb
  have e := f
  unfold Chain.At at e
  go_simp
 have hbs : ∀ (w' : World) (a : Act) (A5 : Option Addr) (n5 c5 : Nat), Chain.At a 12 (.slice A5 n5 c5) → ∀ ty, (execOp a.eval ⟨some 13, .buildSlice 23 1 #[(0, .tmp 12)], ty, "", #[], none⟩).run Tryz.prog w' = .ok (.value (.slice (some ⟨w'.heap.size, 0, none⟩) 1 1)) (w'.alloc (.cells #[.slice A5 n5 c5] 46)) := fun w' a A5 n5 c5 f ty => by
  have e := f
  unfold Chain.At at e
  go_simp
 have tail : ∀ (a : Act) (w' : World) (A5 : Option Addr) (n5 c5 : Nat), a.tmps.size = 16 → Chain.At a 3 (.pointer (some ⟨S, 0, none⟩)) → Chain.At a 10 (.slice A2 m c2) → Chain.At a 13 (.slice (some ⟨w'.heap.size, 0, none⟩) 1 1) → G w' (.slice A5 n5 c5) →
   wpAnyH Tryz.prog .any ops (fun e a w => e = .normal ∧ Rr a w) (fun _ => True) 2 ([true, true, true, true, false, false]).toArray a (w'.alloc (.cells #[.slice A5 n5 c5] 46)) := by
  intro a w' A5 n5 c5 hz f3 f10 f13 hg
  obtain ⟨hl, hown⟩ := hG _ _ hg
  have hlz := hl.size
  refine Ord.append R (k := 4) (bs' := [true, true, true, true, true, false]) (.tmp 10) (.tmp 13) 23 rfl (by kernel_rfl) trivial (by rw [hz]; decide) B 46 i0 (.slice none 0 0) 1 24 Tryz.underlying23 hi0 hz0 hz1 hz2 rfl (by decide) (.slice A2 m c2) m vs f10.ev (hown.alloc _) (some ⟨w'.heap.size, 0, none⟩) 1 1 [.slice A5 n5 c5] f13.ev (w'.heap.size + 1) ⟨rfl, fun _ => ⟨w'.heap.size, 0, rfl, Nat.lt_succ_self _, fun j u hu => ?_⟩⟩ (by simp [Value.oneCell']) b1 b2 (by simp; omega) ?_
  ·rw [Nat.zero_add, cell_of_row _ _ _ _ _ (0, 0) (heap_alloc_new w' _)]
   simpa using hu
  ·intro A4 c4 W4 ho hgr _
   have h4 : W4.heap[S]? = some (.cells #[.slice A2 m c2] 23 (0, 0)) := (hgr.block S (by simp; omega) (fun e => by have := (hown.lt S e.symm).1; omega)).trans ((Below.heap_alloc _ _ _ (by omega)).trans ((hl.block S hSw).trans hbox))
   refine ⟨trivial, fun a5 N => ?_⟩
   have g3 := N.keep 3 _ (by decide) f3
   have g14 := N.got
   refine Ord.effect R (k := 5) (bs' := [true, true, true, true, true, true]) rfl (by kernel_rfl) trivial trivial (w1 := W4.setCell ⟨S, 0, none⟩ (.slice A4 (m + 1) c4)) (fun ty => ?_) ?_
   ·have q : W4.cell? ⟨S, 0, none⟩ = some (.slice A2 m c2) := cell_of_row _ _ 0 _ _ (0, 0) h4
    have fz := frozen_of_row W4 S 0 _ _ h4
    have e1 := g3
    have e2 := g14
    unfold Chain.At at e1 e2
    go_simp
   ·exact Ord.finish R (by kernel_rfl) ⟨rfl, h _ _ _ _ _ _ _ _ hg ho hgr⟩
 refine Ord.take R (k := 1) (v := x) (bs' := [false, true, false, false, false, false]) rfl (by kernel_rfl) Ord.norm_hQ trivial trivial (fun w _ _ => Chain.ev_move f5.ev) (by rw [hz]; decide) fun a1 N => ?_
 have hz1 : a1.tmps.size = 16 := N.size.trans hz
 replace f3 := N.keep 3 _ (by decide) f3
 have f11 := N.got
 clear N
 refine Ord.either R (i := 0) (j := 2) (bs1 := [true, true, false, false, false, false]) (bs2 := [false, true, true, false, false, false]) (by kernel_rfl) ?_ ?_
 ·refine Ord.step_value R (k := 0) rfl trivial trivial (hld w1 a1 hbox f3) (by rw [hz1]; decide) fun a2 N => ?_
  have hz2 : a2.tmps.size = 16 := N.size.trans hz1
  have g3 := N.keep 3 _ (by decide) f3
  have g11 := N.keep 11 _ (by decide) f11
  have g10 := N.got
  refine Ord.call R (k := 2) (bs' := [true, true, true, false, false, false]) (args := #[x]) rfl (by kernel_rfl) trivial (by simp [g11.ev]) (by kernel_rfl) C (by rw [hz2]; decide) ?_
  rintro e w' ⟨A5, n5, c5, rfl, hg⟩
  refine ⟨_, rfl, trivial, fun a3 N => ?_⟩
  have hz3 : a3.tmps.size = 16 := N.size.trans hz2
  have k3 := N.keep 3 _ (by decide) g3
  have k10 := N.keep 10 _ (by decide) g10
  have k12 := N.got
  refine Ord.value R (k := 3) (bs' := [true, true, true, true, false, false]) rfl (by kernel_rfl) trivial trivial (hbs w' a3 _ _ _ k12) (by rw [hz3]; decide) fun a4 N => ?_
  exact tail a4 w' _ _ _ (N.size.trans hz3) (N.keep 3 _ (by decide) k3) (N.keep 10 _ (by decide) k10) N.got hg
 ·refine Ord.step_call R (k := 2) (args := #[x]) rfl trivial (by simp [f11.ev]) (by kernel_rfl) C (by rw [hz1]; decide) ?_
  rintro e w' ⟨A5, n5, c5, rfl, hg⟩
  have hb' : w'.heap[S]? = some (.cells #[.slice A2 m c2] 23 (0, 0)) := ((hG _ _ hg).1.block S hSw).trans hbox
  refine ⟨_, rfl, trivial, fun a2 N => ?_⟩
  have hz2 : a2.tmps.size = 16 := N.size.trans hz1
  have g3 := N.keep 3 _ (by decide) f3
  have g12 := N.got
  refine Ord.either R (i := 0) (j := 3) (bs1 := [true, true, true, false, false, false]) (bs2 := [false, true, true, true, false, false]) (by kernel_rfl) ?_ ?_
  ·refine Ord.step_value R (k := 0) rfl trivial trivial (hld w' a2 hb' g3) (by rw [hz2]; decide) fun a3 N => ?_
   have hz3 : a3.tmps.size = 16 := N.size.trans hz2
   have k3 := N.keep 3 _ (by decide) g3
   have k12 := N.keep 12 _ (by decide) g12
   have k10 := N.got
   refine Ord.value R (k := 3) (bs' := [true, true, true, true, false, false]) rfl (by kernel_rfl) trivial trivial (hbs w' a3 _ _ _ k12) (by rw [hz3]; decide) fun a4 N => ?_
   exact tail a4 w' _ _ _ (N.size.trans hz3) (N.keep 3 _ (by decide) k3) (N.keep 10 _ (by decide) k10) N.got hg
  ·refine Ord.step_value R (k := 3) rfl trivial trivial (hbs w' a2 _ _ _ g12) (by rw [hz2]; decide) fun a3 N => ?_
   have hz3 : a3.tmps.size = 16 := N.size.trans hz2
   have k3 := N.keep 3 _ (by decide) g3
   have k13 := N.got
   refine Ord.value R (k := 0) (bs' := [true, true, true, true, false, false]) rfl (by kernel_rfl) trivial trivial (hld _ a3 ((Below.heap_alloc _ _ _ (by have := (hG _ _ hg).1.size; omega)).trans hb') k3) (by rw [hz3]; decide) fun a4 N => ?_
   exact tail a4 w' _ _ _ (N.size.trans hz3) (N.keep 3 _ (by decide) k3) N.got (N.keep 13 _ (by decide) k13) hg
end Ln
end Go.Proofs.YtgmijnnhanpocaaGreatDoor
namespace Go.Proofs.YtgmijnnhanpocaaGreatDoor
open Go.ChangeShapes Go.WideShapes Go.ChangeAt Go.RowKit
namespace Ln
open Rw
attribute [local go_sem] Oper.semAt_some
theorem own_type {w : World} {base : Nat} {e : TypeId} {size n : Nat} {v : Value} {xs : List Value} (h : w.ownsRow base e size v n xs) : ∀ j, v.ownBlock = some j → ∃ cur, w.heap[j]? = some (.cells cur e (0, 0)) := by
 intro j hj
 rcases h.2 with ⟨rfl, _⟩ | ⟨g, cap, cur, rfl, _, hg, _⟩
 ·cases hj
 ·injection hj with hj
  subst hj
  exact ⟨_, hg⟩
theorem own_ne {w : World} {b1 b2 : Nat} {e1 e2 : TypeId} {s1 s2 n1 n2 : Nat} {v1 v2 : Value} {xs1 xs2 : List Value} (h1 : w.ownsRow b1 e1 s1 v1 n1 xs1) (h2 : w.ownsRow b2 e2 s2 v2 n2 xs2) (he : e1 ≠ e2) : ∀ j, v1.ownBlock = some j → v2.ownBlock ≠ some j := by
 intro j hj hj2
 obtain ⟨c1, k1⟩ := own_type h1 j hj
 obtain ⟨c2, k2⟩ := own_type h2 j hj2
 rw [k1] at k2
 injection k2 with k2
 injection k2 with _ k2 _
 exact he k2
theorem infoSl : (Tryz.prog.info? 46).map (fun i => (i.zero, i.size, i.bytes)) = some (some (.slice none 0 0), 1, 24) := by kernel_rfl
structure Lns (W : World) (B : Nat) (v : Value) (vs : List Value) (ls : List (List Cel)) : Prop where
 own : W.ownsRow B 46 1 v ls.length vs
 each : ∀ (i : Nat) (x : Value) (l : List Cel), vs[i]? = some x → ls[i]? = some l → HasC W B x l
namespace Lns
variable {W W' : World} {B : Nat} {v v' x : Value} {vs : List Value} {ls : List (List Cel)} {l : List Cel}
theorem nothing (W : World) (B : Nat) : Lns W B (.slice none 0 0) [] [] := ⟨World.ownsRow_nil _ _ _ _, fun i x l h => by simp at h⟩
theorem len (h : Lns W B v vs ls) : vs.length = ls.length := by have := h.own.1; omega
theorem keep (h : Lns W B v vs ls) (hk : ∀ j, B ≤ j → j < W.heap.size → W'.heap[j]? = W.heap[j]?) : Lns W' B v vs ls :=
 ⟨own_keep h.own fun j hj => hk j (h.own.lt j hj).1 (h.own.lt j hj).2, fun i x l hx hl => own_keep (h.each i x l hx hl) fun j hj => by
  have hh : W.ownsRow B 50 3 x l.length (flat l) := h.each i x l hx hl
  exact hk j (hh.lt j hj).1 (hh.lt j hj).2⟩
theorem laid (h : Lns W B v vs ls) (hb : Laid W W') : Lns W' B v vs ls := h.keep fun j _ hj => hb.block j hj
theorem put (h : Lns W B v vs ls) {j : Nat} {o : Obj} (o' : Obj) (ho : W.heap[j]? = some o) (hc : o.isCells = false) : Lns (W.putObj j o') B v vs ls :=
 ⟨ownsRow_putObj h.own o' ho hc, fun i x l hx hl => ownsRow_putObj (h.each i x l hx hl) o' ho hc⟩
theorem down (h : Lns W B v vs ls) {B' : Nat} (hb : B' ≤ B) : Lns W B' v vs ls := ⟨own_down h.own hb, fun i x l hx hl => own_down (h.each i x l hx hl) hb⟩
theorem snoc (h : Lns W B v vs ls) (hx : HasC W B x l) (ho : W'.ownsRow B 46 1 v' (ls.length + 1) (vs ++ [x])) (hg : W.grownBy W' v.ownBlock) : Lns W' B v' (vs ++ [x]) (ls ++ [l]) := by
 have keepc : ∀ {y : Value} {m : List Cel}, HasC W B y m → HasC W' B y m := fun {y m} hy => own_keep hy fun j hj => by
  have hh : W.ownsRow B 50 3 y m.length (flat m) := hy
  exact hg.block j (hh.lt j hj).2 (fun e => own_ne hh h.own (by decide) j hj e.symm)
 refine ⟨by rw [List.length_append, List.length_singleton]; exact ho, fun i y m hy hm => ?_⟩
 have hl := h.len
 by_cases hi : i < ls.length
 ·rw [List.getElem?_append_left (by omega)] at hy
  rw [List.getElem?_append_left hi] at hm
  exact keepc (h.each i y m hy hm)
 ·have hi2 := (List.getElem?_eq_some_iff.1 hm).1
  rw [List.length_append, List.length_singleton] at hi2
  obtain rfl : i = ls.length := by omega
  rw [List.getElem?_append_right (by omega), hl, Nat.sub_self] at hy
  rw [List.getElem?_append_right (Nat.le_refl _), Nat.sub_self] at hm
  simp at hy hm
  subst hy hm
  exact keepc hx
end Lns
def LnsPost (ls : List (List Cel)) (w : World) (e : Ending) (w' : World) : Prop := ∃ v vs, e = .returned v ∧ Lns w' w.heap.size v vs ls ∧ Below w.heap.size w w'
structure BoxL (w0 : World) (g B : Nat) (ls : List (List Cel)) (W : World) : Prop where
 old : Below w0.heap.size w0 W
 low : w0.heap.size ≤ g
 gB : g < B
 big : B ≤ W.heap.size
 box : ∃ A c vs, W.heap[g]? = some (.cells #[.slice A ls.length c] 23 (0, 0)) ∧ Lns W B (.slice A ls.length c) vs ls
namespace BoxL
theorem low' {w0 W : World} {g B : Nat} {ls : List (List Cel)} (h : BoxL w0 g B ls W) : w0.heap.size ≤ B := Nat.le_trans h.low (Nat.le_of_lt h.gB)
variable {w0 W W' : World} {g B : Nat} {ls : List (List Cel)}
theorem laid (h : BoxL w0 g B ls W) (hb : Laid W W') : BoxL w0 g B ls W' := by
 obtain ⟨A, c, vs, h1, h2⟩ := h.box
 exact ⟨h.old.trans (hb.mono h.old.size), h.low, h.gB, Nat.le_trans h.big hb.size, A, c, vs, (hb.block _ (Array.getElem?_eq_some_iff.1 h1).1).trans h1, h2.laid hb⟩
theorem put (h : BoxL w0 g B ls W) {j : Nat} {o : Obj} (o' : Obj) (hj : w0.heap.size ≤ j) (ho : W.heap[j]? = some o) (hc : o.isCells = false) : BoxL w0 g B ls (W.putObj j o') := by
 obtain ⟨A, c, vs, h1, h2⟩ := h.box
 refine ⟨h.old.trans ⟨rfl, rfl, rfl, by simp, fun k hk => World.putObj_heap_other (by omega)⟩, h.low, h.gB, by simp; exact h.big, A, c, vs, (World.putObj_heap_other (fun e => ?_)).trans h1, h2.put o' ho hc⟩
 subst e
 rw [h1] at ho
 cases ho
 cases hc
theorem snoc {A : Option Addr} {c : Nat} {vs : List Value} {v' x : Value} {l : List Cel} (h : BoxL w0 g B ls W) (hb : W.heap[g]? = some (.cells #[.slice A ls.length c] 23 (0, 0))) (hl : Lns W B (.slice A ls.length c) vs ls) (hx : HasC W B x l)
  (ho : W'.ownsRow B 46 1 v' (ls.length + 1) (vs ++ [x])) (hg : W.grownBy W' (Value.slice A ls.length c).ownBlock) : BoxL w0 g B (ls ++ [l]) (W'.setCell ⟨g, 0, none⟩ v') := by
 have hlt := (Array.getElem?_eq_some_iff.1 hb).1
 have hne : ∀ j, j < B → (Value.slice A ls.length c).ownBlock ≠ some j := fun j hj e => by have := (hl.own.lt j e).1; omega
 have hb' : W'.heap[g]? = _ := (hg.block g hlt (fun e => hne g h.gB e.symm)).trans hb
 obtain ⟨A', c', rfl, hc'⟩ := own_cap ho
 have hs := hl.snoc hx ho hg
 refine ⟨?_, h.low, h.gB, ?_, A', c', vs ++ [x], ?_, ?_⟩
 ·have h1 : Below w0.heap.size w0 W' := h.old.grown hg h.old.size (fun j e => by have h1 := (hl.own.lt j e).1; have := h.low; have := h.gB; omega)
  exact h1.setCell (p := ⟨g, 0, none⟩) h.low _
 ·have := h.big; have := hg.size; simp; omega
 ·rw [List.length_append, List.length_singleton]
  have := heap_setCell_same W' g 0 _ _ (.slice A' (ls.length + 1) c') hb'
  simpa using this
 ·rw [List.length_append, List.length_singleton]
  refine hs.keep fun j hj _ => Below.heap_setCell _ _ _ _ ?_
  have := h.gB
  show j ≠ g
  omega
end BoxL
theorem part_le {p : List LR} : ∀ {l : List LR}, p ∈ parts l → p.length ≤ l.length
 | [], h => by simp [parts] at h
 | r :: rs, h => by
  rw [parts_cons] at h
  cases e : parts rs with
  | nil =>
   rw [e] at h
   simp [addP] at h
   subst h
   simp
  | cons q qs =>
   have ih := fun h => part_le (p := p) (l := rs) h
   have iq := part_le (p := q) (l := rs) (by rw [e]; simp)
   rw [e] at h ih
   rw [addP_cons] at h
   split at h
   ·rcases List.mem_cons.1 h with rfl | h
    ·simp; omega
    ·have := ih (by simp [h]); simp; omega
   ·rcases List.mem_cons.1 h with rfl | h
    ·simp
    ·have := ih h; simp; omega
theorem joinL_next {rs : List LR} {k : Nat} {part : List LR} (h : (parts rs)[k]? = some part) : (joinL rs).take (k + 1) = (joinL rs).take k ++ [joined part] := by
 unfold joinL
 rw [← List.map_take, ← List.map_take, take_one h, List.map_append]
 rfl
theorem cell_single (w : World) (e : TypeId) (x : Value) : ∀ (j : Nat) (u : Value), [x][j]? = some u → (w.alloc (.cells #[x] e)).cell? ((⟨w.heap.size, 0, none⟩ : Addr).add j) = some u := by
 intro j u hu
 rw [add_at, Nat.zero_add, cell_of_row _ _ _ _ _ (0, 0) (heap_alloc_new w _)]
 match j, hu with
 | 0, hu => exact hu
 | j + 1, hu => simp at hu
set_option maxRecDepth 100000 in
set_option maxHeartbeats 6400000 in
theorem join_walk (A : Option Addr) (n c : Nat) (rs : List RowIn) (w : World) (hs : Spans w) (hr : Rws w w.heap.size A n rs) (hc : n ≤ c) (hn : n ≤ 1000000) :
  Calls Tryz.prog 14 #[.slice A n c] w fun e w' => LnsPost (joinL (rs.map lr)) w e w' := by
 obtain ⟨i0, hi0, hz0, hz1, hz2⟩ := info_parts infoSl
 obtain ⟨S, hS⟩ : ∃ S, w.heap.size = S := ⟨_, rfl⟩
 obtain ⟨N, hN⟩ : ∃ N, (parts (rs.map lr)).length = N := ⟨_, rfl⟩
 have hNn : N ≤ 1000000 := by
  have h1 := parts_length_le (rs.map lr)
  rw [hN, List.length_map, hr.len] at h1
  omega
 have hJN : (joinL (rs.map lr)).length = N := by unfold joinL; rw [List.length_map, hN]
 have hsp : 0 < S := by rw [← hS]; exact hs.size
 obtain ⟨w1, hw1⟩ : ∃ w1, w.alloc (.cells #[.slice none 0 0] 23) = w1 := ⟨_, rfl⟩
 have b1 : Below w.heap.size w w1 := by rw [← hw1]; exact (Below.refl _ _).alloc (Nat.le_refl _) _
 have z1 : w1.heap.size = S + 1 := by rw [← hw1, ← hS]; simp
 obtain ⟨w2, hw2⟩ : ∃ w2, w1.alloc (.cells #[.slice A n c] 22) = w2 := ⟨_, rfl⟩
 have b2 : Laid w1 w2 := by rw [← hw2]; exact (Below.refl _ _).alloc (Nat.le_refl _) _
 have z2 : w2.heap.size = S + 2 := by rw [← hw2]; simp [z1]
 have h0 : BoxL w S (S + 2) [] w2 := by
  refine ⟨b1.trans (b2.mono b1.size), by rw [hS]; exact Nat.le_refl _, by omega, by omega, none, 0, [], (b2.block S (by omega)).trans ?_, Lns.nothing _ _⟩
  rw [← hw1, ← hS]
  exact heap_alloc_new w _
 have hps : PSrc S (S + 1) A n c rs w2 := by
  refine ⟨hs.below h0.old hs.size, hsp, ?_, ?_, by omega⟩
  ·rw [← hw2, ← z1]
   exact heap_alloc_new w1 _
  ·have := hr.below h0.old
   rw [hS] at this
   exact this
 have TL := Lib.hid (parts_tells (Kp := Leaves S (S + 1)) hps hc (fun _ _ h => h) hn)
 rw [hN] at TL
 have SW := Lib.hid (parts_walk A n c w1)
 rw [hw2, z1] at SW
 have H0 := Lib.hid h0
 have HPS := Lib.hid hps
 have HW := Lib.hid hw1
 have HS := Lib.hid hS
 have Z2 := Lib.hid z2
 have HJ := Lib.hid hJN
 have HN := Lib.hid hNn
 clear hr hs hps h0 b1 b2 hw1 hw2 z1 z2 hJN hsp hNn hN
 obtain ⟨JL, hJL⟩ : ∃ JL, joinL (rs.map lr) = JL := ⟨_, rfl⟩
 have NX := Lib.hid (show ∀ (k : Nat) (part : List LR), (parts (rs.map lr))[k]? = some part → JL.take (k + 1) = JL.take k ++ [joined part] from fun k part h => by rw [← hJL]; exact joinL_next h)
 rw [hJL] at HJ ⊢
 clear hJL
 refine (callsIn_wide (n := 3)).1 (callsIn_of_wp_marks Tryz.func14 rfl trivial ?_ rfl)
 simp only [Tryz.ntmps14, List.size_toArray, List.length_cons, List.length_nil, Nat.reduceAdd, Nat.reduceSub, Array.replicate_succ, Array.replicate_zero, List.push_toArray, List.append_toArray, List.nil_append, List.cons_append]
 refine wpIn_wide.2 ?_
 go_wp2_with fail
 rw [HW.out]
 refine SW.out.mono ?_
 rintro e w' ⟨rfl, rfl⟩
 go_wp2_with fail
 refine wp_over (Fit := FitP S rs) (Kp := Leaves S (S + 1)) (N := N) (gf := 74) (lb := #[.pointer (some ⟨S + 1, 0, none⟩)]) rfl (enters_of Tryz.func74 (by kernel_rfl) rfl) TL.out Leaves.trans
  (fun A B hA h => Leaves.laid h (by have := Z2.out; omega) (by have := Z2.out; omega)) (fun W l o o' hl ho hc => Leaves.put (by have := Z2.out; omega) (by have := Z2.out; omega) o') (fun k x W h => by obtain ⟨_, _, _, _, rfl, _⟩ := h; rfl)
  (fun k W => Hid (BoxL w S (S + 2) (JL.take k) W ∧ PSrc S (S + 1) A n c rs W)) (fun _ _ _ => False)
  (fun k A B h hb => Lib.hid ⟨h.out.1.laid hb, h.out.2.laid hb⟩) (fun k W l o o' hl ho hc h => Lib.hid ⟨h.out.1.put o' (by have := Z2.out; have := HS.out; omega) ho hc, h.out.2.kept (Leaves.put (by have := Z2.out; omega) (by have := Z2.out; omega) o')⟩)
  (fun _ _ _ _ h _ => h) (fun _ _ _ _ _ _ _ _ _ h => h) (Lib.hid ⟨H0.out, HPS.out⟩) ?round ?done (fun _ _ _ _ _ _ h _ => h.elim)
 case round =>
  rintro l2 k2 x W hk2 hl2 ⟨o, ho, hoc⟩ hi ⟨A', n', c', sub, rfl, hsub, hrw, hcc⟩
  gi_wp2
  refine ⟨Below.refl _ _, fun o1 => ?_⟩
  have hS2 : S + 2 ≤ l2 := by have := Z2.out; omega
  have H2 := Lib.hid (hi.out.1.put o1 (by have := HS.out; omega) ho hoc)
  have P2 := Lib.hid (hi.out.2.kept (W' := W.putObj l2 o1) (Leaves.put (S := S) (Bx := S + 1) (by omega) (by omega) o1))
  have R2 := Lib.hid (hrw.kept (W' := W.putObj l2 o1) fun j hj => World.putObj_heap_other (by omega))
  generalize W.putObj l2 o1 = W2 at H2 P2 R2 ⊢
  clear hi ho hrw
  obtain ⟨l0, hl0⟩ : ∃ l0, JL.take k2 = l0 := ⟨_, rfl⟩
  have hll : l0.length = k2 := by rw [← hl0, List.length_take, HJ.out]; omega
  rw [hl0] at H2
  obtain ⟨A2, c2, vs, hb2, ho2⟩ := H2.out.box
  have c3 : W2.cell? ⟨S, 0, none⟩ = some (.slice A2 l0.length c2) := cell_of_row _ _ 0 _ _ (0, 0) hb2
  have B1 := Lib.hid (show l0.length + 1 ≤ maxLen from by have := HN.out; unfold maxLen; omega)
  have B2 := Lib.hid (show (l0.length + 1) * 24 ≤ 140737488355328 from by have := HN.out; omega)
  have OW := Lib.hid ho2
  have HB := Lib.hid hb2
  have C3 := Lib.hid c3
  have HK := Lib.hid (show JL.take (k2 + 1) = l0 ++ [joined (sub.map lr)] from by rw [NX.out _ _ hsub, hl0])
  have hn' : n' ≤ 1000000 := by
   have h2 := part_le (List.mem_of_getElem? hsub)
   rw [List.length_map, List.length_map, R2.out.len, P2.out.rows.len] at h2
   omega
  have JW := Lib.hid (fun (W' : World) (hb : Laid W2 W') => joined_walk A' n' c' sub W' (P2.out.laid hb).sp ((R2.out.below (hb.mono P2.out.big)).up (Nat.le_trans P2.out.big hb.size)) hn')
  clear hb2 ho2 hl0 hll hsub hn'
  gi_wp2
  have D2 : Laid W2 W2.drew := (Below.refl _ _).drew
  refine Ord.start_in (S := fun _ => True) (n := 6) (R := fun _ W => KeepsFrom w'.heap.size W2 W ∧ Leaves S (S + 1) W2 W ∧ Hid (BoxL w S (S + 2) (JL.take (k2 + 1)) W ∧ PSrc S (S + 1) A n c rs W)) (by kernel_rfl) (by kernel_rfl) (by kernel_rfl) ?_ (fun a W h => h)
  refine joinAp (w1 := W2.drew) (m := l0.length) (S := S) (B := S + 2) (A2 := A2) (c2 := c2) (vs := vs) (x := .slice A' n' c') (G := fun W y => Laid W2 W ∧ HasC W W2.heap.size y (joined (sub.map lr))) ⟨by kernel_rfl, by kernel_rfl⟩ hi0 hz0 hz1 hz2 HB.out ?_ ?_ (by omega) H2.out.big B1.out B2.out _ ?_ ?_ ?_ ?_
  ·refine (JW.out _ D2).mono ?_
   rintro e W3 ⟨v5, rfl, h5, b5⟩
   obtain ⟨A5, d5, rfl, _⟩ := own_cap (show W3.ownsRow W2.drew.heap.size 50 3 v5 (trimL ((sub.map lr).flatMap cellsR)).length _ from h5)
   exact ⟨A5, _, d5, rfl, D2.trans b5, h5⟩
  ·rintro W3 y ⟨b5, h5⟩
   exact ⟨⟨b5.os, b5.tape, b5.output, b5.size, b5.block⟩, (OW.out.laid b5).own⟩
  ·rfl
  ·rfl
  ·rfl
  ·rintro a3 W3 A5 n5 c5 A4 c4 W4 ⟨b5, h5⟩ ho hg
   have O3 := H2.out.laid b5
   have hbig := O3.big
   have b6 : Laid W2 (W3.alloc (.cells #[.slice A5 n5 c5] 46)) := b5.alloc b5.size _
   have hx : HasC (W3.alloc (.cells #[.slice A5 n5 c5] 46)) (S + 2) (.slice A5 n5 c5) (joined (sub.map lr)) := own_down (own_laid h5 ((Below.refl _ _).alloc (Nat.le_refl _) _)) H2.out.big
   have hL := OW.out.laid b6
   have hne : ∀ j, (Value.slice A2 l0.length c2).ownBlock = some j → S + 2 ≤ j := fun j e => (hL.own.lt j e).1
   refine ⟨?_, ?_, Lib.hid ⟨?_, ?_⟩⟩
   ·exact (keeps_laid b6).trans ((keeps_grown hg (own_isCells hL.own)).trans ((KeepsOthers.setCell _ _ _).from _))
   ·refine ⟨?_, fun j hj => ?_⟩
    ·have h1 := b6.size
     have h2 := hg.size
     simp at h1 h2 ⊢
     omega
    ·have hj2 : j < S + 2 := by omega
     refine (Below.heap_setCell _ _ _ _ (by show j ≠ S; omega)).trans ((hg.block j (by have := H2.out.big; simp; omega) (fun e => by have := hne j e.symm; omega)).trans (b6.block j (by have := H2.out.big; omega)))
   ·rw [HK.out]
    exact BoxL.snoc (H2.out.laid b6) ((b6.block S (by have := H2.out.big; omega)).trans HB.out) hL hx ho hg
   ·refine P2.out.kept ⟨?_, fun j hj => ?_⟩
    ·have h1 := b6.size
     have h2 := hg.size
     simp at h1 h2 ⊢
     omega
    ·have hj2 : j < S + 2 := by omega
     refine (Below.heap_setCell _ _ _ _ (by show j ≠ S; omega)).trans ((hg.block j (by have := H2.out.big; simp; omega) (fun e => by have := hne j e.symm; omega)).trans (b6.block j (by have := H2.out.big; omega)))
 case done =>
  rintro D W hD hi hdef
  rw [List.take_of_length_le (by rw [HJ.out]; exact Nat.le_refl _)] at hi
  obtain ⟨A2, c2, vs, hb2, ho2⟩ := hi.out.1.box
  have c3 : W.cell? ⟨S, 0, none⟩ = some (.slice A2 JL.length c2) := cell_of_row _ _ 0 _ _ (0, 0) hb2
  have HI := Lib.hid (And.intro hi.out hdef)
  have HO := Lib.hid ho2
  clear hi hdef hb2 ho2 TL
  go_wp2_with fail
  refine ⟨by simp, .inl ⟨_, _, rfl, run_takeDeferred HI.out.2, ?_⟩⟩
  have o2 : Below w.heap.size w (W.putObj D (.deferred none)) := HI.out.1.1.old.trans ⟨rfl, rfl, rfl, by simp, fun k hk => World.putObj_heap_other (by have := Z2.out; have := HS.out; omega)⟩
  refine ⟨_, ?_, _, vs, rfl, (HO.out.put _ HI.out.2 rfl).down HI.out.1.1.low', o2⟩
  simp [results, go_sem]
end Ln
end Go.Proofs.YtgmijnnhanpocaaGreatDoor
