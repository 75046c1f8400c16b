/-
  The reference's sixty-four signs, by bits. A region that draws its order, gone through once, in every world of a class: what it reads stays there, and what it calls may make memory. '[]byte(s)', a byte of it set, 'string(b)' of it.
-/
import Derived.Test.YtgmijnnhanpocabGreatDoorQBBase1
import Derived.Test.YtgmijnnhanpocabGreatDoorQBBase0
import Derived.BigQuiet
namespace Go.Proofs.YtgmijnnhanpocabGreatDoor
open Go.ChangeShapes Go.WideShapes Go.ChangeAt Go.RowKit
namespace BM
def i64v (x : Nat) : Value := .int .i64 (x : Int)
theorem infoI64 : (Tryz.prog.info? 3).map (fun i => (i.zero, i.size, i.bytes)) = some (some (.int .i64 0), 1, 8) := by kernel_rfl
def HasI (w : World) (base : Nat) (v : Value) (xs : List Nat) : Prop := w.ownsRow base 3 1 v xs.length (xs.map i64v)
theorem HasI.nothing (w : World) (base : Nat) : HasI w base (.slice none 0 0) [] := World.ownsRow_nil w base _ _
theorem HasI.shape {w : World} {base : Nat} {v : Value} {xs : List Nat} (h : HasI w base v xs) : ∃ A c, v = .slice A xs.length c := by
 rcases h.2 with ⟨rfl, h0⟩ | ⟨g, cap, cur, rfl, _⟩
 ·rw [h0]; exact ⟨_, _, rfl⟩
 ·exact ⟨_, _, rfl⟩
theorem HasI.ge {w : World} {base : Nat} {v : Value} {xs : List Nat} (h : HasI w base v xs) : ∀ k, v.ownBlock = some k → base ≤ k := fun k e => (World.ownsRow.lt h k e).1
theorem HasI.snoc {w : World} {base : Nat} {v : Value} {xs : List Nat} {x : Nat} (h : w.ownsRow base 3 1 v (xs.length + 1) (xs.map i64v ++ [i64v x])) : HasI w base v (xs ++ [x]) := by
 unfold HasI
 rw [List.length_append, List.map_append]
 exact h
theorem HasI.at' {w : World} {base n c : Nat} {A : Option Addr} {xs : List Nat} {k x : Nat} (h : HasI w base (.slice A n c) xs) (hx : xs[k]? = some x) : ∃ b off, A = some ⟨b, off, none⟩ ∧ k < n ∧ w.cell? ⟨b, off + k, none⟩ = some (.int .i64 (x : Int)) := by
 obtain ⟨A', c', e⟩ := h.shape
 injection e with e1 e2 e3
 subst e2
 have hk := (List.getElem?_eq_some_iff.1 hx).1
 have hq := Sq.own h
 obtain ⟨b, off, e, _, hc⟩ := hq.spot (by omega)
 exact ⟨b, off, e, hk, hc k _ (by rw [List.getElem?_map, hx]; rfl)⟩
theorem HasN.laid {w w' : World} {base : Nat} {v : Value} {xs : List Nat} (h : HasN w base v xs) (hb : Below w.heap.size w w') : HasN w' base v xs :=
 World.ownsRow.kept (row := none) h ⟨hb.os, hb.tape, hb.output, hb.size, fun k hk _ => hb.block k hk⟩ (by cases hv : v.ownBlock <;> simp)
theorem i64_one (x : Nat) : ∀ u ∈ [i64v x], u.oneCell' = true := by intro u hu; simp at hu; subst hu; rfl
theorem fit8 {n : Nat} (h : n ≤ 1000000) : (n + 1) * 8 ≤ 140737488355328 := by omega
theorem refSigns_all : ∃ S : ByteArray, bts S = alpha ∧ ∀ w, Calls Tryz.prog 26 #[] w fun e w' => e = .returned (.string S) ∧ w = w' := by
 refine ⟨alphaT, alphaS_is, fun w => ?_⟩
 go_enter Tryz.func26, Tryz.ntmps26
 go_wp2_with fail
 go_ret
 exact ⟨rfl, rfl⟩
theorem refSigns_walk (w : World) : Calls Tryz.prog 26 #[] w fun e w' => ∃ S : ByteArray, e = .returned (.string S) ∧ bts S = alpha ∧ w = w' := by
 obtain ⟨S, hS, hC⟩ := refSigns_all
 refine (hC w).mono ?_
 rintro e w' ⟨rfl, rfl⟩
 exact ⟨S, rfl, hS, rfl⟩
def strLn : Value → Nat
 | .string s => s.size
 | _ => 0
theorem bits8_at (y : Nat) : ∀ j, j < 8 → (bits8 y)[j]? = some (y / (128 / 2 ^ j) % 2)
 | 0, _ => rfl
 | 1, _ => rfl
 | 2, _ => rfl
 | 3, _ => rfl
 | 4, _ => rfl
 | 5, _ => rfl
 | 6, _ => rfl
 | 7, _ => rfl
 | j + 8, h => by omega
theorem bits6_at (y : Nat) : ∀ j, j < 6 → (bits6 y)[j]? = some (y / (32 / 2 ^ j) % 2)
 | 0, _ => rfl
 | 1, _ => rfl
 | 2, _ => rfl
 | 3, _ => rfl
 | 4, _ => rfl
 | 5, _ => rfl
 | j + 6, h => by omega
theorem half_pow (n j : Nat) : n / 2 ^ j / 2 = n / 2 ^ (j + 1) := by rw [Nat.div_div_eq_div_mul, Nat.pow_succ]
theorem b8_pos : ∀ j, j ≤ 8 → (0 < 128 / 2 ^ j ↔ j < 8) := by decide
theorem b6_pos : ∀ j, j ≤ 6 → (0 < 32 / 2 ^ j ↔ j < 6) := by decide
theorem wrap64_in {n : Nat} (h : n < 4611686018427387904) : wrap64 (n : Int) = (n : Int) := by unfold wrap64; omega
theorem two_mod {z x : Nat} (h : z % 2 = x) : (z : Int).tmod 2 = (x : Int) ∧ (z : Int) % 2 = (x : Int) := by
 rw [Int.tmod_eq_emod_of_nonneg (Int.natCast_nonneg z)]
 exact ⟨by omega, by omega⟩
theorem take_snoc {l : List Nat} {k x : Nat} (h : l[k]? = some x) : l.take (k + 1) = l.take k ++ [x] := by
 obtain ⟨h1, h2⟩ := List.getElem?_eq_some_iff.1 h
 rw [List.take_succ_eq_append_getElem h1, h2]
def part (B : List Nat) (i j : Nat) : Nat := val 2 ((List.range j).map fun t => B.getD (i + t) 0)
theorem part_next (B : List Nat) (i j : Nat) : part B i (j + 1) = part B i j * 2 + B.getD (i + j) 0 := by
 unfold part
 rw [List.range_succ, List.map_append, List.map_cons, List.map_nil, val_snoc]
theorem sixN_next (B : List Nat) (k : Nat) : sixN B (k + 1) = sixN B k ++ [chunk B 6 (6 * k)] := by
 unfold sixN
 rw [List.range_succ, List.map_append]
 rfl
theorem eightN_next (B : List Nat) (k : Nat) : eightN B (k + 1) = eightN B k ++ [chunk B 8 (8 * k)] := by
 unfold eightN
 rw [List.range_succ, List.map_append]
 rfl
theorem txt_ne {a b : ByteArray} (h : ¬ a = b) : (a.toList == b.toList) = false :=
 beq_eq_false_iff_ne.2 fun e => h (ByteArray.ext (Array.toList_inj.1 (by rw [ByteArray.toList_eq, ByteArray.toList_eq] at e; exact e)))
theorem eightN_len (B : List Nat) (k : Nat) : (eightN B k).length = k := by unfold eightN; simp
def Bit (B : List Nat) : Prop := ∀ x ∈ B, x < 2
theorem getD_bit {B : List Nat} (h : Bit B) (k : Nat) : B.getD k 0 < 2 := by
 rw [List.getD_eq_getElem?_getD]
 cases e : B[k]? with
 | none => decide
 | some x => exact h x (List.mem_of_getElem? e)
theorem part_lt {B : List Nat} (h : Bit B) (i : Nat) : ∀ j, part B i j < 2 ^ j
 | 0 => by simp [part, val]
 | j + 1 => by
  rw [part_next, Nat.pow_succ]
  have h1 := part_lt h i j
  have h2 := getD_bit h (i + j)
  omega
theorem bits8_bit (l : List Nat) : Bit (l.flatMap bits8) := fun x hx => by
 obtain ⟨y, _, hy⟩ := List.mem_flatMap.1 hx
 simp [bits8] at hy
 rcases hy with rfl | rfl | rfl | rfl | rfl | rfl | rfl | rfl <;> omega
theorem bits6_bit (l : List Nat) : Bit (l.flatMap fun x => bits6 (idx x)) := fun x hx => by
 obtain ⟨y, _, hy⟩ := List.mem_flatMap.1 hx
 simp [bits6] at hy
 rcases hy with rfl | rfl | rfl | rfl | rfl | rfl <;> omega
theorem alpha_ext {S : ByteArray} (hS : bts S = alpha) (n : Nat) (h : n < 64) : bts (S.extract n (n + 1)) = [sgn n] := by
 rw [bts_ext, show n + 1 - n = 1 by omega, hS]
 unfold sgn
 have hl : n < alpha.length := h
 rw [List.drop_eq_getElem_cons hl, List.take_succ_cons, List.take_zero, List.getD_eq_getElem?_getD, List.getElem?_eq_getElem hl]
 rfl
theorem alpha_size {S : ByteArray} (hS : bts S = alpha) : S.size = 64 := by rw [← bts_len, hS]; rfl
theorem bts_app (a b : ByteArray) : bts (a ++ b) = bts a ++ bts b := by
 unfold bts
 rw [ByteArray.data_append, Array.toList_append, List.map_append]
set_option maxRecDepth 100000 in
set_option maxHeartbeats 6400000 in
theorem refPut_walk (s : ByteArray) (w : World) (hn : s.size ≤ 10000) :
  Calls Tryz.prog 13 #[.string s] w fun e w' => e = .returned (.string (txt (refPut (bts s)))) ∧ Below w.heap.size w w' := by
 obtain ⟨i0, hi, hz0, hz1, hz2⟩ := info_parts infoI64
 obtain ⟨n, hnn⟩ : ∃ n, s.size = n := ⟨_, rfl⟩
 have HN := Lib.hid hnn
 have GA := Lib.hid (show ∀ (k : Nat) (h : k < s.size), (bts s)[k]? = some ((s[k]'h).toNat) from bts_at s)
 have BL := Lib.hid (show (bts s).length = n from by rw [bts_len, hnn])
 obtain ⟨L, hL⟩ : ∃ L, bts s = L := ⟨_, rfl⟩
 have LB := Lib.hid (show Byt L from by rw [← hL]; exact bts_byt s)
 rw [hnn] at hn
 rw [hL] at GA BL ⊢
 have I0 := Lib.hid (show HasI w w.heap.size (.slice none 0 0) ((L.take 0).flatMap bits8) ∧ Below w.heap.size w w from ⟨HasI.nothing _ _, Below.refl _ _⟩)
 clear hL
 go_enter Tryz.func13, Tryz.ntmps13
 go_wp2_with fail
 go_loopw [3, 4, 5] (fun v i _ wr => ∃ k : Nat, i = .int .i64 (k : Int) ∧ k ≤ n ∧ Hid (HasI wr w.heap.size v ((L.take k).flatMap bits8) ∧ Below w.heap.size w wr)) (fun _ i _ _ => n - (intOf i).toNat)
 case atStart => exact ⟨0, rfl, Nat.zero_le _, I0⟩
 case round =>
  obtain ⟨k, rfl, hk, I⟩ := hrel
  clear I0
  by_cases hlt : k < n
  ·have hg : k < s.size := by rw [HN.out]; exact hlt
   obtain ⟨y, hy⟩ : ∃ y, (s[k]'hg).toNat = y := ⟨_, rfl⟩
   have hgt : ∀ h : k < s.size, (s[k]'h).toNat = y := fun _ => hy
   have GY := Lib.hid (show L[k]? = some y from by rw [GA.out k hg, hy])
   have hy2 : y < 256 := LB.out _ (List.mem_of_getElem? GY.out)
   have hlt' : (k : Int) < (n : Int) := by omega
   have k0 : (0 : Int) ≤ (k : Int) := by omega
   have BLn := Lib.hid (show ((L.take k).flatMap bits8).length ≤ 80000 from by rw [bits8_len, List.length_take]; omega)
   have NX := Lib.hid (show (L.take (k + 1)).flatMap bits8 = (L.take k).flatMap bits8 ++ (bits8 y).take 8 from by
    rw [take_snoc GY.out, List.flatMap_append, List.flatMap_cons, List.flatMap_nil, List.append_nil]
    rfl)
   obtain ⟨P, hP⟩ : ∃ P, (L.take k).flatMap bits8 = P := ⟨_, rfl⟩
   rw [hP] at NX BLn I
   have J0 := Lib.hid (show HasI wr w.heap.size u3 (P ++ (bits8 y).take 0) ∧ Below w.heap.size w wr from ⟨by rw [List.take_zero, List.append_nil]; exact I.out.1, I.out.2⟩)
   clear hP hy I
   go_wp2_with fail
   go_loopw [3, 5] (fun v b wq => ∃ j : Nat, j ≤ 8 ∧ b = .int .i64 ((128 / 2 ^ j : Nat) : Int) ∧ Hid (HasI wq w.heap.size v (P ++ (bits8 y).take j) ∧ Below w.heap.size w wq)) (fun _ b _ => (intOf b).toNat)
   case atStart => exact ⟨0, by omega, rfl, J0⟩
   case round =>
    obtain ⟨j, hj, rfl, J⟩ := hrel
    clear J0
    have BP := Lib.hid (b8_pos j hj)
    have BA := Lib.hid (fun h => bits8_at y j h)
    have BH := Lib.hid (half_pow 128 j)
    obtain ⟨b, hb⟩ : ∃ b, 128 / 2 ^ j = b := ⟨_, rfl⟩
    rw [hb] at BP BA BH ⊢
    have hb2 : b ≤ 128 := by rw [← hb]; exact Nat.div_le_self _ _
    clear hb
    by_cases hlt8 : j < 8
    ·have hb0 : 0 < b := BP.out.2 hlt8
     have hbp : (0 : Int) < (b : Int) := by omega
     have hbz : ¬ (b : Int) = 0 := by omega
     obtain ⟨x, hx⟩ : ∃ x, y / b % 2 = x := ⟨_, rfl⟩
     have BX := Lib.hid (show (bits8 y)[j]? = some x from by rw [BA.out hlt8, hx])
     obtain ⟨z, hz⟩ : ∃ z, y / b = z := ⟨_, rfl⟩
     have hz64 : wrap64 ((y : Int) / (b : Int)) = (z : Int) := by
      rw [show (y : Int) / (b : Int) = (z : Int) by rw [← hz]; push_cast; rfl]
      have : z ≤ y := by rw [← hz]; exact Nat.div_le_self _ _
      exact wrap64_in (by omega)
     rw [hz] at hx
     obtain ⟨hxi, hxi2⟩ := two_mod hx
     obtain ⟨h2, hh2⟩ : ∃ h2, b / 2 = h2 := ⟨_, rfl⟩
     rw [hh2] at BH
     have hb3 : (b : Int) / 2 = (h2 : Int) := by omega
     have hb4 : IntKind.i64.wrap ((b : Int).tdiv 2) = (h2 : Int) := by rw [Int.tdiv_eq_ediv_of_nonneg (by omega), hb3]; exact IntWalk.i64_in _ (by omega)
     have hb5 : (b : Int).tdiv 2 = (h2 : Int) := by rw [Int.tdiv_eq_ediv_of_nonneg (by omega), hb3]
     have LX := Lib.hid (show (P ++ (bits8 y).take j).length ≤ 90000 from by rw [List.length_append, List.length_take]; have := BLn.out; omega)
     have BW := Lib.hid J.out.2.size
     clear hx hz hh2
     go_wp2_with (at_builtin; refine wpList_append_own _ rfl _ _ 41 rfl w.heap.size 3 i0 (.int .i64 0) 1 8 Tryz.underlying41 hi hz0 hz1 hz2 rfl (by decide) u3 _ _ rfl (World.ownsRow.alloc J.out.1 _) ⟨wr.heap.size, 0, none⟩ 1 1 [i64v x] rfl rfl (new_at rfl _ _) (i64_one _) (fit1 (by have := LX.out; omega)) (fit8 (by have := LX.out; omega)) (by have := BW.out; simp; omega) ?_; intro v4 w4 ho4 hg4 _; (have O4 := Lib.hid (HasI.snoc ho4)); (have G4 := Lib.hid hg4); clear ho4 hg4)
     go_roundw
     case rel =>
      refine ⟨j + 1, by omega, by rw [← BH.out], Lib.hid ⟨by rw [take_snoc BX.out, ← List.append_assoc]; exact O4.out, ?_⟩⟩
      have ba : Below w.heap.size wr (wr.alloc (.cells #[i64v x] 3)) := (Below.refl _ _).alloc (by have := BW.out; omega) _
      exact (J.out.2.trans ba).grown G4.out (by have := BW.out; simp; omega) (fun j e => HasI.ge J.out.1 j e)
     case measure => simp [intOf]; omega
    ·obtain rfl : j = 8 := by omega
     have hb0 : b = 0 := by have := BP.out; omega
     subst hb0
     have I2 := Lib.hid (show HasI wr w.heap.size u3 ((L.take (k + 1)).flatMap bits8) ∧ Below w.heap.size w wr from ⟨by rw [NX.out]; exact J.out.1, J.out.2⟩)
     clear J
     go_wp2_with fail
     go_roundw
     case rel => exact ⟨k + 1, by go_num, by omega, I2⟩
     case measure => first | (simp [intOf]; done) | (simp [intOf]; omega)
  ·obtain rfl : k = n := by omega
   have hnl : ¬ (k : Int) < (k : Int) := by omega
   have EA := Lib.hid (show L.take k = L from List.take_of_length_le (by rw [BL.out]; exact Nat.le_refl _))
   rw [EA.out] at I
   have BLn := Lib.hid (show (L.flatMap bits8).length = 8 * k from by rw [bits8_len, BL.out])
   have BT := Lib.hid (bits8_bit L)
   have RP := Lib.hid (show refPut L = padF ((sixN (L.flatMap bits8) (((L.flatMap bits8).length + 5) / 6)).map sgn) from rfl)
   obtain ⟨Bs, hBs⟩ : ∃ Bs, L.flatMap bits8 = Bs := ⟨_, rfl⟩
   rw [hBs] at I BLn BT RP
   obtain ⟨m, hm⟩ : ∃ m, Bs.length = m := ⟨_, rfl⟩
   have hm8 : m ≤ 80000 := by have := BLn.out; omega
   obtain ⟨A, c, rfl⟩ := HasI.shape I.out.1
   have HI := Lib.hid I.out.1
   have HB := Lib.hid I.out.2
   have HM := Lib.hid hm
   have P0 := Lib.hid (show ∃ o : ByteArray, ({ data := #[] } : ByteArray) = o ∧ bts o = (sixN Bs 0).map sgn from ⟨_, rfl, rfl⟩)
   rw [hm] at RP ⊢
   clear hBs I EA hm GA BL LB
   go_wp2_with fail
   go_loopw [6, 7, 8, 9] (fun o i _ _ wq => ∃ k : Nat, i = .int .i64 ((6 * k : Nat) : Int) ∧ 6 * k < m + 6 ∧ wr = wq ∧ Hid (∃ u : ByteArray, o = .string u ∧ bts u = (sixN Bs k).map sgn)) (fun _ i _ _ _ => m - (intOf i).toNat)
   case atStart => exact ⟨0, rfl, by omega, rfl, Lib.hid ⟨_, rfl, rfl⟩⟩
   case round =>
    obtain ⟨q, rfl, hq, rfl, O⟩ := hrel
    clear P0
    obtain ⟨u, rfl, hu⟩ := O.out
    have HU := Lib.hid hu
    obtain ⟨i6, hi6⟩ : ∃ i6, 6 * q = i6 := ⟨_, rfl⟩
    rw [hi6] at hq ⊢
    clear O
    have US := Lib.hid (show u.size ≤ 20000 from by rw [← bts_len, hu, List.length_map, sixN_len]; omega)
    clear hu
    by_cases hlt : i6 < m
    ·have hlt' : (i6 : Int) < (m : Int) := by omega
     have hi6w : IntKind.i64.wrap ((i6 : Int) + 6) = (i6 : Int) + 6 := IntWalk.i64_in _ (by omega)
     go_wp2_with fail
     go_loopw [8, 9] (fun a b wq => ∃ j : Nat, j ≤ 6 ∧ a = .int .i64 ((part Bs i6 j : Nat) : Int) ∧ b = .int .i64 ((i6 : Int) + (j : Int)) ∧ wr = wq) (fun _ b _ => i6 + 6 - (intOf b).toNat)
     case atStart => exact ⟨0, by omega, rfl, by go_num, rfl⟩
     case round =>
      obtain ⟨j, hj, rfl, rfl, rfl⟩ := hrel
      have PN := Lib.hid (part_next Bs i6 j)
      have PL := part_lt BT.out i6 j
      have PL2 : part Bs i6 j < 64 := Nat.lt_of_lt_of_le PL (Nat.pow_le_pow_right (by decide) hj)
      obtain ⟨X, hX⟩ : ∃ X, part Bs i6 j = X := ⟨_, rfl⟩
      rw [hX] at PN PL2 ⊢
      obtain ⟨z, hz⟩ : ∃ z, i6 + j = z := ⟨_, rfl⟩
      have hzi : (i6 : Int) + (j : Int) = (z : Int) := by omega
      rw [hz] at PN
      rw [hzi]
      have HX := Lib.hid hX
      clear PL hX hz
      by_cases hlt6 : j < 6
      ·have hzl : (z : Int) < (i6 : Int) + 6 := by omega
       have hz0 : (0 : Int) ≤ (z : Int) := by omega
       by_cases hzm : z < m
       ·obtain ⟨x, hx⟩ : ∃ x, Bs[z]? = some x := ⟨_, List.getElem?_eq_getElem (by rw [HM.out]; exact hzm)⟩
        have hx2 : x < 2 := BT.out x (List.mem_of_getElem? hx)
        rw [List.getD_eq_getElem?_getD, hx] at PN
        obtain ⟨b, off, rfl, _, c0⟩ := HI.out.at' hx
        have hzm' : (z : Int) < (m : Int) := by omega
        have NX := Lib.hid (show part Bs i6 (j + 1) = X * 2 + x from PN.out)
        clear hx
        go_wp2_with fail
        go_roundw
        case rel => exact ⟨j + 1, by omega, by rw [NX.out]; go_num, by go_num, by trivial⟩
        case measure => first | (simp [intOf]; done) | (simp [intOf]; omega)
       ·have hzm' : ¬ (z : Int) < (m : Int) := by omega
        have NX := Lib.hid (show part Bs i6 (j + 1) = X * 2 from by
         rw [PN.out, List.getD_eq_getElem?_getD, List.getElem?_eq_none (by rw [HM.out]; omega)]
         rfl)
        go_wp2_with fail
        go_roundw
        case rel => exact ⟨j + 1, by omega, by rw [NX.out]; go_num, by go_num, by trivial⟩
        case measure => first | (simp [intOf]; done) | (simp [intOf]; omega)
      ·obtain rfl : j = 6 := by omega
       have hzl : ¬ (z : Int) < (i6 : Int) + 6 := by omega
       have SW := Lib.hid (refSigns_walk wr)
       have hX1 : (X : Int) + 1 = ((X + 1 : Nat) : Int) := by omega
       obtain ⟨X1, hX1'⟩ : ∃ X1, X + 1 = X1 := ⟨_, rfl⟩
       rw [hX1'] at hX1
       have hXl : X ≤ X1 := by omega
       have HX1 := Lib.hid hX1'
       clear hX1'
       go_wp2_with fail
       refine SW.out.mono ?_
       rintro e w' ⟨G, rfl, hG, rfl⟩
       have hGs := alpha_size hG
       have hXs : X1 ≤ G.size := by have := HX1.out; omega
       obtain ⟨E, hE⟩ : ∃ E, G.extract X X1 = E := ⟨_, rfl⟩
       have NXu := Lib.hid (show bts (u ++ E) = (sixN Bs (q + 1)).map sgn from by
        rw [bts_app, HU.out, ← hE, ← HX1.out, alpha_ext hG X PL2, sixN_next, List.map_append, List.map_cons, List.map_nil, hi6, ← HX.out]
        rfl)
       have hus : u.size + E.size ≤ 9223372036854775807 := by
        have h1 : E.size ≤ 64 := by rw [← hE, ByteArray.size_extract]; omega
        have h2 := US.out
        omega
       clear SW hGs hG
       go_wp2_with fail
       go_roundw
       case rel => exact ⟨q + 1, by go_num, by omega, by trivial, Lib.hid ⟨_, rfl, NXu.out⟩⟩
       case measure => first | (simp [intOf]; done) | (simp [intOf]; omega)
    ·obtain ⟨p, hp⟩ : ∃ p, (4 - q % 4) % 4 = p := ⟨_, rfl⟩
     have RF := Lib.hid (show refPut L = (sixN Bs q).map sgn ++ List.replicate p 61 from by
      rw [RP.out, show (m + 5) / 6 = q by omega]
      unfold padF
      rw [List.length_map, sixN_len, hp])
     have hnl : ¬ (i6 : Int) < (m : Int) := by omega
     have UL := Lib.hid (show ((sixN Bs q).map sgn).length = q from by rw [List.length_map, sixN_len])
     obtain ⟨S, hS⟩ : ∃ S, (sixN Bs q).map sgn = S := ⟨_, rfl⟩
     rw [hS] at HU RF UL
     have P1 := Lib.hid (show bts u = S ++ List.replicate 0 61 from by rw [HU.out, show List.replicate 0 61 = ([] : List Nat) from rfl, List.append_nil])
     clear hS RP
     go_wp2_with fail
     go_loopw [6] (fun o wq => ∃ j : Nat, j ≤ p ∧ wr = wq ∧ Hid (∃ u : ByteArray, o = .string u ∧ bts u = S ++ List.replicate j 61)) (fun o _ => q + p - strLn o)
     case atStart => exact ⟨0, by omega, rfl, Lib.hid ⟨_, rfl, P1.out⟩⟩
     case round =>
      obtain ⟨j, hj, rfl, O⟩ := hrel
      obtain ⟨t, rfl, ht⟩ := O.out
      obtain ⟨z, hz⟩ : ∃ z, t.size = z := ⟨_, rfl⟩
      have HZ := Lib.hid (show z = q + j from by rw [← hz, ← bts_len, ht, List.length_append, UL.out, List.length_replicate])
      have HT := Lib.hid ht
      have hz2 : z ≤ 20000 := by have := HZ.out; have := UL.out; have := US.out; rw [← bts_len, HU.out] at this; omega
      clear ht O P1
      by_cases hlt4 : j < p
      ·have hr : ¬ (z : Int) % 4 = 0 := by have := HZ.out; omega
       have hr2 : (((z : Int) % 4) == 0) = false := by simp; omega
       have hus : t.size + ({ data := #[61] } : ByteArray).size ≤ 9223372036854775807 := by rw [hz]; show z + 1 ≤ _; omega
       have NXt := Lib.hid (show bts (t ++ { data := #[61] }) = S ++ List.replicate (j + 1) 61 from by
        rw [bts_app, HT.out, List.replicate_succ', List.append_assoc]
        rfl)
       have NXs := Lib.hid (show (t ++ { data := #[61] } : ByteArray).size = z + 1 from by rw [ByteArray.size_append, hz]; rfl)
       go_wp2_with fail
       go_roundw
       case rel => exact ⟨j + 1, by omega, by trivial, Lib.hid ⟨_, rfl, NXt.out⟩⟩
       case measure =>
        show q + p - (t ++ { data := #[61] } : ByteArray).size < q + p - t.size
        rw [NXs.out, hz]
        have := HZ.out
        omega
      ·obtain rfl : j = p := by omega
       have hr : (z : Int) % 4 = 0 := by have := HZ.out; omega
       have FN := Lib.hid (show t = txt (refPut L) from by rw [RF.out, ← HT.out, txt_bts])
       go_wp2_with fail
       go_ret
       exact ⟨by rw [← FN.out]; rfl, HB.out⟩
theorem alpha_once {y k : Nat} (hk : k < 64) (h : sgn k = y) : idx y = k := by rw [← h]; exact idx_sgn k hk
theorem alpha_at {S : ByteArray} (hS : bts S = alpha) (k : Nat) (_hk : k < 64) (h : k < S.size) : (S[k]'h).toNat = sgn k := by
 have h1 := bts_at S k h
 rw [hS] at h1
 unfold sgn
 rw [List.getD_eq_getElem?_getD, h1]
 rfl
theorem signsOf_take {t : List Nat} {k : Nat} (_hk : k ≤ t.length) (h : ∀ x ∈ t.take k, x ≠ 61) (he : ∀ x, t[k]? = some x → x = 61) : signsOf t = t.take k := by
 unfold signsOf
 conv => lhs; rw [← List.take_append_drop k t]
 rw [List.takeWhile_append_of_pos (fun x hx => by simp [h x hx])]
 cases hd : t.drop k with
 | nil => simp
 | cons y l =>
  have : t[k]? = some y := by
   have := congrArg (·[0]?) hd
   simpa using this
  rw [he y this]
  simp
set_option maxRecDepth 100000 in
set_option maxHeartbeats 12800000 in
theorem refGet_walk (s : ByteArray) (w : World) (hn : s.size ≤ 10000) :
  Calls Tryz.prog 12 #[.string s] w fun e w' => e = .returned (getV (bts s)) ∧ Below w.heap.size w w' := by
 obtain ⟨i0, hi, hz0, hz1, hz2⟩ := info_parts infoI64
 obtain ⟨i1, hi1, hy0, hy1, hy2⟩ := info_parts infoU8
 obtain ⟨G, hG, hC⟩ := refSigns_all
 have HG := Lib.hid hG
 have HC := Lib.hid (fun w => Calls.mono (hC w) fun e w' (h : e = .returned (.string G) ∧ w = w') => (⟨h.1, h.2.symm⟩ : e = .returned (.string G) ∧ w' = w))
 clear hG hC
 obtain ⟨n, hnn⟩ : ∃ n, s.size = n := ⟨_, rfl⟩
 have HN := Lib.hid hnn
 have GA := Lib.hid (show ∀ (k : Nat) (h : k < s.size), (bts s)[k]? = some ((s[k]'h).toNat) from bts_at s)
 have BL := Lib.hid (show (bts s).length = n from by rw [bts_len, hnn])
 have TS := Lib.hid (txt_bts s)
 have GV := Lib.hid (show getV (bts s) = (match refGet (bts s) with | some b => .tuple #[.string (txt b), .bool true] | none => .tuple #[.string { data := #[] }, .bool false]) from by rw [refGet_is]; rfl)
 obtain ⟨L, hL⟩ : ∃ L, bts s = L := ⟨_, rfl⟩
 have LB := Lib.hid (show Byt L from by rw [← hL]; exact bts_byt s)
 rw [hnn] at hn
 rw [hL] at GA BL GV TS ⊢
 have I0 := Lib.hid (show HasI w w.heap.size (.slice none 0 0) ((L.take 0).flatMap fun x => bits6 (idx x)) ∧ Below w.heap.size w w from ⟨HasI.nothing _ _, Below.refl _ _⟩)
 clear hL
 go_enter Tryz.func12, Tryz.ntmps12
 go_wp2_with fail
 go_loopw [4, 5, 6, 7, 8] (fun v i _ _ _ wr => ∃ k : Nat, i = .int .i64 (k : Int) ∧ k ≤ n ∧ Hid (∀ x ∈ L.take k, x ≠ 61 ∧ idx x < 64) ∧ Hid (HasI wr w.heap.size v ((L.take k).flatMap fun x => bits6 (idx x)) ∧ Below w.heap.size w wr)) (fun _ i _ _ _ _ => n - (intOf i).toNat)
 case atStart => exact ⟨0, rfl, Nat.zero_le _, Lib.hid (fun x hx => by simp at hx), I0⟩
 case round =>
  obtain ⟨k, rfl, hk, A, I⟩ := hrel
  clear I0
  by_cases hcont : k < n ∧ L[k]? ≠ some 61
  ·obtain ⟨hlt, hn61⟩ := hcont
   have hg : k < s.size := by rw [HN.out]; exact hlt
   obtain ⟨y, hy⟩ : ∃ y, (s[k]'hg).toNat = y := ⟨_, rfl⟩
   have hgt : ∀ h : k < s.size, (s[k]'h).toNat = y := fun _ => hy
   have GY := Lib.hid (show L[k]? = some y from by rw [GA.out k hg, hy])
   have h61 : ¬ y = 61 := fun e => hn61 (by rw [GY.out, e])
   have hy2' : y < 256 := LB.out _ (List.mem_of_getElem? GY.out)
   have hlt' : (k : Int) < (n : Int) := by omega
   have k0 : (0 : Int) ≤ (k : Int) := by omega
   clear hy hn61
   have h61' : ((y : Int) == 61) = false := by simp; omega
   have h61'' : ¬ (y : Int) = 61 := by omega
   go_wp2_with fail
   go_loopw [6, 7] (fun a b wq => ∃ j : Nat, j ≤ 64 ∧ b = .int .i64 (j : Int) ∧ a = .int .i64 (if idx y < j then (idx y : Int) else -1) ∧ Hid (HasI wq w.heap.size u4 ((L.take k).flatMap fun x => bits6 (idx x)) ∧ Below w.heap.size w wq)) (fun _ b _ => 64 - (intOf b).toNat)
   case atStart => exact ⟨0, by omega, rfl, rfl, I⟩
   case round =>
    obtain ⟨j, hj, rfl, rfl, J⟩ := hrel
    clear I
    by_cases hlt64 : j < 64
    ·have hj64 : (j : Int) < 64 := by omega
     have j0 : (0 : Int) ≤ (j : Int) := by omega
     obtain ⟨g, hgs⟩ : ∃ g, sgn j = g := ⟨_, rfl⟩
     have HGS := Lib.hid hgs
     obtain ⟨v6, hv6⟩ : ∃ v6 : Int, (if idx y < j then (idx y : Int) else -1) = v6 := ⟨_, rfl⟩
     have HV := Lib.hid hv6
     rw [hv6]
     clear hgs hv6
     by_cases hgy : g = y
     ·have hgy1 : ((g : Int) == (y : Int)) = true := by rw [hgy]; simp
      have NXv := Lib.hid (show (if idx y < j + 1 then (idx y : Int) else -1) = (j : Int) from by
       have h1 := alpha_once hlt64 (HGS.out.trans hgy)
       rw [h1, if_pos (by omega)])
      go_wp2_with fail
      have hGl : j < G.size := by rw [alpha_size HG.out]; exact hlt64
      have hGa : ∀ h : j < G.size, (G[j]'h).toNat = g := fun h => (alpha_at HG.out j hlt64 h).trans HGS.out
      go_quiet ((go_at_call 26; exact Calls.quiet_of_same (HC.out _)))
      go_wp2_with fail
      go_roundw
      case rel => exact ⟨j + 1, by omega, by go_num, by rw [NXv.out], Lib.hid ⟨J.out.1, below_drew J.out.2 _⟩⟩
      case measure => first | (simp [intOf]; done) | (simp [intOf]; omega)
     ·have hgy1 : ((g : Int) == (y : Int)) = false := by simp; omega
      have NXv := Lib.hid (show (if idx y < j + 1 then (idx y : Int) else -1) = v6 from by
       rw [← HV.out]
       by_cases h1 : idx y < j
       ·rw [if_pos h1, if_pos (by omega)]
       ·by_cases h2 : idx y < j + 1
        ·exfalso
         have h3 : idx y = j := by omega
         have h4 := sgn_idx (x := y) (by omega)
         rw [h3, HGS.out] at h4
         exact hgy h4
        ·rw [if_neg h1, if_neg h2])
      have hGl : j < G.size := by rw [alpha_size HG.out]; exact hlt64
      have hGa : ∀ h : j < G.size, (G[j]'h).toNat = g := fun h => (alpha_at HG.out j hlt64 h).trans HGS.out
      go_wp2_with fail
      go_quiet ((go_at_call 26; exact Calls.quiet_of_same (HC.out _)))
      go_wp2_with fail
      go_roundw
      case rel => exact ⟨j + 1, by omega, by go_num, by rw [NXv.out], Lib.hid ⟨J.out.1, below_drew J.out.2 _⟩⟩
      case measure => first | (simp [intOf]; done) | (simp [intOf]; omega)
    ·obtain rfl : j = 64 := by omega
     by_cases hix : idx y < 64
     ·rw [if_pos hix]
      obtain ⟨p, hp⟩ : ∃ p, idx y = p := ⟨_, rfl⟩
      rw [hp] at hix ⊢
      have NX := Lib.hid (show ((L.take (k + 1)).flatMap fun x => bits6 (idx x)) = ((L.take k).flatMap fun x => bits6 (idx x)) ++ (bits6 p).take 6 from by
       rw [take_snoc GY.out, List.flatMap_append, List.flatMap_cons, List.flatMap_nil, List.append_nil, hp]
       rfl)
      have NA := Lib.hid (show ∀ x ∈ L.take (k + 1), x ≠ 61 ∧ idx x < 64 from fun x hx => by
       rw [take_snoc GY.out] at hx
       rcases List.mem_append.1 hx with h | h
       ·exact A.out x h
       ·rw [List.mem_singleton.1 h, hp]; exact ⟨h61, hix⟩)
      have BLn := Lib.hid (show ((L.take k).flatMap fun x => bits6 (idx x)).length ≤ 80000 from by rw [show ((L.take k).flatMap fun x => bits6 (idx x)) = ((L.take k).map idx).flatMap bits6 by rw [List.flatMap_map], bits6_len, List.length_map, List.length_take]; omega)
      obtain ⟨P, hP⟩ : ∃ P, ((L.take k).flatMap fun x => bits6 (idx x)) = P := ⟨_, rfl⟩
      rw [hP] at NX BLn J
      have hp0 : ¬ (p : Int) < 0 := by omega
      have J0 := Lib.hid (show HasI wr w.heap.size u4 (P ++ (bits6 p).take 0) ∧ Below w.heap.size w wr from ⟨by rw [List.take_zero, List.append_nil]; exact J.out.1, J.out.2⟩)
      clear hP J A
      go_wp2_with fail
      go_loopw [4, 8] (fun v b wq => ∃ j : Nat, j ≤ 6 ∧ b = .int .i64 ((32 / 2 ^ j : Nat) : Int) ∧ Hid (HasI wq w.heap.size v (P ++ (bits6 p).take j) ∧ Below w.heap.size w wq)) (fun _ b _ => (intOf b).toNat)
      case atStart => exact ⟨0, by omega, rfl, J0⟩
      case round =>
       obtain ⟨j, hj, rfl, J⟩ := hrel
       clear J0
       have BP := Lib.hid (b6_pos j hj)
       have BA := Lib.hid (fun h => bits6_at p j h)
       have BH := Lib.hid (half_pow 32 j)
       obtain ⟨b, hb⟩ : ∃ b, 32 / 2 ^ j = b := ⟨_, rfl⟩
       rw [hb] at BP BA BH ⊢
       have hb2 : b ≤ 32 := by rw [← hb]; exact Nat.div_le_self _ _
       clear hb
       by_cases hlt6 : j < 6
       ·have hb0 : 0 < b := BP.out.2 hlt6
        have hbp : (0 : Int) < (b : Int) := by omega
        have hbz : ¬ (b : Int) = 0 := by omega
        obtain ⟨x, hx⟩ : ∃ x, p / b % 2 = x := ⟨_, rfl⟩
        have BX := Lib.hid (show (bits6 p)[j]? = some x from by rw [BA.out hlt6, hx])
        obtain ⟨z, hz⟩ : ∃ z, p / b = z := ⟨_, rfl⟩
        have hzp : z ≤ p := by rw [← hz]; exact Nat.div_le_self _ _
        have hz64 : wrap64 ((p : Int) / (b : Int)) = (z : Int) := by
         rw [show (p : Int) / (b : Int) = (z : Int) by rw [← hz]; push_cast; rfl]
         exact wrap64_in (by omega)
        rw [hz] at hx
        obtain ⟨hxi, hxi2⟩ := two_mod hx
        obtain ⟨h2, hh2⟩ : ∃ h2, b / 2 = h2 := ⟨_, rfl⟩
        rw [hh2] at BH
        have hb3 : (b : Int) / 2 = (h2 : Int) := by omega
        have hb4 : IntKind.i64.wrap ((b : Int).tdiv 2) = (h2 : Int) := by rw [Int.tdiv_eq_ediv_of_nonneg (by omega), hb3]; exact IntWalk.i64_in _ (by omega)
        have hb5 : (b : Int).tdiv 2 = (h2 : Int) := by rw [Int.tdiv_eq_ediv_of_nonneg (by omega), hb3]
        have LX := Lib.hid (show (P ++ (bits6 p).take j).length ≤ 90000 from by rw [List.length_append, List.length_take]; have := BLn.out; omega)
        have BW := Lib.hid J.out.2.size
        clear hx hz hh2
        go_wp2_with (at_builtin; refine wpList_append_own _ rfl _ _ 41 rfl w.heap.size 3 i0 (.int .i64 0) 1 8 Tryz.underlying41 hi hz0 hz1 hz2 rfl (by decide) u4 _ _ rfl (World.ownsRow.alloc J.out.1 _) ⟨wr.heap.size, 0, none⟩ 1 1 [i64v x] rfl rfl (new_at rfl _ _) (i64_one _) (fit1 (by have := LX.out; omega)) (fit8 (by have := LX.out; omega)) (by have := BW.out; simp; omega) ?_; intro v4 w4 ho4 hg4 _; (have O4 := Lib.hid (HasI.snoc ho4)); (have G4 := Lib.hid hg4); clear ho4 hg4)
        go_roundw
        case rel =>
         refine ⟨j + 1, by omega, by rw [← BH.out], Lib.hid ⟨by rw [take_snoc BX.out, ← List.append_assoc]; exact O4.out, ?_⟩⟩
         have ba : Below w.heap.size wr (wr.alloc (.cells #[i64v x] 3)) := (Below.refl _ _).alloc (by have := BW.out; omega) _
         exact (J.out.2.trans ba).grown G4.out (by have := BW.out; simp; omega) (fun j e => HasI.ge J.out.1 j e)
        case measure => simp [intOf]; omega
       ·obtain rfl : j = 6 := by omega
        have hb0 : b = 0 := by have := BP.out; omega
        subst hb0
        have I2 := Lib.hid (show HasI wr w.heap.size u4 ((L.take (k + 1)).flatMap fun x => bits6 (idx x)) ∧ Below w.heap.size w wr from ⟨by rw [NX.out]; exact J.out.1, J.out.2⟩)
        clear J
        go_wp2_with fail
        go_roundw
        case rel => exact ⟨k + 1, by go_num, by omega, NA, I2⟩
        case measure => first | (simp [intOf]; done) | (simp [intOf]; omega)
     ·rw [if_neg hix]
      have GN := Lib.hid (show getV L = .tuple #[.string { data := #[] }, .bool false] from by
       rw [GV.out]
       unfold refGet
       rw [if_neg fun hc => ?_]
       have hm : y ∈ signsOf L := by
        have e : y ∈ (L.take k ++ L.drop k).takeWhile fun x => !(x == 61) := by
         rw [List.takeWhile_append_of_pos (fun x hx => by simp [(A.out x hx).1])]
         refine List.mem_append_right _ ?_
         obtain ⟨h1, h2⟩ := List.getElem?_eq_some_iff.1 GY.out
         rw [List.drop_eq_getElem_cons h1, h2, List.takeWhile_cons, if_pos (by simp [h61])]
         exact List.mem_cons_self
        rw [List.take_append_drop] at e
        exact e
       exact hix (by simpa using List.all_eq_true.1 hc.1 y hm))
      go_wp2_with fail
      refine bodyPost_ret (results_tmp2 (t := 2) (u := 3) rfl _ _ _) rfl ?_
      exact ⟨by rw [GN.out]; rfl, J.out.2⟩
  ·have SO := Lib.hid (show signsOf L = L.take k from signsOf_take (by rw [BL.out]; exact hk) (fun x hx => (A.out x hx).1) (fun x hx => by
    have h1 := (List.getElem?_eq_some_iff.1 hx).1
    rw [BL.out] at h1
    cases Decidable.em (x = 61) with
    | inl e => exact e
    | inr e => exact absurd ⟨h1, by rw [hx]; simp [e]⟩ hcont))
   have EX : (k < s.size ∧ (∀ h : k < s.size, (s[k]'h).toNat = 61) ∧ (k : Int) < (n : Int) ∧ (0 : Int) ≤ (k : Int)) ∨ ¬ (k : Int) < (n : Int) := by
    by_cases hlt : k < n
    ·left
     have hg : k < s.size := by rw [HN.out]; exact hlt
     refine ⟨hg, fun h => ?_, by omega, by omega⟩
     have h1 := GA.out k hg
     cases Decidable.em ((s[k]'hg).toNat = 61) with
     | inl e => exact e
     | inr e => exact absurd ⟨hlt, by rw [h1]; simp [e]⟩ hcont
    ·right; omega
   have BB := Lib.hid (show ((L.take k).flatMap fun x => bits6 (idx x)).length = 6 * k from by rw [show ((L.take k).flatMap fun x => bits6 (idx x)) = ((L.take k).map idx).flatMap bits6 by rw [List.flatMap_map], bits6_len, List.length_map, List.length_take, BL.out]; omega)
   have BT := Lib.hid (bits6_bit (L.take k))
   have RD := Lib.hid (show refGet L = if refPut (eightN ((L.take k).flatMap fun x => bits6 (idx x)) (6 * k / 8)) = L then some (eightN ((L.take k).flatMap fun x => bits6 (idx x)) (6 * k / 8)) else none from by
    unfold refGet refDec
    rw [SO.out, List.length_take, BL.out, show min k n = k by omega]
    have : ((L.take k).all fun x => decide (idx x < 64)) = true := List.all_eq_true.2 fun x hx => by simpa using (A.out x hx).2
    by_cases e : refPut (eightN ((L.take k).flatMap fun x => bits6 (idx x)) (6 * k / 8)) = L
    ·rw [if_pos ⟨this, e⟩, if_pos e]
    ·rw [if_neg fun hc => e hc.2, if_neg e])
   obtain ⟨Bs, hBs⟩ : ∃ Bs, ((L.take k).flatMap fun x => bits6 (idx x)) = Bs := ⟨_, rfl⟩
   rw [hBs] at I BB BT RD
   obtain ⟨m, hm⟩ : ∃ m, Bs.length = m := ⟨_, rfl⟩
   have hmk : m = 6 * k := by have := BB.out; omega
   have hm8 : m ≤ 60000 := by omega
   obtain ⟨A4, c4, rfl⟩ := HasI.shape I.out.1
   have HI := Lib.hid I.out.1
   have HB := Lib.hid I.out.2
   have HM := Lib.hid hm
   have RD2 := Lib.hid (show refGet L = if refPut (eightN Bs (m / 8)) = L then some (eightN Bs (m / 8)) else none from by rw [RD.out, hmk])
   have P0 := Lib.hid (show HasN wr wr.heap.size (.slice none 0 0) (eightN Bs 0) ∧ Below wr.heap.size wr wr from ⟨World.ownsRow_nil _ _ _ _, Below.refl _ _⟩)
   rw [hm]
   clear hBs I A SO BB RD hmk hcont hm BL
   rcases EX with ⟨hg, hgt, hlt', k0⟩ | hnl
   all_goals
    go_wp2_with fail
    rename World => wz
    go_loopw [9, 10, 11, 12] (fun o i _ _ wq => ∃ q : Nat, i = .int .i64 ((8 * q : Nat) : Int) ∧ 8 * q ≤ m ∧ Hid (HasN wq wz.heap.size o (eightN Bs q) ∧ Below wz.heap.size wz wq)) (fun _ i _ _ _ => m - (intOf i).toNat)
    case atStart => exact ⟨0, rfl, Nat.zero_le _, P0⟩
    case round =>
     obtain ⟨q, rfl, hq, O⟩ := hrel
     obtain ⟨i8, hi8⟩ : ∃ i8, 8 * q = i8 := ⟨_, rfl⟩
     have HQ := Lib.hid hi8
     rw [hi8] at hq ⊢
     have hi8w : IntKind.i64.wrap ((i8 : Int) + 8) = (i8 : Int) + 8 := IntWalk.i64_in _ (by omega)
     clear hi8
     by_cases hlt : i8 + 8 ≤ m
     ·have hlt8 : (i8 : Int) + 8 ≤ (m : Int) := by omega
      go_wp2_with fail
      go_loopw [11, 12] (fun a b wq => ∃ j : Nat, j ≤ 8 ∧ a = .int .i64 ((part Bs i8 j : Nat) : Int) ∧ b = .int .i64 ((i8 : Int) + (j : Int)) ∧ wr = wq) (fun _ b _ => i8 + 8 - (intOf b).toNat)
      case atStart => exact ⟨0, by omega, rfl, by go_num, rfl⟩
      case round =>
       obtain ⟨j, hj, rfl, rfl, rfl⟩ := hrel
       have PN := Lib.hid (part_next Bs i8 j)
       have PL := part_lt BT.out i8 j
       have PL2 : part Bs i8 j < 256 := Nat.lt_of_lt_of_le PL (Nat.pow_le_pow_right (by decide) hj)
       obtain ⟨X, hX⟩ : ∃ X, part Bs i8 j = X := ⟨_, rfl⟩
       rw [hX] at PN PL2 ⊢
       obtain ⟨z, hz⟩ : ∃ z, i8 + j = z := ⟨_, rfl⟩
       have hzi : (i8 : Int) + (j : Int) = (z : Int) := by omega
       rw [hz] at PN
       rw [hzi]
       have HX := Lib.hid hX
       by_cases hlt6 : j < 8
       ·have hzl : (z : Int) < (i8 : Int) + 8 := by omega
        have hz0 : (0 : Int) ≤ (z : Int) := by omega
        have hzm : z < m := by omega
        have hzm' : (z : Int) < (m : Int) := by omega
        obtain ⟨x, hx⟩ : ∃ x, Bs[z]? = some x := ⟨_, List.getElem?_eq_getElem (by rw [HM.out]; exact hzm)⟩
        have hx2 : x < 2 := BT.out x (List.mem_of_getElem? hx)
        rw [List.getD_eq_getElem?_getD, hx] at PN
        obtain ⟨b, off, hA, _, c0⟩ := HI.out.at' hx
        have hbz : b < wz.heap.size := by subst hA; exact World.block_lt_of_cell? _ _ c0
        have c0' := (O.out.2.cell (p := ⟨b, off + z, none⟩) hbz).trans c0
        have NX := Lib.hid (show part Bs i8 (j + 1) = X * 2 + x from PN.out)
        subst hA
        clear hx PL hX hz c0 PN
        go_wp2_with fail
        go_roundw
        case rel => exact ⟨j + 1, by omega, by rw [NX.out]; go_num, by go_num, by trivial⟩
        case measure => first | (simp [intOf]; done) | (simp [intOf]; omega)
       ·obtain rfl : j = 8 := by omega
        have hzl : ¬ (z : Int) < (i8 : Int) + 8 := by omega
        have EN := Lib.hid (show eightN Bs (q + 1) = eightN Bs q ++ [X] from by rw [eightN_next, HQ.out, ← HX.out]; rfl)
        have LX := Lib.hid (show (eightN Bs q).length ≤ 60000 from by rw [eightN_len]; have := HQ.out; omega)
        have BW := Lib.hid O.out.2.size
        clear PL hX hz PN
        go_wp2_with (at_builtin; refine wpList_append_own _ rfl _ _ 28 rfl wz.heap.size 5 i1 (.int .u8 0) 1 1 Tryz.underlying28 hi1 hy0 hy1 hy2 rfl (by decide) u9 _ _ rfl (World.ownsRow.alloc O.out.1 _) ⟨wr.heap.size, 0, none⟩ 1 1 [u8v X] rfl rfl (new_at rfl _ _) (u8_one _) (fit1 (by have := LX.out; omega)) (fit2 (by have := LX.out; omega)) (by have := BW.out; simp; omega) ?_; intro v4 w4 ho4 hg4 _; (have O4 := Lib.hid (HasN.snoc ho4)); (have G4 := Lib.hid hg4); clear ho4 hg4)
        go_roundw
        case rel =>
         refine ⟨q + 1, by have := HQ.out; go_num, by have := HQ.out; omega, Lib.hid ⟨by rw [EN.out]; exact O4.out, ?_⟩⟩
         have ba : Below wz.heap.size wr (wr.alloc (.cells #[u8v X] 5)) := (Below.refl _ _).alloc (by have := BW.out; omega) _
         exact (O.out.2.trans ba).grown G4.out (by have := BW.out; simp; omega) (fun j e => HasN.ge O.out.1 j e)
        case measure => first | (simp [intOf]; done) | (simp [intOf]; omega)
     ·have hlt8 : ¬ (i8 : Int) + 8 ≤ (m : Int) := by omega
      have hqm : q = m / 8 := by have := HQ.out; omega
      rw [← hqm] at RD2
      obtain ⟨D, hD⟩ : ∃ D, eightN Bs q = D := ⟨_, rfl⟩
      have DL : D.length = q := by rw [← hD, eightN_len]
      have DB := Lib.hid (show Byt D from by
       rw [← hD]
       intro x hx
       unfold eightN at hx
       obtain ⟨i, _, rfl⟩ := List.mem_map.1 hx
       exact chunk8_lt _ BT.out _)
      rw [hD] at RD2 O
      obtain ⟨A9, c9, rfl⟩ := HasN.shape O.out.1
      have CV := Lib.hid (conv_txt O.out.1 DB.out)
      have PW := Lib.hid (refPut_walk (txt D) wr (by rw [txt_size]; have := HQ.out; omega))
      rw [bts_txt DB.out] at PW
      have OB := Lib.hid (show Below w.heap.size w wr from HB.out.trans (O.out.2.mono HB.out.size))
      rw [DL] at CV ⊢
      have DLh := Lib.hid DL
      clear hD DL hqm
      go_wp2_with fail
      rw [CV.out]
      go_wp2_with fail
      refine PW.out.mono ?_
      rintro e w5 ⟨rfl, b5⟩
      have B5 := Lib.hid (OB.out.trans (b5.mono OB.out.size))
      have O5 := Lib.hid (show HasN w5 wz.heap.size (.slice A9 D.length c9) D from HasN.laid O.out.1 b5)
      have CV5 := Lib.hid (conv_txt O5.out DB.out)
      rw [DLh.out] at CV5
      clear b5 PW CV
      by_cases he : refPut D = L
      ·have hes : txt (refPut D) = s := by rw [he, TS.out]
       have GN := Lib.hid (show getV L = .tuple #[.string (txt D), .bool true] from by rw [GV.out, RD2.out, if_pos he])
       rw [hes]
       go_wp2_with fail
       rw [CV5.out]
       go_wp2_with fail
       refine bodyPost_ret (results_tmp2 (t := 2) (u := 3) rfl _ _ _) rfl ?_
       exact ⟨by rw [GN.out]; rfl, B5.out⟩
      ·have hne : ¬ txt (refPut D) = s := fun e => he (by
        have h1 := congrArg bts e
        rw [bts_txt (by rw [refPut_is D DB.out]; exact putL_byt D), ← TS.out, bts_txt LB.out] at h1
        exact h1)
       have GN := Lib.hid (show getV L = .tuple #[.string { data := #[] }, .bool false] from by rw [GV.out, RD2.out, if_neg he])
       obtain ⟨T, hT⟩ : ∃ T, txt (refPut D) = T := ⟨_, rfl⟩
       rw [hT] at hne ⊢
       have hbe : (T.toList == s.toList) = false := txt_ne hne
       clear hT CV5 he RD2
       go_wp2_with fail
       refine bodyPost_ret (results_tmp2 (t := 2) (u := 3) rfl _ _ _) rfl ?_
       exact ⟨by rw [GN.out]; rfl, B5.out⟩
end BM
end Go.Proofs.YtgmijnnhanpocabGreatDoor
namespace Go.Proofs.YtgmijnnhanpocabGreatDoor
open Go.ChangeShapes Go.WideShapes Go.ChangeAt Go.RowKit
namespace ClsB
theorem region {P : Program} {id : Nat} {Q : Exit → Act → World → Prop} {a : Act} {w : World} {l : List Oper} {I : Type} (F : I → World) (h0 : ∃ n, w.drew = F n) (hm : P.follows .mixedOrders = true) (hB : Region.lexB .any l.toArray = true)
  (h : wpQuiet P l.toArray (fun w' => ∃ n, w' = F n) (fun a' => ∀ w', (∃ n, w' = F n) → Q .normal a' w') l a) : (Code.region id l.toArray true).wp P Q a w :=
 wp_region_quiet (C := fun w' => ∃ n, w' = F n) hm hB h0 (by simpa using h)
theorem below (w : World) : ∃ (I : Type) (_ : Nonempty I) (F : I → World), (∃ n, w.drew = F n) ∧ (∀ n, Below w.heap.size w (F n)) ∧ ∀ n W, Below (F n).heap.size (F n) W → ∃ m, W = F m :=
 ⟨{ W : World // Below w.heap.size w W }, ⟨⟨w, Below.refl _ _⟩⟩, Subtype.val, ⟨⟨w.drew, (Below.refl _ _).drew⟩, rfl⟩, fun n => n.2, fun n W h => ⟨⟨W, n.2.trans (h.mono n.2.size)⟩, rfl⟩⟩
end ClsB
end Go.Proofs.YtgmijnnhanpocabGreatDoor
namespace Go.Proofs.YtgmijnnhanpocabGreatDoor
open Go.ChangeShapes Go.WideShapes Go.ChangeAt Go.RowKit
namespace BM
theorem at_add (g j : Nat) : (⟨g, 0, none⟩ : Addr).add j = ⟨g, j, none⟩ := by unfold Addr.add; split <;> simp_all
def OctN (w : World) (g : Nat) (l : List Nat) : Prop := g < w.heap.size ∧ ∀ j x, l[j]? = some x → w.cell? ⟨g, j, none⟩ = some (u8v x)
def bytesN (w : World) (s : ByteArray) : World := w.drew.alloc (.cells (bytesRow s (grownCap w s.size 0 5)) 5 ((bytesRow s (grownCap w s.size 0 5)).size, (bytesRow s (grownCap w s.size 0 5)).size + 1))
theorem run_bytesN (w : World) (s : ByteArray) : (convert 9 28 (.string s)).run Tryz.prog w = .ok (.slice (some ⟨w.heap.size, 0, none⟩) s.size (grownCap w s.size 0 5)) (bytesN w s) :=
 run_bytes_of_string w 9 28 5 s Tryz.underlying9 Tryz.underlying28 Tryz.underlying5
theorem bytesN_size (w : World) (s : ByteArray) : (bytesN w s).heap.size = w.heap.size + 1 := by unfold bytesN; simp
theorem bytesN_below (w : World) (s : ByteArray) : Below w.heap.size w (bytesN w s) := (Below.refl w.heap.size w).drew.alloc (Nat.le_refl _) _
theorem bytesN_octs (w : World) (s : ByteArray) : OctN (bytesN w s) w.heap.size (bts s) := by
 refine ⟨by rw [bytesN_size]; omega, fun j x hx => ?_⟩
 have hj : j < s.size := by rw [← bts_len]; exact (List.getElem?_eq_some_iff.1 hx).1
 have hx' : x = s.data[j].toNat := by
  obtain ⟨h1, h2⟩ := List.getElem?_eq_some_iff.1 hx
  rw [← h2]
  simp [bts]
 have e := World.cell?_alloc_mark w.drew (bytesRow s (grownCap w s.size 0 5)) 5 ((bytesRow s (grownCap w s.size 0 5)).size, (bytesRow s (grownCap w s.size 0 5)).size + 1) j
 have e2 := bytesRow_at s (grownCap w s.size 0 5) j hj
 rw [hx']
 exact e.trans e2
theorem bytesN_free (w : World) (s : ByteArray) (j : Nat) (hj : j < s.size) : (bytesN w s).frozen? ⟨w.heap.size, j, none⟩ = false := by
 have e := World.frozen?_alloc_mark w.drew (bytesRow s (grownCap w s.size 0 5)) 5 (bytesRow s (grownCap w s.size 0 5)).size ((bytesRow s (grownCap w s.size 0 5)).size + 1) j
 have hs : s.size ≤ (bytesRow s (grownCap w s.size 0 5)).size := by
  unfold bytesRow
  rw [Array.size_append]
  have : s.size = s.data.size := rfl
  simp
 have hlt : ¬ (bytesRow s (grownCap w s.size 0 5)).size ≤ j := by omega
 exact e.trans (by simp [hlt])
theorem OctN.set {w : World} {g i : Nat} {l : List Nat} (h : OctN w g l) (hi : i < l.length) (x : Nat) : OctN (w.setCell ⟨g, i, none⟩ (u8v x)) g (l.set i x) := by
 have hc := h.2 i _ (List.getElem?_eq_getElem hi)
 refine ⟨by simp [World.setCell]; exact h.1, fun j y hy => ?_⟩
 by_cases e : i = j
 ·subst e
  rw [List.getElem?_set_self hi] at hy
  injection hy with hy
  subst hy
  exact World.cell?_setCell_same' _ _ _ (by rw [hc]; rfl)
 ·rw [List.getElem?_set_ne e] at hy
  rw [World.cell?_setCell_other (a := ⟨g, i, none⟩) (b := ⟨g, j, none⟩) (h := fun k => e (by injection k))]
  exact h.2 j y hy
theorem OctN.below {w w' : World} {g : Nat} {l : List Nat} (h : OctN w g l) (hb : Below w.heap.size w w') : OctN w' g l :=
 ⟨Nat.lt_of_lt_of_le h.1 hb.size, fun j x hx => (hb.cell (p := ⟨g, j, none⟩) h.1).trans (h.2 j x hx)⟩
set_option maxRecDepth 100000 in
theorem OctN.conv {w : World} {g n c : Nat} {l : List Nat} (h : OctN w g l) (hl : Byt l) (hn : l.length = n) :
  (convert 28 9 (.slice (some ⟨g, 0, none⟩) n c)).run Tryz.prog w = .ok (.string (txt l)) w := by
 subst hn
 have k := run_convert_bytes_back (P := Tryz.prog) w 28 9 5 ⟨g, 0, none⟩ c (l.map UInt8.ofNat) Tryz.underlying28 Tryz.underlying5 Tryz.underlying9 (fun j hj => by
  have hj' : j < l.length := by simpa using hj
  have := h.2 j _ (List.getElem?_eq_getElem hj')
  show w.cell? ((⟨g, 0, none⟩ : Addr).add j) = _
  rw [at_add, this]
  have h2 := hl _ (List.getElem_mem hj')
  simp [u8v, Nat.mod_eq_of_lt h2])
 rw [List.length_map] at k
 exact k
end BM
end Go.Proofs.YtgmijnnhanpocabGreatDoor
