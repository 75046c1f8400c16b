/-
  pack.Uint, the reference's Uint; pack.GetUint, the reference's GetUint.
  The reference's GetUint.
-/
import Derived.Test.YtalhlgiklochdaaDoorBytes
namespace Go.Proofs.YtalhlgiklochdaaDoor
open Go.ChangeShapes Go.WideShapes Go.ChangeAt Go.RowKit

theorem wrap_u64 {x : Nat} (h : x < 2 ^ 64) : IntKind.u64.wrap (x : Int) = (x : Int) := by
  have e : IntKind.u64.wrap (x : Int) = (x : Int) % 18446744073709551616 := by simp [IntKind.wrap, IntKind.signed, IntKind.bits]
  rw [e]
  omega
theorem bits_nat (op : BinOp) (x y : Int) : ∃ a : Nat, bits op .u64 x y = (a : Int) := by
  have e : ∀ z : Int, 0 ≤ IntKind.u64.wrap z := fun z => by
    have e : IntKind.u64.wrap z = z % 18446744073709551616 := by simp [IntKind.wrap, IntKind.signed, IntKind.bits]
    rw [e]; omega
  have h : 0 ≤ bits op .u64 x y := by unfold bits; split <;> first | exact e _ | (simp; done)
  exact ⟨(bits op .u64 x y).toNat, by omega⟩
theorem andNot128 {x : Int} (h0 : 0 ≤ x) (h1 : x ≤ 255) : bits .andNot .u8 x 128 = ((x.toNat % 128 : Nat) : Int) := by
  have key : ∀ z : Fin 256, bits .andNot .u8 (z.val : Int) 128 = ((z.val % 128 : Nat) : Int) := by decide +kernel
  obtain ⟨n, rfl⟩ := Int.eq_ofNat_of_zero_le h0
  exact key ⟨n, by omega⟩
theorem and128 {x : Int} (h0 : 0 ≤ x) (h1 : x ≤ 255) : bits .and .u8 x 128 = if 128 ≤ x then 128 else 0 := by
  have key : ∀ z : Fin 256, bits .and .u8 (z.val : Int) 128 = if 128 ≤ (z.val : Int) then 128 else 0 := by decide +kernel
  obtain ⟨n, rfl⟩ := Int.eq_ofNat_of_zero_le h0
  exact key ⟨n, by omega⟩
theorem or_shift {acc k y : Nat} (h1 : acc < 128 ^ k) (h2 : acc + y * 128 ^ k < 2 ^ 64) (hy : y < 128) : bits .or .u64 (acc : Int) (IntKind.u64.wrap (IntKind.u64.wrap (y : Int) * 2 ^ (7 * k))) = ((acc + y * 128 ^ k : Nat) : Int) := by
  have ep : (128 : Nat) ^ k = 2 ^ (7 * k) := by rw [show (128 : Nat) = 2 ^ 7 by decide, ← Nat.pow_mul]
  rw [wrap_u64 (show y < 2 ^ 64 by omega)]
  have e2 : (y : Int) * 2 ^ (7 * k) = ((y * 128 ^ k : Nat) : Int) := by rw [ep]; simp
  rw [e2, wrap_u64 (show y * 128 ^ k < 2 ^ 64 by omega)]
  have e3 : bits .or .u64 (acc : Int) ((y * 128 ^ k : Nat) : Int) = IntKind.u64.wrap ((BitVec.ofInt 64 (acc : Int) ||| BitVec.ofInt 64 ((y * 128 ^ k : Nat) : Int)).toNat : Int) := rfl
  rw [e3, BitVec.toNat_or]
  have t1 : (BitVec.ofInt 64 (acc : Int)).toNat = acc := by simp; omega
  have t2 : (BitVec.ofInt 64 ((y * 128 ^ k : Nat) : Int)).toNat = y * 128 ^ k := by
    have : y * 128 ^ k < 2 ^ 64 := by omega
    rw [BitVec.ofInt_natCast, BitVec.toNat_ofNat, Nat.mod_eq_of_lt this]
  rw [t1, t2]
  have e4 : acc ||| y * 128 ^ k = acc + y * 128 ^ k := by
    rw [Nat.or_comm, ep, Nat.mul_comm y, ← Nat.two_pow_add_eq_or_of_lt (by rw [← ep]; exact h1), Nat.add_comm]
  rw [e4]
  exact wrap_u64 h2
theorem or_shift' {acc k y : Nat} (h1 : acc < 128 ^ k) (h2 : acc + y % 128 * 128 ^ k < 2 ^ 64) : bits .or .u64 (acc : Int) (IntKind.u64.wrap ((y : Int) % 128 * 2 ^ (7 * k))) = ((acc + y % 128 * 128 ^ k : Nat) : Int) := by
  rw [← or_shift (y := y % 128) h1 h2 (by omega), wrap_u64 (show y % 128 < 2 ^ 64 by omega), show ((y % 128 : Nat) : Int) = (y : Int) % 128 by omega]
def UPost (n : Nat) (w : World) (e : Ending) (w' : World) : Prop := ∃ v, e = .returned v ∧ HasB w' w.heap.size v (uintL n) ∧ Below w.heap.size w w'
set_option maxRecDepth 100000 in
theorem uint_walk (n : Nat) (hn : n < 2 ^ 64) (w : World) : Calls Tryd.prog 19 #[.int .u64 n] w fun e w' => UPost n w e w' := by
  have C := Lib.hid (appendUint_walk n hn [] (by simp) w.heap.size (.slice none 0 0) w (HasB.nothing _ _) (Nat.le_refl _))
  clear hn
  go_enter Tryd.func19, Tryd.ntmps19
  go_wp2_with fail
  refine C.out.mono ?_
  rintro e w' ⟨v, rfl, hv, hg⟩
  have hb := hg.below (Nat.le_refl _) (fun k e => by simp [Value.ownBlock] at e)
  go_wp2
  go_ret
  exact ⟨v, rfl, hv, hb⟩
set_option maxRecDepth 100000 in
set_option maxHeartbeats 1600000 in
theorem refUint_walk (n : Nat) (hn : n < 2 ^ 64) (w : World) : Calls Tryd.prog 22 #[.int .u64 n] w fun e w' => UPost n w e w' := by
  obtain ⟨i0, hi, hz0, hz1, hz2⟩ := info_parts infoByte
  have HN2 := Lib.hid hn
  clear hn
  go_enter Tryd.func22, Tryd.ntmps22
  go_wp2_with fail
  go_loopw [0, 3] (fun x u wr => ∃ (k : Nat) (got : List Int), x = .int .u64 k ∧ Hid (got ++ uintL k = uintL n) ∧ k ≤ n ∧ HasB wr w.heap.size u got ∧ Below w.heap.size w wr) (fun x _ _ => (intOf x).toNat)
  case atStart => exact ⟨n, [], rfl, Lib.hid rfl, Nat.le_refl _, HasB.nothing _ _, Below.refl _ _⟩
  case round =>
    obtain ⟨k, got, rfl, GE, hkn, hv, hb⟩ := hrel
    have hl : got.length ≤ 950000 := by
      have h1 := congrArg List.length GE.out
      simp only [List.length_append] at h1
      have h2 := uintL_len HN2.out
      omega
    have hsz := hb.size
    have HV := Lib.hid hv
    have HB := Lib.hid hb
    clear hv hb
    by_cases hlt : 128 ≤ k
    · obtain ⟨x, hx⟩ : ∃ x, (k : Int) % 128 + 128 = x := ⟨_, rfl⟩
      have XE := Lib.hid (show x = ((k % 128 + 128 : Nat) : Int) by omega)
      have WK : IntKind.u64.wrap ((k : Int) / 128) = ((k / 128 : Nat) : Int) := (congrArg IntKind.u64.wrap (show (k : Int) / 128 = ((k / 128 : Nat) : Int) by omega)).trans (wrap_u64 (by have := HN2.out; omega))
      go_wp2_with (at_builtin; refine wpList_append_own_at _ rfl _ _ 23 rfl w.heap.size 5 i0 (.int .u8 0) 1 1 Tryd.underlying23 hi hz0 hz1 hz2 rfl (by decide) u3 got.length _ rfl (HV.out.alloc _) ⟨wr.heap.size, 0, none⟩ 1 1 [.int .u8 x] rfl rfl (cell_new_at' rfl _ _) (one_byte _) (fitb1 (by omega)) (fitb2 (by omega)) (by simp; omega) ?_; intro v' w4 hown hg2 _ hat)
      have N4 : Below w.heap.size w w4 := (HB.out.alloc hsz _).grown hg2 (by simp; omega) (fun j e => (World.ownsRow.lt HV.out j e).1)
      have O4 : HasB w4 w.heap.size v' (got ++ [x]) := by unfold HasB; rw [List.length_append, List.map_append]; exact hown
      have NH := Lib.hid N4
      have OH := Lib.hid O4
      clear hown hg2 hat hx N4 O4
      go_roundw
      case rel => exact ⟨k / 128, got ++ [x], by go_num, Lib.hid (by rw [← GE.out, uintL_big (n := k) (by omega), XE.out]; simp), by omega, OH.out, NH.out⟩
      case measure => simp [intOf]; omega
    · have XE := Lib.hid (uintL_small (n := k) (by omega))
      go_wp2_with (at_builtin; refine wpList_append_own_at _ rfl _ _ 23 rfl w.heap.size 5 i0 (.int .u8 0) 1 1 Tryd.underlying23 hi hz0 hz1 hz2 rfl (by decide) u3 got.length _ rfl (HV.out.alloc _) ⟨wr.heap.size, 0, none⟩ 1 1 [.int .u8 (k : Int)] rfl rfl (cell_new_at' rfl _ _) (one_byte _) (fitb1 (by omega)) (fitb2 (by omega)) (by simp; omega) ?_; intro v' w4 hown hg2 _ hat)
      have N4 : Below w.heap.size w w4 := (HB.out.alloc hsz _).grown hg2 (by simp; omega) (fun j e => (World.ownsRow.lt HV.out j e).1)
      have O4 : HasB w4 w.heap.size v' (uintL n) := by rw [← GE.out, XE.out]; unfold HasB; rw [List.length_append, List.map_append]; exact hown
      clear hown hg2 hat
      go_ret
      exact ⟨v', rfl, O4, N4⟩

theorem Sq.byte_at {w : World} {B n : Nat} {A : Option Addr} {l : List Int} (h : Sq w B 1 n A (l.map (Value.int .u8))) {i : Nat} (hi : i < n) : ∃ b off, A = some ⟨b, off, none⟩ ∧ b < B ∧ w.cell? ⟨b, off + i, none⟩ = some (.int .u8 (nth l i)) := h.int_at hi
/-- A byte more of a number: what the reading goes on with. -/
theorem go_more {l : List Int} {k acc : Nat} {y : Nat} (hk : k < l.length) (hx : nth l k = (y : Int)) (h10 : k < 10) (h128 : 128 ≤ y) (g : getGo k acc (l.drop k) = getL l ∧ acc < 128 ^ k) :
    (k + 1 < 10 → getGo (k + 1) (acc + y % 128 * 128 ^ k) (l.drop (k + 1)) = getL l ∧ acc + y % 128 * 128 ^ k < 128 ^ (k + 1)) ∧ (k + 1 = 10 → getL l = (0, 0)) := by
  have hd : l.drop k = (y : Int) :: l.drop (k + 1) := by rw [List.drop_eq_getElem_cons hk, ← nth_get hk, hx]
  have e : getGo (k + 1) (acc + y % 128 * 128 ^ k) (l.drop (k + 1)) = getL l := by
    rw [← g.1, hd]
    conv => rhs; unfold getGo
    rw [if_neg (by omega), if_pos (by omega), Int.toNat_natCast]
  have hp : (128 : Nat) ^ (k + 1) = 128 * 128 ^ k := by rw [Nat.pow_succ, Nat.mul_comm]
  refine ⟨fun _ => ⟨e, ?_⟩, fun h => ?_⟩
  · have := Nat.mul_le_mul_right (128 ^ k) (show y % 128 ≤ 127 by omega)
    have := g.2
    omega
  · rw [← e, h]
    cases l.drop 10 with
    | nil => rfl
    | cons a b => unfold getGo; rw [if_pos (by omega)]
theorem go_last {l : List Int} {k acc : Nat} {y : Nat} (hk : k < l.length) (hx : nth l k = (y : Int)) (h10 : k < 10) (h128 : y < 128) (g : getGo k acc (l.drop k) = getL l ∧ acc < 128 ^ k) :
    ((0 < k ∧ y = 0 ∨ k = 9 ∧ 1 < y) → getL l = (0, 0)) ∧ (¬ (0 < k ∧ y = 0 ∨ k = 9 ∧ 1 < y) → getL l = (acc + y * 128 ^ k, k + 1) ∧ acc + y * 128 ^ k < 2 ^ 64) := by
  have hd : l.drop k = (y : Int) :: l.drop (k + 1) := by rw [List.drop_eq_getElem_cons hk, ← nth_get hk, hx]
  have e := g.1
  rw [hd] at e
  unfold getGo at e
  rw [if_neg (by omega), if_neg (by omega), Int.toNat_natCast] at e
  refine ⟨fun h => ?_, fun h => ?_⟩
  · rw [if_pos (by omega)] at e; exact e.symm
  · rw [if_neg (by omega)] at e
    refine ⟨e.symm, ?_⟩
    have h9 : (128 : Nat) ^ 9 = 9223372036854775808 := by decide
    have h8 : (128 : Nat) ^ 8 = 72057594037927936 := by decide
    have h64 : (2 : Nat) ^ 64 = 18446744073709551616 := by decide
    by_cases hk9 : k = 9
    · subst hk9
      have := g.2
      have := Nat.mul_le_mul_right (128 ^ 9) (show y ≤ 1 by omega)
      omega
    · have hp : (128 : Nat) ^ k ≤ 128 ^ 8 := Nat.pow_le_pow_right (by omega) (by omega)
      have := Nat.mul_le_mul (show y ≤ 127 by omega) hp
      have := g.2
      omega
theorem go_end {l : List Int} {k acc : Nat} (hk : k = l.length ∨ k = 10) (hk10 : k ≤ 10) (G1 : k < 10 → getGo k acc (l.drop k) = getL l ∧ acc < 128 ^ k) (G2 : k = 10 → getL l = (0, 0)) : getL l = (0, 0) := by
  by_cases h : k = 10
  · exact G2 h
  · have e : l.drop k = [] := List.drop_eq_nil_of_le (by omega)
    have g := G1 (by omega)
    rw [e] at g
    exact g.1.symm
theorem ret_two {p : Nat × Nat} {a b : Nat} (h : p = (a, b)) : Ending.returned (.tuple #[.int .u64 a, .int .i64 b]) = .returned (.tuple #[.int .u64 p.1, .int .i64 p.2]) := by rw [h]
theorem ret_two' {p : Nat × Nat} {a : Nat} {b : Int} {k : Nat} (h : p = (a, k)) (hb : b = (k : Int)) : Ending.returned (.tuple #[.int .u64 a, .int .i64 b]) = .returned (.tuple #[.int .u64 p.1, .int .i64 p.2]) := by rw [h, hb]
set_option maxRecDepth 100000 in
set_option maxHeartbeats 1600000 in
theorem getUint_walk (A : Option Addr) (n c : Nat) (l : List Int) (w : World) {B : Nat} (hq : Sq w B 1 n A (l.map (Value.int .u8))) (hl : ∀ x ∈ l, 0 ≤ x ∧ x ≤ 255) (hn : n ≤ 1000000) :
    Calls Tryd.prog 20 #[.slice A n c] w fun e w' => e = .returned (.tuple #[.int .u64 (getL l).1, .int .i64 (getL l).2]) ∧ w = w' := by
  have hln := hq.size_ints
  have LN := Lib.hid hln
  have Q := Lib.hid hq
  have HL := Lib.hid hl
  clear hln hq hl
  by_cases h10 : n ≤ 10
  · go_enter Tryd.func20, Tryd.ntmps20
    go_wp2_with fail
    go_loop [4, 11] (fun a i => ∃ (k acc : Nat), a = .int .u64 acc ∧ i = .int .i64 k ∧ k ≤ n ∧ Hid (k < 10 → getGo k acc (l.drop k) = getL l ∧ acc < 128 ^ k) ∧ Hid (k = 10 → getL l = (0, 0))) (fun _ i => n - (intOf i).toNat)
    case atStart => exact ⟨0, 0, rfl, rfl, Nat.zero_le _, Lib.hid (fun _ => ⟨rfl, by simp⟩), Lib.hid (fun h => by omega)⟩
    case round =>
      obtain ⟨k, acc, rfl, rfl, hk, G1, G2⟩ := hrel
      by_cases hlt : k < n
      · obtain ⟨b, off, rfl, _, hc⟩ := Q.out.byte_at (show k < n by omega)
        have hkl : k < l.length := by have := LN.out; omega
        have hx := HL.out (nth l k) (by rw [nth_get hkl]; exact List.getElem_mem _)
        obtain ⟨y, hy⟩ := Int.eq_ofNat_of_zero_le hx.1
        have G := Lib.hid (G1.out (by omega))
        have AN := andNot128 hx.1 hx.2
        have AD := and128 hx.1 hx.2
        rw [hy] at hc AN AD hx
        rw [Int.toNat_natCast] at AN
        have HY := Lib.hid hy
        have hy255 : y ≤ 255 := by omega
        clear hy hx
        obtain ⟨a2, ha2⟩ := bits_nat .or (acc : Int) (IntKind.u64.wrap ((y : Int) % 128 * 2 ^ (7 * k)))
        have A2 := Lib.hid ha2
        by_cases h128 : 128 ≤ y
        · rw [if_pos (by omega)] at AD
          have GM := Lib.hid (go_more hkl HY.out (by omega) h128 G.out)
          go_wp2
          go_round
          case rel =>

            refine ⟨k + 1, a2, rfl, by go_num, by omega, Lib.hid fun h => ?_, Lib.hid GM.out.2⟩
            have g := GM.out.1 h
            have e : (a2 : Int) = ((acc + y % 128 * 128 ^ k : Nat) : Int) := A2.out.symm.trans (or_shift' G.out.2 (by have h9 : (128 : Nat) ^ (k + 1) ≤ 128 ^ 9 := Nat.pow_le_pow_right (by omega) (by omega); have h99 : (128 : Nat) ^ 9 = 9223372036854775808 := (by decide); have h64 : (2 : Nat) ^ 64 = 18446744073709551616 := (by decide); have := g.2; omega))
            have e2 : a2 = acc + y % 128 * 128 ^ k := by omega
            rw [e2]
            exact g
          case measure => simp [intOf]; omega
        · rw [if_neg (by omega)] at AD
          have GL := Lib.hid (go_last hkl HY.out (by omega) (by omega) G.out)
          have hym : y % 128 = y := Nat.mod_eq_of_lt (by omega)
          have YM := Lib.hid hym
          clear hym
          rcases Nat.eq_zero_or_pos k with k0 | k0
          · have KH := Lib.hid k0
            have YH := Lib.hid hy255
            have d1 : ¬ 0 < k := by omega
            have d2 : ((k : Int) == 9) = false := by simp; omega
            clear k0
            have GY := GL.out.2 (by have := KH.out; have := YH.out; omega)
            have e : (a2 : Int) = ((acc + y % 128 * 128 ^ k : Nat) : Int) := A2.out.symm.trans (or_shift' G.out.2 (by rw [YM.out]; exact GY.2))
            have e2 : a2 = acc + y * 128 ^ k := by rw [YM.out] at e; omega
            have GZ := Lib.hid (show getL l = (a2, k + 1) by rw [e2]; exact GY.1)
            clear GY e e2
            go_wp2
            go_ret2
            exact ⟨ret_two' GZ.out (by omega), rfl⟩
          · by_cases y0 : y = 0
            · have YH := Lib.hid y0
              have d1 : ((y : Int) == 0) = true := by simp; omega
              by_cases k9 : k = 9
              · have KH := Lib.hid k9
                have KP := Lib.hid k0
                have d2 : ((k : Int) == 9) = true := by simp; omega
                have d3 : ¬ 1 < y := by omega
                clear y0 k9
                go_wp2
                go_ret2
                exact ⟨ret_two (a := 0) (b := 0) (GL.out.1 (by have := KH.out; have := YH.out; omega)), rfl⟩
              · have KH := Lib.hid k9
                have d2 : ((k : Int) == 9) = false := by simp; omega
                clear y0 k9
                go_wp2
                go_ret2
                exact ⟨ret_two (a := 0) (b := 0) (GL.out.1 (by have := KH.out; have := YH.out; omega)), rfl⟩
            · have d1 : ((y : Int) == 0) = false := by simp; omega
              by_cases k9 : k = 9
              · have KH := Lib.hid k9
                have d2 : ((k : Int) == 9) = true := by simp; omega
                by_cases y1 : 1 < y
                · have YH := Lib.hid y1
                  clear k9 y0
                  go_wp2
                  go_ret2
                  exact ⟨ret_two (a := 0) (b := 0) (GL.out.1 (by have := KH.out; have := YH.out; omega)), rfl⟩
                · have YH := Lib.hid (And.intro y0 y1)
                  have d3 : ¬ 1 < y := by omega
                  clear k9 y0
                  have GY := GL.out.2 (by have := KH.out; have := YH.out; omega)
                  have e : (a2 : Int) = ((acc + y % 128 * 128 ^ k : Nat) : Int) := A2.out.symm.trans (or_shift' G.out.2 (by rw [YM.out]; exact GY.2))
                  have e2 : a2 = acc + y * 128 ^ k := by rw [YM.out] at e; omega
                  have GZ := Lib.hid (show getL l = (a2, k + 1) by rw [e2]; exact GY.1)
                  clear GY e e2
                  go_wp2
                  go_ret2
                  exact ⟨ret_two' GZ.out (by omega), rfl⟩
              · have KH := Lib.hid k9
                have YH := Lib.hid y0
                have d2 : ((k : Int) == 9) = false := by simp; omega
                clear k9 y0
                have GY := GL.out.2 (by have := KH.out; have := YH.out; omega)
                have e : (a2 : Int) = ((acc + y % 128 * 128 ^ k : Nat) : Int) := A2.out.symm.trans (or_shift' G.out.2 (by rw [YM.out]; exact GY.2))
                have e2 : a2 = acc + y * 128 ^ k := by rw [YM.out] at e; omega
                have GZ := Lib.hid (show getL l = (a2, k + 1) by rw [e2]; exact GY.1)
                clear GY e e2
                go_wp2
                go_ret2
                exact ⟨ret_two' GZ.out (by omega), rfl⟩
      · have hkm : k = n := by omega
        have E := Lib.hid (go_end (l := l) (k := k) (acc := acc) (by have := LN.out; omega) (by omega) G1.out G2.out)
        clear hkm
        go_wp2
        go_ret2
        exact ⟨ret_two (a := 0) (b := 0) E.out, rfl⟩
  · go_enter Tryd.func20, Tryd.ntmps20
    go_wp2_with fail
    go_loop [4, 11] (fun a i => ∃ (k acc : Nat), a = .int .u64 acc ∧ i = .int .i64 k ∧ k ≤ 10 ∧ Hid (k < 10 → getGo k acc (l.drop k) = getL l ∧ acc < 128 ^ k) ∧ Hid (k = 10 → getL l = (0, 0))) (fun _ i => 10 - (intOf i).toNat)
    case atStart => exact ⟨0, 0, rfl, rfl, Nat.zero_le _, Lib.hid (fun _ => ⟨rfl, by simp⟩), Lib.hid (fun h => by omega)⟩
    case round =>
      obtain ⟨k, acc, rfl, rfl, hk, G1, G2⟩ := hrel
      by_cases hlt : k < 10
      · obtain ⟨b, off, rfl, _, hc⟩ := Q.out.byte_at (show k < n by omega)
        have hkl : k < l.length := by have := LN.out; omega
        have hx := HL.out (nth l k) (by rw [nth_get hkl]; exact List.getElem_mem _)
        obtain ⟨y, hy⟩ := Int.eq_ofNat_of_zero_le hx.1
        have G := Lib.hid (G1.out (by omega))
        have AN := andNot128 hx.1 hx.2
        have AD := and128 hx.1 hx.2
        rw [hy] at hc AN AD hx
        rw [Int.toNat_natCast] at AN
        have HY := Lib.hid hy
        have hy255 : y ≤ 255 := by omega
        clear hy hx
        obtain ⟨a2, ha2⟩ := bits_nat .or (acc : Int) (IntKind.u64.wrap ((y : Int) % 128 * 2 ^ (7 * k)))
        have A2 := Lib.hid ha2
        by_cases h128 : 128 ≤ y
        · rw [if_pos (by omega)] at AD
          have GM := Lib.hid (go_more hkl HY.out (by omega) h128 G.out)
          go_wp2
          go_round
          case rel =>
            refine ⟨k + 1, a2, rfl, by go_num, by omega, Lib.hid fun h => ?_, Lib.hid GM.out.2⟩
            have g := GM.out.1 h
            have e : (a2 : Int) = ((acc + y % 128 * 128 ^ k : Nat) : Int) := A2.out.symm.trans (or_shift' G.out.2 (by have h9 : (128 : Nat) ^ (k + 1) ≤ 128 ^ 9 := Nat.pow_le_pow_right (by omega) (by omega); have h99 : (128 : Nat) ^ 9 = 9223372036854775808 := (by decide); have h64 : (2 : Nat) ^ 64 = 18446744073709551616 := (by decide); have := g.2; omega))
            have e2 : a2 = acc + y % 128 * 128 ^ k := by omega
            rw [e2]
            exact g
          case measure => simp [intOf]; omega
        · rw [if_neg (by omega)] at AD
          have GL := Lib.hid (go_last hkl HY.out (by omega) (by omega) G.out)
          have hym : y % 128 = y := Nat.mod_eq_of_lt (by omega)
          have YM := Lib.hid hym
          clear hym
          rcases Nat.eq_zero_or_pos k with k0 | k0
          · have KH := Lib.hid k0
            have YH := Lib.hid hy255
            have d1 : ¬ 0 < k := by omega
            have d2 : ((k : Int) == 9) = false := by simp; omega
            clear k0
            have GY := GL.out.2 (by have := KH.out; have := YH.out; omega)
            have e : (a2 : Int) = ((acc + y % 128 * 128 ^ k : Nat) : Int) := A2.out.symm.trans (or_shift' G.out.2 (by rw [YM.out]; exact GY.2))
            have e2 : a2 = acc + y * 128 ^ k := by rw [YM.out] at e; omega
            have GZ := Lib.hid (show getL l = (a2, k + 1) by rw [e2]; exact GY.1)
            clear GY e e2
            go_wp2
            go_ret2
            exact ⟨ret_two' GZ.out (by omega), rfl⟩
          · by_cases y0 : y = 0
            · have YH := Lib.hid y0
              have d1 : ((y : Int) == 0) = true := by simp; omega
              by_cases k9 : k = 9
              · have KH := Lib.hid k9
                have KP := Lib.hid k0
                have d2 : ((k : Int) == 9) = true := by simp; omega
                have d3 : ¬ 1 < y := by omega
                clear y0 k9
                go_wp2
                go_ret2
                exact ⟨ret_two (a := 0) (b := 0) (GL.out.1 (by have := KH.out; have := YH.out; omega)), rfl⟩
              · have KH := Lib.hid k9
                have d2 : ((k : Int) == 9) = false := by simp; omega
                clear y0 k9
                go_wp2
                go_ret2
                exact ⟨ret_two (a := 0) (b := 0) (GL.out.1 (by have := KH.out; have := YH.out; omega)), rfl⟩
            · have d1 : ((y : Int) == 0) = false := by simp; omega
              by_cases k9 : k = 9
              · have KH := Lib.hid k9
                have d2 : ((k : Int) == 9) = true := by simp; omega
                by_cases y1 : 1 < y
                · have YH := Lib.hid y1
                  clear k9 y0
                  go_wp2
                  go_ret2
                  exact ⟨ret_two (a := 0) (b := 0) (GL.out.1 (by have := KH.out; have := YH.out; omega)), rfl⟩
                · have YH := Lib.hid (And.intro y0 y1)
                  have d3 : ¬ 1 < y := by omega
                  clear k9 y0
                  have GY := GL.out.2 (by have := KH.out; have := YH.out; omega)
                  have e : (a2 : Int) = ((acc + y % 128 * 128 ^ k : Nat) : Int) := A2.out.symm.trans (or_shift' G.out.2 (by rw [YM.out]; exact GY.2))
                  have e2 : a2 = acc + y * 128 ^ k := by rw [YM.out] at e; omega
                  have GZ := Lib.hid (show getL l = (a2, k + 1) by rw [e2]; exact GY.1)
                  clear GY e e2
                  go_wp2
                  go_ret2
                  exact ⟨ret_two' GZ.out (by omega), rfl⟩
              · have KH := Lib.hid k9
                have YH := Lib.hid y0
                have d2 : ((k : Int) == 9) = false := by simp; omega
                clear k9 y0
                have GY := GL.out.2 (by have := KH.out; have := YH.out; omega)
                have e : (a2 : Int) = ((acc + y % 128 * 128 ^ k : Nat) : Int) := A2.out.symm.trans (or_shift' G.out.2 (by rw [YM.out]; exact GY.2))
                have e2 : a2 = acc + y * 128 ^ k := by rw [YM.out] at e; omega
                have GZ := Lib.hid (show getL l = (a2, k + 1) by rw [e2]; exact GY.1)
                clear GY e e2
                go_wp2
                go_ret2
                exact ⟨ret_two' GZ.out (by omega), rfl⟩
      · have hkm : k = 10 := by omega
        have E := Lib.hid (go_end (l := l) (k := k) (acc := acc) (by have := LN.out; omega) (by omega) G1.out G2.out)
        clear hkm
        go_wp2
        go_ret2
        exact ⟨ret_two (a := 0) (b := 0) E.out, rfl⟩
end Go.Proofs.YtalhlgiklochdaaDoor
namespace Go.Proofs.YtalhlgiklochdaaDoor
open Go.ChangeShapes Go.WideShapes Go.ChangeAt Go.RowKit

theorem wrap_nat (z : Int) : ∃ a : Nat, IntKind.u64.wrap z = (a : Int) := by
  have e : IntKind.u64.wrap z = z % 18446744073709551616 := by simp [IntKind.wrap, IntKind.signed, IntKind.bits]
  exact ⟨(z % 18446744073709551616).toNat, by rw [e]; omega⟩
theorem add_mul {acc k y M : Nat} (hM : M = 128 ^ k) (h : acc + y % 128 * 128 ^ k < 2 ^ 64) : IntKind.u64.wrap ((acc : Int) + IntKind.u64.wrap ((y : Int) % 128 * (M : Int))) = ((acc + y % 128 * 128 ^ k : Nat) : Int) := by
  subst hM
  have e : (y : Int) % 128 * ((128 ^ k : Nat) : Int) = ((y % 128 * 128 ^ k : Nat) : Int) := by rw [show (y : Int) % 128 = ((y % 128 : Nat) : Int) by omega, ← Int.natCast_mul]
  rw [e, wrap_u64 (show y % 128 * 128 ^ k < 2 ^ 64 by omega), show (acc : Int) + ((y % 128 * 128 ^ k : Nat) : Int) = ((acc + y % 128 * 128 ^ k : Nat) : Int) by omega]
  exact wrap_u64 h
set_option maxRecDepth 100000 in
set_option maxHeartbeats 1600000 in
theorem refGetUint_walk (A : Option Addr) (n c : Nat) (l : List Int) (w : World) {B : Nat} (hq : Sq w B 1 n A (l.map (Value.int .u8))) (hl : ∀ x ∈ l, 0 ≤ x ∧ x ≤ 255) :
    Calls Tryd.prog 21 #[.slice A n c] w fun e w' => e = .returned (.tuple #[.int .u64 (getL l).1, .int .i64 (getL l).2]) ∧ w = w' := by
  have hln := hq.size_ints
  have LN := Lib.hid hln
  have Q := Lib.hid hq
  have HL := Lib.hid hl
  clear hln hq hl
  go_enter Tryd.func21, Tryd.ntmps21
  go_wp2_with fail
  go_loop [4, 5, 6] (fun a m i => ∃ (k acc M : Nat), a = .int .u64 acc ∧ m = .int .u64 M ∧ i = .int .i64 k ∧ k ≤ n ∧ k ≤ 10 ∧ Hid (k < 10 → getGo k acc (l.drop k) = getL l ∧ acc < 128 ^ k ∧ M = 128 ^ k) ∧ Hid (k = 10 → getL l = (0, 0))) (fun _ _ i => n - (intOf i).toNat)
  case atStart => exact ⟨0, 0, 1, rfl, rfl, rfl, Nat.zero_le _, Nat.zero_le _, Lib.hid (fun _ => ⟨rfl, by simp, by simp⟩), Lib.hid (fun h => by omega)⟩
  case round =>
    obtain ⟨k, acc, M, rfl, rfl, rfl, hk, hk10, G1, G2⟩ := hrel
    by_cases hlt : k < n ∧ k < 10
    · obtain ⟨hlt, hlt10⟩ := hlt
      obtain ⟨b, off, rfl, _, hc⟩ := Q.out.byte_at hlt
      have hkl : k < l.length := by have := LN.out; omega
      have hx := HL.out (nth l k) (by rw [nth_get hkl]; exact List.getElem_mem _)
      obtain ⟨y, hy⟩ := Int.eq_ofNat_of_zero_le hx.1
      have G := Lib.hid (G1.out hlt10)
      rw [hy] at hc hx
      have HY := Lib.hid hy
      have hy255 : y ≤ 255 := by omega
      have ME := Lib.hid G.out.2.2
      clear hy hx
      obtain ⟨a2, ha2⟩ := wrap_nat ((acc : Int) + IntKind.u64.wrap ((y : Int) % 128 * (M : Int)))
      obtain ⟨m2, hm2⟩ := wrap_nat ((M : Int) * 128)
      have A2 := Lib.hid ha2
      have M2 := Lib.hid hm2
      have GG := Lib.hid G.out.1
      by_cases k9 : k = 9
      · have KH := Lib.hid k9
        have d2 : ((k : Int) == 9) = true := by simp; omega
        by_cases y1 : 1 < y % 128
        · have E := Lib.hid (show getL l = (0, 0) by
            by_cases h128 : 128 ≤ y
            · exact (go_more hkl HY.out (by omega) h128 ⟨G.out.1, G.out.2.1⟩).2 (by omega)
            · exact (go_last hkl HY.out (by omega) (by omega) ⟨G.out.1, G.out.2.1⟩).1 (.inr ⟨k9, by omega⟩))
          have d3 : (1 : Int) < (y : Int) % 128 := by omega
          clear k9 y1
          go_wp2
          go_ret2
          exact ⟨ret_two (a := 0) (b := 0) E.out, rfl⟩
        · have d3 : ¬ (1 : Int) < (y : Int) % 128 := by omega
          by_cases h128 : 128 ≤ y
          · have GM := Lib.hid (go_more hkl HY.out (by omega) h128 ⟨G.out.1, G.out.2.1⟩)
            have hge : ¬ y < 128 := by omega
            clear k9
            go_wp2
            go_round
            case rel =>
              refine ⟨k + 1, a2, m2, rfl, rfl, by go_num, by omega, by omega, Lib.hid fun h => ?_, Lib.hid GM.out.2⟩
              have g := GM.out.1 h
              have h9 : (128 : Nat) ^ (k + 1) ≤ 128 ^ 9 := Nat.pow_le_pow_right (by omega) (by omega)
              have h99 : (128 : Nat) ^ 9 = 9223372036854775808 := (by decide)
              have h64 : (2 : Nat) ^ 64 = 18446744073709551616 := (by decide)
              have hp : (128 : Nat) ^ (k + 1) = 128 * 128 ^ k := by rw [Nat.pow_succ, Nat.mul_comm]
              have e : (a2 : Int) = ((acc + y % 128 * 128 ^ k : Nat) : Int) := A2.out.symm.trans (add_mul ME.out (by have := g.2; omega))
              have e2 : a2 = acc + y % 128 * 128 ^ k := by omega
              have f : (m2 : Int) = ((128 ^ (k + 1) : Nat) : Int) := M2.out.symm.trans (by rw [ME.out, show ((128 ^ k : Nat) : Int) * 128 = ((128 ^ (k + 1) : Nat) : Int) by rw [hp]; omega]; exact wrap_u64 (by omega))
              rw [e2]
              exact ⟨g.1, g.2, by omega⟩
            case measure => simp [intOf]; omega
          · have GL := Lib.hid (go_last hkl HY.out (by omega) (by omega) ⟨G.out.1, G.out.2.1⟩)
            have YM := Lib.hid (show y % 128 = y from Nat.mod_eq_of_lt (by omega))
            by_cases y0 : y = 0
            · have YH := Lib.hid y0
              have d1 : ((y : Int) == 0) = true := by simp; omega
              have d4 : 0 < k := by omega
              have E := Lib.hid (GL.out.1 (.inl ⟨d4, y0⟩))
              clear k9 y0
              go_wp2
              go_ret2
              exact ⟨ret_two (a := 0) (b := 0) E.out, rfl⟩
            · have YH := Lib.hid (And.intro y0 y1)
              have d1 : ((y : Int) == 0) = false := by simp; omega
              have d4 : 0 < k := by omega
              have hlt2 : y < 128 := by omega
              clear k9 y0 y1 h128
              have GY := GL.out.2 (by have := KH.out; have := YH.out; omega)
              have e : (a2 : Int) = ((acc + y % 128 * 128 ^ k : Nat) : Int) := A2.out.symm.trans (add_mul ME.out (by rw [YM.out]; exact GY.2))
              have e2 : a2 = acc + y * 128 ^ k := by rw [YM.out] at e; omega
              have GZ := Lib.hid (show getL l = (a2, k + 1) by rw [e2]; exact GY.1)
              clear GY e e2
              go_wp2
              go_ret2
              exact ⟨ret_two' GZ.out (by omega), rfl⟩
      · have KH := Lib.hid k9
        have d2 : ((k : Int) == 9) = false := by simp; omega
        by_cases h128 : 128 ≤ y
        · have GM := Lib.hid (go_more hkl HY.out (by omega) h128 ⟨G.out.1, G.out.2.1⟩)
          have hge : ¬ y < 128 := by omega
          go_wp2
          go_round
          case rel =>
            refine ⟨k + 1, a2, m2, rfl, rfl, by go_num, by omega, by omega, Lib.hid fun h => ?_, Lib.hid GM.out.2⟩
            have g := GM.out.1 h
            have h9 : (128 : Nat) ^ (k + 1) ≤ 128 ^ 9 := Nat.pow_le_pow_right (by omega) (by omega)
            have h99 : (128 : Nat) ^ 9 = 9223372036854775808 := (by decide)
            have h64 : (2 : Nat) ^ 64 = 18446744073709551616 := (by decide)
            have hp : (128 : Nat) ^ (k + 1) = 128 * 128 ^ k := by rw [Nat.pow_succ, Nat.mul_comm]
            have e : (a2 : Int) = ((acc + y % 128 * 128 ^ k : Nat) : Int) := A2.out.symm.trans (add_mul ME.out (by have := g.2; omega))
            have e2 : a2 = acc + y % 128 * 128 ^ k := by omega
            have f : (m2 : Int) = ((128 ^ (k + 1) : Nat) : Int) := M2.out.symm.trans (by rw [ME.out, show ((128 ^ k : Nat) : Int) * 128 = ((128 ^ (k + 1) : Nat) : Int) by rw [hp]; omega]; exact wrap_u64 (by omega))
            rw [e2]
            exact ⟨g.1, g.2, by omega⟩
          case measure => simp [intOf]; omega
        · have GL := Lib.hid (go_last hkl HY.out (by omega) (by omega) ⟨G.out.1, G.out.2.1⟩)
          have YM := Lib.hid (show y % 128 = y from Nat.mod_eq_of_lt (by omega))
          have hlt2 : y < 128 := by omega
          by_cases k0 : 0 < k
          · by_cases y0 : y = 0
            · have E := Lib.hid (GL.out.1 (.inl ⟨k0, y0⟩))
              have d1 : ((y : Int) == 0) = true := by simp; omega
              clear y0 k9
              go_wp2
              go_ret2
              exact ⟨ret_two (a := 0) (b := 0) E.out, rfl⟩
            · have YH := Lib.hid y0
              have d1 : ((y : Int) == 0) = false := by simp; omega
              clear y0 k9
              have GY := GL.out.2 (by have := KH.out; have := YH.out; omega)
              have e : (a2 : Int) = ((acc + y % 128 * 128 ^ k : Nat) : Int) := A2.out.symm.trans (add_mul ME.out (by rw [YM.out]; exact GY.2))
              have e2 : a2 = acc + y * 128 ^ k := by rw [YM.out] at e; omega
              have GZ := Lib.hid (show getL l = (a2, k + 1) by rw [e2]; exact GY.1)
              clear GY e e2
              go_wp2
              go_ret2
              exact ⟨ret_two' GZ.out (by omega), rfl⟩
          · have YH := Lib.hid (show ¬ 0 < k from k0)
            clear k9
            have GY := GL.out.2 (by have := KH.out; have := YH.out; omega)
            have e : (a2 : Int) = ((acc + y % 128 * 128 ^ k : Nat) : Int) := A2.out.symm.trans (add_mul ME.out (by rw [YM.out]; exact GY.2))
            have e2 : a2 = acc + y * 128 ^ k := by rw [YM.out] at e; omega
            have GZ := Lib.hid (show getL l = (a2, k + 1) by rw [e2]; exact GY.1)
            clear GY e e2
            go_wp2
            go_ret2
            exact ⟨ret_two' GZ.out (by omega), rfl⟩
    · have E := Lib.hid (go_end (l := l) (k := k) (acc := acc) (by have := LN.out; omega) hk10 (fun h => ⟨(G1.out h).1, (G1.out h).2.1⟩) G2.out)
      by_cases h1 : k < n
      · have h2 : ¬ k < 10 := by omega
        clear hlt
        go_wp2
        go_ret2
        exact ⟨ret_two (a := 0) (b := 0) E.out, rfl⟩
      · clear hlt
        go_wp2
        go_ret2
        exact ⟨ret_two (a := 0) (b := 0) E.out, rfl⟩
end Go.Proofs.YtalhlgiklochdaaDoor
