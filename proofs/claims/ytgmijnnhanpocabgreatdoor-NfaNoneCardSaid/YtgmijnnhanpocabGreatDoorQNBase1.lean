/-
  NfaNone answers true wherever the table of widths stands: one run of the evaluator. Sixty-four signs in plain words: three bytes as four signs, and back; by bits the same. Nothing of the program. base.appendSigns, base.Put: the signs of bytes.
-/
import Derived.Test.YtgmijnnhanpocabGreatDoorQNEvZ0
import Derived.ProofKit
import Derived.Test.YtgmijnnhanpocabGreatDoorQNBase0
import Derived.Maps.AppendAt
import Derived.Outline
import Derived.Laws.BitsLemmas
import Derived.Laws.MakeOwn
import Derived.Laws.IdiomStrings
import Derived.Laws.Strings3
import Derived.Lib.AppendStr
import Derived.Deep.DeepMust
namespace Go.Proofs.YtgmijnnhanpocabGreatDoor.nfaNone
open Go.ChangeShapes Go.WideShapes Go.ChangeAt Go.RowKit
set_option maxRecDepth 100000 in
theorem all : Ev.Trues Tryz.prog 6 0 Ev.table :=
 Ev.layer (bg := some 20) (n := 100000) Ev.mixed Ev.ints (by decide +kernel) (Ev.told (fun f h => by obtain rfl := Ev.some_inj h; exact Ev.begun1)) ⟨_, Tryz.func6, by kernel_rfl, by kernel_rfl⟩ rfl (fun _ => by kernel_rfl)
end Go.Proofs.YtgmijnnhanpocabGreatDoor.nfaNone
namespace Go.Proofs.YtgmijnnhanpocabGreatDoor.BM
def alpha : List Nat := [65, 66, 67, 68, 69, 70, 71, 72, 73, 74, 75, 76, 77, 78, 79, 80, 81, 82, 83, 84, 85, 86, 87, 88, 89, 90, 97, 98, 99, 100, 101, 102, 103, 104, 105, 106, 107, 108, 109, 110, 111, 112, 113, 114, 115, 116, 117, 118, 119, 120, 121, 122, 48, 49, 50, 51, 52, 53, 54, 55, 56, 57, 43, 47]
def sgn (k : Nat) : Nat := alpha.getD k 0
theorem sgn_fill : ∀ k, k < 64 → sgn k ≠ 61 := by decide
theorem sgn_byte : ∀ k, k < 64 → sgn k < 128 := by decide
def val (b : Nat) (g : List Nat) : Nat := g.foldl (fun v x => v * b + x) 0
theorem val_snoc (b : Nat) (g : List Nat) (x : Nat) : val b (g ++ [x]) = val b g * b + x := by unfold val; rw [List.foldl_append]; rfl
def encG (m v : Nat) : List Nat := (List.range (m + 1)).map (fun i => sgn (v * 64 / 2 ^ (8 * m - 6 * i) % 64)) ++ List.replicate (3 - m) 61
def putL : List Nat → List Nat
 | [] => []
 | [a] => encG 1 (val 256 [a])
 | [a, b] => encG 2 (val 256 [a, b])
 | a :: b :: c :: l => encG 3 (val 256 [a, b, c]) ++ putL l
theorem putL_group : ∀ {g : List Nat}, 1 ≤ g.length → g.length ≤ 3 → putL g = encG g.length (val 256 g)
 | [a], _, _ => rfl
 | [a, b], _, _ => rfl
 | [a, b, c], _, _ => by rw [putL, putL, List.append_nil]; rfl
 | [], h, _ => by simp at h
 | _ :: _ :: _ :: _ :: _, _, h => by simp at h
theorem putL_append : ∀ (k : Nat) (x y : List Nat), x.length = 3 * k → putL (x ++ y) = putL x ++ putL y
 | 0, x, y, h => by
  obtain rfl := List.eq_nil_of_length_eq_zero (by omega)
  rfl
 | k + 1, x, y, h => by
  match x, h with
  | a :: b :: c :: l, h =>
   have ih := putL_append k l y (by simp at h; omega)
   rw [List.cons_append, List.cons_append, List.cons_append, putL, putL, ih, List.append_assoc]
theorem encG_len {m v : Nat} (hm : m ≤ 3) : (encG m v).length = 4 := by unfold encG; simp; omega
theorem putL_len : ∀ (l : List Nat), (putL l).length = (l.length + 2) / 3 * 4
 | [] => rfl
 | [a] => by rw [putL, encG_len (by decide)]; simp
 | [a, b] => by rw [putL, encG_len (by decide)]; simp
 | a :: b :: c :: l => by
  rw [putL, List.length_append, encG_len (by decide), putL_len l]
  simp only [List.length_cons]
  omega
theorem putL_step {l : List Nat} {k : Nat} (h : 3 * k < l.length) : putL (l.take (3 * (k + 1))) = putL (l.take (3 * k)) ++ encG (min 3 (l.length - 3 * k)) (val 256 ((l.drop (3 * k)).take 3)) := by
 have e : l.take (3 * (k + 1)) = l.take (3 * k) ++ (l.drop (3 * k)).take 3 := by
  rw [show 3 * (k + 1) = 3 * k + 3 by omega, List.take_add]
 have hg : ((l.drop (3 * k)).take 3).length = min 3 (l.length - 3 * k) := by rw [List.length_take, List.length_drop]
 rw [e, putL_append k _ _ (by rw [List.length_take]; omega), putL_group (g := (l.drop (3 * k)).take 3) (by omega) (by omega), hg]
theorem count_enc (m v : Nat) : (encG m v).count 61 = 3 - m := by
 unfold encG
 rw [List.count_append, List.count_replicate_self]
 have : List.count 61 ((List.range (m + 1)).map (fun i => sgn (v * 64 / 2 ^ (8 * m - 6 * i) % 64))) = 0 := by
  refine List.count_eq_zero.2 fun h => ?_
  obtain ⟨i, _, hi⟩ := List.mem_map.1 h
  exact sgn_fill _ (Nat.mod_lt _ (by decide)) hi
 omega
theorem putL_count : ∀ (l : List Nat), (putL l).count 61 = (3 - l.length % 3) % 3
 | [] => rfl
 | [a] => by rw [putL, count_enc]; rfl
 | [a, b] => by rw [putL, count_enc]; rfl
 | a :: b :: c :: l => by
  rw [putL, List.count_append, count_enc, putL_count l]
  simp only [List.length_cons]
  omega
def Byt (l : List Nat) : Prop := ∀ x ∈ l, x < 256
theorem lt64 (n : Nat) : n % 64 < 64 := Nat.mod_lt _ (by decide)
theorem four {l : List Nat} (h : l.length = 4) : ∃ x y z u, l = [x, y, z, u] := by
 match l, h with
 | [x, y, z, u], _ => exact ⟨x, y, z, u, rfl⟩
theorem byt_append {x y : List Nat} (h : Byt x) (k : Byt y) : Byt (x ++ y) := fun z hz => (List.mem_append.1 hz).elim (h z) (k z)
theorem byt_take {l : List Nat} (h : Byt l) (k : Nat) : Byt (l.take k) := fun x hx => h x (List.mem_of_mem_take hx)
end Go.Proofs.YtgmijnnhanpocabGreatDoor.BM
namespace Go.Proofs.YtgmijnnhanpocabGreatDoor
open Go.ChangeShapes Go.WideShapes Go.ChangeAt Go.RowKit
namespace BM
def u8v (x : Nat) : Value := .int .u8 (x : Int)
def bts (s : ByteArray) : List Nat := s.data.toList.map UInt8.toNat
def txt (l : List Nat) : ByteArray := ⟨(l.map UInt8.ofNat).toArray⟩
theorem bts_len (s : ByteArray) : (bts s).length = s.size := by unfold bts; rw [List.length_map, Array.length_toList]; rfl
theorem bts_byt (s : ByteArray) : Byt (bts s) := fun x hx => by
 obtain ⟨c, _, rfl⟩ := List.mem_map.1 hx
 exact c.toNat_lt
theorem bts_at (s : ByteArray) (k : Nat) (h : k < s.size) : (bts s)[k]? = some ((s[k]'h).toNat) := by
 unfold bts
 rw [List.getElem?_map]
 have h2 : k < s.data.toList.length := by rw [Array.length_toList]; exact h
 rw [List.getElem?_eq_getElem h2]
 rfl
theorem bts_txt {l : List Nat} (h : Byt l) : bts (txt l) = l := by
 unfold bts txt
 simp only [List.map_map]
 conv => rhs; rw [← List.map_id l]
 refine List.map_congr_left fun x hx => ?_
 have := h x hx
 simp [Nat.mod_eq_of_lt this]
theorem bts_ext (s : ByteArray) (a b : Nat) : bts (s.extract a b) = ((bts s).drop a).take (b - a) := by
 unfold bts
 rw [ByteArray.data_extract, Array.toList_extract, List.extract_eq_take_drop, List.map_take, List.map_drop]
theorem infoU8 : (Tryz.prog.info? 5).map (fun i => (i.zero, i.size, i.bytes)) = some (some (.int .u8 0), 1, 1) := by kernel_rfl
def HasN (w : World) (base : Nat) (v : Value) (xs : List Nat) : Prop := w.ownsRow base 5 1 v xs.length (xs.map u8v)
theorem HasN.shape {w : World} {base : Nat} {v : Value} {xs : List Nat} (h : HasN w base v xs) : ∃ A c, v = .slice A xs.length c := by
 rcases h.2 with ⟨rfl, h0⟩ | ⟨g, cap, cur, rfl, _⟩
 ·rw [h0]; exact ⟨_, _, rfl⟩
 ·exact ⟨_, _, rfl⟩
theorem HasN.ge {w : World} {base : Nat} {v : Value} {xs : List Nat} (h : HasN w base v xs) : ∀ k, v.ownBlock = some k → base ≤ k := fun k e => (World.ownsRow.lt h k e).1
theorem u8_one (x : Nat) : ∀ u ∈ [u8v x], u.oneCell' = true := by intro u hu; simp at hu; subst hu; rfl
theorem new_at {w : World} {n : Nat} (h : w.heap.size = n) (x : Value) (t : TypeId) : ∀ j u, [x][j]? = some u → (w.alloc (.cells #[x] t)).cell? ((⟨n, 0, none⟩ : Addr).add j) = some u := by
 subst h; exact cell_one_new w x t
theorem fit1 {n : Nat} (h : n ≤ 1000000) : n + 1 ≤ maxLen := by unfold maxLen; omega
theorem fit2 {n : Nat} (h : n ≤ 1000000) : (n + 1) * 1 ≤ 140737488355328 := by omega
theorem HasN.snoc {w : World} {base : Nat} {v : Value} {xs : List Nat} {x : Nat} (h : w.ownsRow base 5 1 v (xs.length + 1) (xs.map u8v ++ [u8v x])) : HasN w base v (xs ++ [x]) := by
 unfold HasN
 rw [List.length_append, List.map_append]
 exact h
theorem wraps_i64 (n : Int) (h₀ : 0 ≤ n) (h₁ : n < 2 ^ 62) : IntKind.i64.wrap n = n := IntWalk.i64_in _ (by omega)
theorem or_byte {v x : Nat} (hv : v < 16777216) (hx : x < 256) : bits .or .i64 ((v : Int) * 256) (x : Int) = ((v * 256 + x : Nat) : Int) := by
 rw [bits_join .i64 62 (by decide) wraps_i64 8 _ _ (by omega) (by omega) (by omega) (by omega) (by omega) (by omega)]
 omega
def alphaS : ByteArray := { data := #[65, 66, 67, 68, 69, 70, 71, 72, 73, 74, 75, 76, 77, 78, 79, 80, 81, 82, 83, 84, 85, 86, 87, 88, 89, 90, 97, 98, 99, 100, 101, 102, 103, 104, 105, 106, 107, 108, 109, 110, 111, 112, 113, 114, 115, 116, 117, 118, 119, 120, 121, 122, 48, 49, 50, 51, 52, 53, 54, 55, 56, 57, 43, 47] }
theorem alphaS_is : bts alphaS = alpha := by decide
theorem alphaS_at (k : Nat) (h : k < alphaS.size) : ((alphaS[k]'h).toNat) = sgn k := by
 have h1 := bts_at alphaS k h
 rw [alphaS_is] at h1
 unfold sgn
 rw [List.getD_eq_getElem?_getD, h1]
 rfl
theorem val_lt {l : List Nat} (h : Byt l) : val 256 l < 256 ^ l.length := by
 have key : ∀ (l : List Nat) (v : Nat), Byt l → l.foldl (fun v x => v * 256 + x) v < (v + 1) * 256 ^ l.length := by
  intro l
  induction l with
  | nil => intro v _; simp
  | cons x l ih =>
   intro v h
   have h1 := ih (v * 256 + x) (fun y hy => h y (by simp [hy]))
   have h2 := h x (by simp)
   rw [List.foldl_cons, List.length_cons, Nat.pow_succ]
   refine Nat.lt_of_lt_of_le h1 ?_
   rw [show (v + 1) * (256 ^ l.length * 256) = ((v + 1) * 256) * 256 ^ l.length by rw [Nat.mul_comm (256 ^ l.length) 256, Nat.mul_assoc]]
   exact Nat.mul_le_mul_right _ (by omega)
 simpa [val] using key l 0 h
theorem val_take {b : Nat} {l : List Nat} {k x : Nat} (h : l[k]? = some x) : val b (l.take (k + 1)) = val b (l.take k) * b + x := by
 obtain ⟨h1, h2⟩ := List.getElem?_eq_some_iff.1 h
 rw [List.take_succ_eq_append_getElem h1, h2, val_snoc]
def firstS (m v i : Nat) : List Nat := (List.range i).map fun i => sgn (v * 64 / 2 ^ (8 * m - 6 * i) % 64)
theorem firstS_next (m v i : Nat) : firstS m v (i + 1) = firstS m v i ++ [sgn (v * 64 / 2 ^ (8 * m - 6 * i) % 64)] := by
 unfold firstS
 rw [List.range_succ, List.map_append]
 rfl
theorem firstS_len (m v i : Nat) : (firstS m v i).length = i := by unfold firstS; simp
theorem encG_first (m v : Nat) : encG m v = firstS m v (m + 1) ++ List.replicate (3 - m) 61 := rfl
set_option maxRecDepth 100000 in
set_option maxHeartbeats 6400000 in
theorem appendSigns_walk (B : Nat) (v : Value) (xs : List Nat) (g : ByteArray) (w : World) (ho : HasN w B v xs) (hB : B ≤ w.heap.size) (hx : xs.length ≤ 900000) (h1 : 1 ≤ g.size) (h3 : g.size ≤ 3) :
  Calls Tryz.prog 23 #[v, .string g] w fun e w' => ∃ v', e = .returned v' ∧ HasN w' B v' (xs ++ encG g.size (val 256 (bts g))) ∧ Below B w w' := by
 obtain ⟨i0, hi, hz0, hz1, hz2⟩ := info_parts infoU8
 obtain ⟨m, hm⟩ : ∃ m, g.size = m := ⟨_, rfl⟩
 obtain ⟨V, hV⟩ : ∃ V, val 256 (bts g) = V := ⟨_, rfl⟩
 have BL := Lib.hid (show (bts g).length = m from by rw [bts_len, hm])
 have HM := Lib.hid hm
 have VV := Lib.hid (show val 256 ((bts g).take m) = V from by rw [List.take_of_length_le (by rw [BL.out]; exact Nat.le_refl _), hV])
 have VL := Lib.hid (show ∀ k, k ≤ 3 → val 256 ((bts g).take k) < 16777216 from fun k hk => by
  have h := val_lt (byt_take (bts_byt g) k)
  have hl : ((bts g).take k).length ≤ 3 := by rw [List.length_take]; omega
  exact Nat.lt_of_lt_of_le h (Nat.pow_le_pow_right (by decide) hl))
 have HO := Lib.hid ho
 rw [hV]
 rw [hm] at h1 h3 ⊢
 clear ho hV
 go_enter Tryz.func23, Tryz.ntmps23
 go_wp2_with fail
 go_loopw [5, 6, 7, 11] (fun b o _ i wr => ∃ k : Nat, b = .int .i64 ((val 256 ((bts g).take k) : Nat) : Int) ∧ o = .int .i64 ((8 * k : Nat) : Int) ∧ i = .int .i64 (k : Int) ∧ k ≤ m ∧ w = wr) (fun _ _ _ i _ => m - (intOf i).toNat)
 case atStart => exact ⟨0, rfl, rfl, rfl, Nat.zero_le _, rfl⟩
 case round =>
  obtain ⟨k, rfl, rfl, rfl, hk, rfl⟩ := hrel
  by_cases hlt : k < m
  ·have hg : k < g.size := by rw [HM.out]; exact hlt
   obtain ⟨y, hy⟩ : ∃ y, (g[k]'hg).toNat = y := ⟨_, rfl⟩
   have hgt : ∀ h : k < g.size, (g[k]'h).toNat = y := fun _ => hy
   have hyb : (bts g)[k]? = some y := by rw [bts_at g k hg, hy]
   have hy2 : y < 256 := bts_byt g _ (List.mem_of_getElem? hyb)
   have NX := Lib.hid (val_take (b := 256) hyb)
   have hv := VL.out k (by omega)
   obtain ⟨X, hX⟩ : ∃ X, val 256 ((bts g).take k) = X := ⟨_, rfl⟩
   rw [hX] at hv NX ⊢
   have OB := or_byte hv hy2
   have hw1 : IntKind.i64.wrap ((X : Int) * 256) = (X : Int) * 256 := IntWalk.i64_in _ (by omega)
   have hlt' : (k : Int) < (m : Int) := by omega
   have k0 : (0 : Int) ≤ (k : Int) := by omega
   clear hy hyb hX
   go_wp2_with fail
   go_roundw
   case rel => exact ⟨k + 1, by rw [NX.out]; go_num, by go_num, by go_num, by omega, by trivial⟩
   case measure => first | (simp [intOf]; done) | (simp [intOf]; omega)
  ·obtain rfl : k = m := by omega
   have I0 := Lib.hid (show HasN w B v (xs ++ firstS k V 0) ∧ Below B w w from ⟨by rw [show firstS k V 0 = [] from rfl, List.append_nil]; exact HO.out, Below.refl _ _⟩)
   have hV0 : V < 16777216 := by have h := VL.out k h3; rw [VV.out] at h; exact h
   rw [VV.out]
   have hnl : ¬ (k : Int) < (k : Int) := by omega
   clear VL VV BL
   go_wp2_with fail
   go_loopw [0, 6, 8] (fun o d _ wq => ∃ i : Nat, i ≤ k + 1 ∧ d = .int .i64 (8 * (k : Int) - 6 * (i : Int)) ∧ Hid (HasN wq B o (xs ++ firstS k V i) ∧ Below B w wq)) (fun _ d _ _ => (intOf d + 6).toNat)
   case atStart => exact ⟨0, by omega, by go_num, I0⟩
   case round =>
    obtain ⟨i, hi1, rfl, I⟩ := hrel
    clear I0
    by_cases hlt : i ≤ k
    ·obtain ⟨d, hd⟩ : ∃ d : Nat, 8 * k - 6 * i = d := ⟨_, rfl⟩
     have hdi : 8 * (k : Int) - 6 * (i : Int) = (d : Int) := by omega
     have hd24 : d ≤ 24 := by omega
     have hd0 : 2 ≤ d := by omega
     have NX := Lib.hid (firstS_next k V i)
     rw [hd] at NX
     rw [hdi]
     obtain ⟨P, hP⟩ : ∃ P : Nat, V * 64 / 2 ^ d % 64 = P := ⟨_, rfl⟩
     rw [hP] at NX
     have hP2 : P < 64 := by rw [← hP]; exact lt64 _
     have hPI : ((V : Int) * 64 / 2 ^ d).tmod 64 = (P : Int) := by
      obtain ⟨Z, hZ⟩ : ∃ Z : Nat, V * 64 / 2 ^ d = Z := ⟨_, rfl⟩
      rw [show (V : Int) * 64 / 2 ^ d = (Z : Int) by rw [← hZ]; push_cast; rfl, Int.tmod_eq_emod_of_nonneg (by omega)]
      rw [hZ] at hP
      omega
     have hPs : P < ({ data := #[65, 66, 67, 68, 69, 70, 71, 72, 73, 74, 75, 76, 77, 78, 79, 80, 81, 82, 83, 84, 85, 86, 87, 88, 89, 90, 97, 98, 99, 100, 101, 102, 103, 104, 105, 106, 107, 108, 109, 110, 111, 112, 113, 114, 115, 116, 117, 118, 119, 120, 121, 122, 48, 49, 50, 51, 52, 53, 54, 55, 56, 57, 43, 47] } : ByteArray).size := hP2
     obtain ⟨s, hs⟩ : ∃ s, sgn P = s := ⟨_, rfl⟩
     rw [hs] at NX
     have hPA : ∀ h : P < ({ data := #[65, 66, 67, 68, 69, 70, 71, 72, 73, 74, 75, 76, 77, 78, 79, 80, 81, 82, 83, 84, 85, 86, 87, 88, 89, 90, 97, 98, 99, 100, 101, 102, 103, 104, 105, 106, 107, 108, 109, 110, 111, 112, 113, 114, 115, 116, 117, 118, 119, 120, 121, 122, 48, 49, 50, 51, 52, 53, 54, 55, 56, 57, 43, 47] } : ByteArray).size, (({ data := #[65, 66, 67, 68, 69, 70, 71, 72, 73, 74, 75, 76, 77, 78, 79, 80, 81, 82, 83, 84, 85, 86, 87, 88, 89, 90, 97, 98, 99, 100, 101, 102, 103, 104, 105, 106, 107, 108, 109, 110, 111, 112, 113, 114, 115, 116, 117, 118, 119, 120, 121, 122, 48, 49, 50, 51, 52, 53, 54, 55, 56, 57, 43, 47] } : ByteArray)[P]'h).toNat = s := fun h => by rw [← hs]; exact alphaS_at P h
     have LX := Lib.hid (show (xs ++ firstS k V i).length ≤ 900010 from by rw [List.length_append, firstS_len]; omega)
     have hdp : (0 : Int) < (d : Int) := by omega
     have hds : IntKind.i64.wrap ((d : Int) - 6) = (d : Int) - 6 := IntWalk.i64_in _ (by omega)
     have HD := Lib.hid hd
     have BW := Lib.hid I.out.2.size
     clear hP hs hd
     go_wp2_with (at_builtin; refine wpList_append_own _ rfl _ _ 28 rfl B 5 i0 (.int .u8 0) 1 1 Tryz.underlying28 hi hz0 hz1 hz2 rfl (by decide) u0 _ _ rfl (World.ownsRow.alloc I.out.1 _) ⟨wr.heap.size, 0, none⟩ 1 1 [u8v s] rfl rfl (new_at rfl _ _) (u8_one _) (fit1 (by have := LX.out; omega)) (fit2 (by have := LX.out; omega)) (by have := BW.out; simp; omega) ?_; intro v4 w4 ho4 hg4 _; (have O4 := Lib.hid (HasN.snoc ho4)); (have G4 := Lib.hid hg4); clear ho4 hg4)
     go_roundw
     case rel =>
      refine ⟨i + 1, by omega, by go_num, Lib.hid ⟨by rw [NX.out, ← List.append_assoc]; exact O4.out, ?_⟩⟩
      have ba : Below B wr (wr.alloc (.cells #[u8v s] 5)) := (Below.refl _ _).alloc (by have := BW.out; omega) _
      exact (I.out.2.trans ba).grown G4.out (by have := BW.out; simp; omega) (fun j e => HasN.ge I.out.1 j e)
     case measure => simp [intOf]; omega
    ·obtain rfl : i = k + 1 := by omega
     have hdn : ¬ (0 : Int) < 8 * (k : Int) - 6 * ((k + 1 : Nat) : Int) := by omega
     obtain ⟨q, hq⟩ : ∃ q : Nat, 3 - k = q := ⟨_, rfl⟩
     have hqi : (3 : Int) - (k : Int) = (q : Int) := by omega
     have hqw : IntKind.i64.wrap ((q : Nat) : Int) = (q : Int) := IntWalk.i64_in _ (by omega)
     have EQ := Lib.hid (show xs ++ encG k V = xs ++ firstS k V (k + 1) ++ List.replicate q 61 from by rw [encG_first, hq, List.append_assoc])
     have J0 := Lib.hid (show HasN wr B u0 (xs ++ firstS k V (k + 1) ++ List.replicate 0 61) ∧ Below B w wr from ⟨by rw [show List.replicate 0 61 = ([] : List Nat) from rfl, List.append_nil]; exact I.out.1, I.out.2⟩)
     have LX := Lib.hid (show (xs ++ firstS k V (k + 1)).length ≤ 900010 from by rw [List.length_append, firstS_len]; omega)
     clear hq I
     go_wp2_with fail
     go_loopw [0, 41] (fun o i wq => ∃ j : Nat, j ≤ q ∧ i = .int .i64 (j : Int) ∧ Hid (HasN wq B o (xs ++ firstS k V (k + 1) ++ List.replicate j 61) ∧ Below B w wq)) (fun _ i _ => q - (intOf i).toNat)
     case atStart => exact ⟨0, by omega, by go_num, J0⟩
     case round =>
      obtain ⟨j, hj, rfl, J⟩ := hrel
      clear J0
      by_cases hlt : j < q
      ·have hjq : (j : Int) < (q : Int) := by omega
       have LY := Lib.hid (show (xs ++ firstS k V (k + 1) ++ List.replicate j 61).length ≤ 900020 from by have := LX.out; rw [List.length_append, List.length_replicate]; omega)
       have BW := Lib.hid J.out.2.size
       have RS := Lib.hid (show List.replicate (j + 1) 61 = List.replicate j 61 ++ [61] from List.replicate_succ')
       go_wp2_with (at_builtin; refine Lib.wpList_append_own_string _ rfl (.tmp 43) _ 28 9 rfl B 5 i0 Tryz.underlying28 Tryz.underlying9 hi hz0 hz1 hz2 u0 _ _ rfl J.out.1 { data := #[61] } rfl (by have := LY.out; show _ + 1 ≤ _; unfold maxLen; omega) (by have := LY.out; show _ + 1 ≤ _; omega) (by have := BW.out; omega) ?_; intro v4 w4 ho4 hg4 _; (have O4 := Lib.hid (HasN.snoc (x := 61) ho4)); (have G4 := Lib.hid hg4); clear ho4 hg4)
       go_roundw
       case rel =>
        refine ⟨j + 1, by omega, by go_num, Lib.hid ⟨by rw [RS.out, ← List.append_assoc]; exact O4.out, ?_⟩⟩
        exact J.out.2.grown G4.out (by have := BW.out; omega) (fun j e => HasN.ge J.out.1 j e)
       case measure => simp [intOf]; omega
      ·obtain rfl : j = q := by omega
       go_wp2_with fail
       go_ret
       exact ⟨_, rfl, by rw [EQ.out]; exact J.out.1, J.out.2⟩
theorem putL_byt : ∀ (l : List Nat), Byt (putL l)
 | [] => fun x hx => by cases hx
 | [a] => enc_byt _ _
 | [a, b] => enc_byt _ _
 | a :: b :: c :: l => byt_append (enc_byt _ _) (putL_byt l)
where
 enc_byt (m v : Nat) : Byt (encG m v) := fun x hx => by
  unfold encG at hx
  rcases List.mem_append.1 hx with h | h
  ·obtain ⟨i, _, rfl⟩ := List.mem_map.1 h
   exact Nat.lt_trans (sgn_byte _ (lt64 _)) (by decide)
  ·rw [(List.mem_replicate.1 h).2]; decide
set_option maxRecDepth 100000 in
theorem conv_txt {w : World} {B n c : Nat} {A : Option Addr} {l : List Nat} (h : HasN w B (.slice A n c) l) (hl : Byt l) :
  (convert 28 9 (.slice A n c)).run Tryz.prog w = .ok (.string (txt l)) w := by
 rcases h.2 with ⟨e, h0⟩ | ⟨g, cap, cur, e, _, hg, hcap, _, _, htake⟩
 ·injection e with e1 e2 e3
  subst e1 e2 e3
  obtain rfl := List.eq_nil_of_length_eq_zero h0
  rw [run_convert_bytes_string w 28 9 5 none 0 0 Tryz.underlying28 Tryz.underlying5 Tryz.underlying9]
  rfl
 ·injection e with e1 e2 e3
  subst e1 e2 e3
  have k := run_convert_bytes_back (P := Tryz.prog) w 28 9 5 ⟨g, 0, none⟩ c (l.map UInt8.ofNat) Tryz.underlying28 Tryz.underlying5 Tryz.underlying9 (fun j hj => by
   have hj' : j < l.length := by simpa using hj
   have := World.ownsRow.cells h rfl j (u8v l[j]) (by rw [List.getElem?_map, List.getElem?_eq_getElem hj']; rfl)
   rw [this]
   have h2 := hl _ (List.getElem_mem hj')
   simp [u8v, Nat.mod_eq_of_lt h2])
  rw [List.length_map] at k
  exact k
set_option maxRecDepth 100000 in
set_option maxHeartbeats 6400000 in
theorem put_walk (s : ByteArray) (w : World) (hn : s.size ≤ 100000) :
  Calls Tryz.prog 10 #[.string s] w fun e w' => e = .returned (.string (txt (putL (bts s)))) ∧ Below w.heap.size w w' := by
 obtain ⟨i0, hi, hz0, hz1, hz2⟩ := info_parts infoU8
 obtain ⟨n, hnn⟩ : ∃ n, s.size = n := ⟨_, rfl⟩
 obtain ⟨q, hq⟩ : ∃ q, (n + 2) / 3 = q := ⟨_, rfl⟩
 have hqd2 : ((n : Int) + 3 - 1) / 3 = (q : Int) := by omega
 have hq4 : (q : Int) * 4 = ((q * 4 : Nat) : Int) := by omega
 have SN := Lib.hid hnn
 rw [hnn] at hn
 have hw1 : IntKind.i64.wrap ((n : Int) + 3) = (n : Int) + 3 := IntWalk.i64_in _ (by omega)
 have hw2 : IntKind.i64.wrap ((n : Int) + 2) = (n : Int) + 2 := IntWalk.i64_in _ (by omega)
 obtain ⟨q4, hq4'⟩ : ∃ q4, q * 4 = q4 := ⟨_, rfl⟩
 rw [hq4'] at hq4
 have hw3 : IntKind.i64.wrap ((q4 : Nat) : Int) = (q4 : Int) := IntWalk.i64_in _ (by omega)
 have hq4m : q4 ≤ 300000 := by omega
 clear hq hq4'
 go_enter Tryz.func10, Tryz.ntmps10
 go_wp2_with (refine wpList_make_own w rfl (.const (.int .i64 0)) (.tmp 12) 28 rfl w.heap.size 5 i0 _ 1 Tryz.underlying28 hi hz0 hz1 .i64 .i64 (q4 : Int) q4 rfl rfl rfl (by rw [hz2]; omega) (by unfold maxLen; omega) (Nat.le_refl _) ?_; intro w1 hown hg1; (have I0 := Lib.hid (show HasN w1 w.heap.size (.slice (some ⟨w.heap.size, 0, none⟩) 0 q4) (putL ((bts s).take (3 * 0))) ∧ Below w.heap.size w w1 from ⟨hown, (Below.refl w.heap.size w).grown hg1 (Nat.le_refl _) (fun k e => by cases e)⟩)); clear hown hg1)
 clear hw1 hw2 hw3 hq4
 go_loopw [4, 5] (fun o i wr => ∃ k : Nat, i = .int .i64 ((3 * k : Nat) : Int) ∧ k ≤ n ∧ Hid (HasN wr w.heap.size o (putL ((bts s).take (3 * k))) ∧ Below w.heap.size w wr)) (fun _ i _ => n - (intOf i).toNat)
 case atStart => exact ⟨0, rfl, Nat.zero_le _, I0⟩
 case round =>
  obtain ⟨k, rfl, hk, I⟩ := hrel
  clear I0
  have BL := Lib.hid (show (bts s).length = n from by rw [bts_len, SN.out])
  by_cases hlt : 3 * k < n
  ·obtain ⟨i3, hi3⟩ : ∃ i3, 3 * k = i3 := ⟨_, rfl⟩
   obtain ⟨e, he⟩ : ∃ e : Nat, min (3 * k + 3) n = e := ⟨_, rfl⟩
   rw [hi3] at hlt
   have hmin : min ((i3 : Int) + 3) (n : Int) = (e : Int) := by omega
   have he1 : e ≤ n := by omega
   have he2 : i3 ≤ e := by omega
   have he3 : e ≤ s.size := by rw [SN.out]; exact he1
   have BW := Lib.hid I.out.2.size
   have PL := Lib.hid (show (putL ((bts s).take (3 * k))).length ≤ 500000 from by rw [putL_len, List.length_take, BL.out]; omega)
   have AW := Lib.hid (appendSigns_walk w.heap.size u4 _ (s.extract i3 e) wr I.out.1 BW.out (by have := PL.out; omega) (by rw [ByteArray.size_extract, SN.out]; omega) (by rw [ByteArray.size_extract, SN.out]; omega))
   have NX := Lib.hid (show putL ((bts s).take (3 * (k + 1))) = putL ((bts s).take (3 * k)) ++ encG (s.extract i3 e).size (val 256 (bts (s.extract i3 e))) from by
    rw [putL_step (by rw [BL.out]; omega), bts_ext, BL.out, ByteArray.size_extract, SN.out, hi3]
    rw [show min e n - i3 = min 3 (n - i3) by omega, show e - i3 = min 3 (n - i3) by omega]
    rw [show min 3 (n - i3) = min 3 ((bts s).drop i3).length by rw [List.length_drop, BL.out], ← List.take_eq_take_min])
   have hi3' : ((i3 : Nat) : Int) < (n : Int) := by omega
   have i30 : (0 : Int) ≤ (i3 : Int) := by omega
   rw [hi3]
   go_wp2_with fail
   refine AW.out.mono ?_
   rintro e' w2 ⟨v2, rfl, o2, b2⟩
   have I2 := Lib.hid (show HasN w2 w.heap.size v2 (putL ((bts s).take (3 * (k + 1)))) ∧ Below w.heap.size w w2 from ⟨by rw [NX.out]; exact o2, I.out.2.trans b2⟩)
   clear o2 b2 AW
   go_wp2_with fail
   go_roundw
   case rel => exact ⟨k + 1, by go_num, by omega, I2⟩
   case measure => first | (simp [intOf]; done) | (simp [intOf]; omega)
  ·obtain ⟨i3, hi3⟩ : ∃ i3, 3 * k = i3 := ⟨_, rfl⟩
   rw [hi3] at hlt I ⊢
   have hnl : ¬ (i3 : Int) < (n : Int) := by omega
   have EA := Lib.hid (show (bts s).take i3 = bts s from List.take_of_length_le (by rw [BL.out]; omega))
   rw [EA.out] at I
   obtain ⟨A, c, rfl⟩ := HasN.shape I.out.1
   have CV := Lib.hid (conv_txt I.out.1 (putL_byt _))
   go_wp2_with fail
   rw [CV.out]
   go_wp2_with fail
   go_ret
   exact ⟨rfl, I.out.2⟩
def shortS (s : ByteArray) (k : Nat) : ByteArray := s.extract 0 (min s.size k)
theorem shortS_size (s : ByteArray) (k : Nat) : (shortS s k).size ≤ k := by unfold shortS; rw [ByteArray.size_extract]; omega
theorem short_walk (s : ByteArray) (k : Nat) (w : World) :
  Calls Tryz.prog 9 #[.string s, .int .i64 k] w fun e w' => e = .returned (.string (shortS s k)) ∧ w = w' := by
 obtain ⟨m, hm⟩ : ∃ m : Nat, min (s.size : Int) (k : Int) = (m : Int) := ⟨min s.size k, by omega⟩
 have hm1 : m ≤ s.size := by omega
 have e : shortS s k = s.extract 0 m := by unfold shortS; congr 1; omega
 rw [e]
 clear e
 go_enter Tryz.func9, Tryz.ntmps9
 go_wp2
 go_ret
 exact ⟨rfl, rfl⟩
end BM
end Go.Proofs.YtgmijnnhanpocabGreatDoor
