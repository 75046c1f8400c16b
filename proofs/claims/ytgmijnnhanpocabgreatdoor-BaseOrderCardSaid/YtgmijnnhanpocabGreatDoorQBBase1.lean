/-
  base.appendSigns, base.Put: the signs of bytes. base.appendBytes, base.Get: the bytes that signs tell.
-/
import Derived.Test.YtgmijnnhanpocabGreatDoorQBBase0
import Derived.Maps.AppendAt
import Derived.Outline
import Derived.Laws.BitsLemmas
import Derived.Laws.MakeOwn
import Derived.Laws.IdiomStrings
import Derived.Laws.Strings3
import Derived.Lib.AppendStr
import Derived.Deep.DeepMust
import Derived.BigQuiet
namespace Go.Proofs.YtgmijnnhanpocabGreatDoor
open Go.ChangeShapes Go.WideShapes Go.ChangeAt Go.RowKit
namespace BM
def u8v (x : Nat) : Value := .int .u8 (x : Int)
def bts (s : ByteArray) : List Nat := s.data.toList.map UInt8.toNat
def txt (l : List Nat) : ByteArray := ⟨(l.map UInt8.ofNat).toArray⟩
theorem bts_len (s : ByteArray) : (bts s).length = s.size := by unfold bts; rw [List.length_map, Array.length_toList]; rfl
theorem bts_byt (s : ByteArray) : Byt (bts s) := fun x hx => by
 obtain ⟨c, _, rfl⟩ := List.mem_map.1 hx
 exact c.toNat_lt
theorem bts_at (s : ByteArray) (k : Nat) (h : k < s.size) : (bts s)[k]? = some ((s[k]'h).toNat) := by
 unfold bts
 rw [List.getElem?_map]
 have h2 : k < s.data.toList.length := by rw [Array.length_toList]; exact h
 rw [List.getElem?_eq_getElem h2]
 rfl
theorem txt_size (l : List Nat) : (txt l).size = l.length := by
 unfold txt
 show (Array.size _) = _
 simp
theorem bts_txt {l : List Nat} (h : Byt l) : bts (txt l) = l := by
 unfold bts txt
 simp only [List.map_map]
 conv => rhs; rw [← List.map_id l]
 refine List.map_congr_left fun x hx => ?_
 have := h x hx
 simp [Nat.mod_eq_of_lt this]
theorem txt_bts (s : ByteArray) : txt (bts s) = s := by
 have e : (txt (bts s)).data.toList = s.data.toList := by
  unfold txt bts
  simp only [List.map_map]
  conv => rhs; rw [← List.map_id s.data.toList]
  refine List.map_congr_left fun x _ => ?_
  simp
 exact ByteArray.ext (Array.toList_inj.1 e)
theorem bts_inj {s t : ByteArray} (h : bts s = bts t) : s = t := by rw [← txt_bts s, h, txt_bts]
theorem bts_ext (s : ByteArray) (a b : Nat) : bts (s.extract a b) = ((bts s).drop a).take (b - a) := by
 unfold bts
 rw [ByteArray.data_extract, Array.toList_extract, List.extract_eq_take_drop, List.map_take, List.map_drop]
theorem infoU8 : (Tryz.prog.info? 5).map (fun i => (i.zero, i.size, i.bytes)) = some (some (.int .u8 0), 1, 1) := by kernel_rfl
def HasN (w : World) (base : Nat) (v : Value) (xs : List Nat) : Prop := w.ownsRow base 5 1 v xs.length (xs.map u8v)
theorem HasN.shape {w : World} {base : Nat} {v : Value} {xs : List Nat} (h : HasN w base v xs) : ∃ A c, v = .slice A xs.length c := by
 rcases h.2 with ⟨rfl, h0⟩ | ⟨g, cap, cur, rfl, _⟩
 ·rw [h0]; exact ⟨_, _, rfl⟩
 ·exact ⟨_, _, rfl⟩
theorem HasN.ge {w : World} {base : Nat} {v : Value} {xs : List Nat} (h : HasN w base v xs) : ∀ k, v.ownBlock = some k → base ≤ k := fun k e => (World.ownsRow.lt h k e).1
theorem u8_one (x : Nat) : ∀ u ∈ [u8v x], u.oneCell' = true := by intro u hu; simp at hu; subst hu; rfl
theorem new_at {w : World} {n : Nat} (h : w.heap.size = n) (x : Value) (t : TypeId) : ∀ j u, [x][j]? = some u → (w.alloc (.cells #[x] t)).cell? ((⟨n, 0, none⟩ : Addr).add j) = some u := by
 subst h; exact cell_one_new w x t
theorem fit1 {n : Nat} (h : n ≤ 1000000) : n + 1 ≤ maxLen := by unfold maxLen; omega
theorem fit2 {n : Nat} (h : n ≤ 1000000) : (n + 1) * 1 ≤ 140737488355328 := by omega
theorem HasN.snoc {w : World} {base : Nat} {v : Value} {xs : List Nat} {x : Nat} (h : w.ownsRow base 5 1 v (xs.length + 1) (xs.map u8v ++ [u8v x])) : HasN w base v (xs ++ [x]) := by
 unfold HasN
 rw [List.length_append, List.map_append]
 exact h
theorem wraps_i64 (n : Int) (h₀ : 0 ≤ n) (h₁ : n < 2 ^ 62) : IntKind.i64.wrap n = n := IntWalk.i64_in _ (by omega)
theorem or_byte {v x : Nat} (hv : v < 16777216) (hx : x < 256) : bits .or .i64 ((v : Int) * 256) (x : Int) = ((v * 256 + x : Nat) : Int) := by
 rw [bits_join .i64 62 (by decide) wraps_i64 8 _ _ (by omega) (by omega) (by omega) (by omega) (by omega) (by omega)]
 omega
theorem or_sign {v x : Nat} (hv : v < 16777216) (hx : x < 64) : bits .or .i64 ((v : Int) * 64) (x : Int) = ((v * 64 + x : Nat) : Int) := by
 rw [bits_join .i64 62 (by decide) wraps_i64 6 _ _ (by omega) (by omega) (by omega) (by omega) (by omega) (by omega)]
 omega
def alphaS : ByteArray := { data := #[65, 66, 67, 68, 69, 70, 71, 72, 73, 74, 75, 76, 77, 78, 79, 80, 81, 82, 83, 84, 85, 86, 87, 88, 89, 90, 97, 98, 99, 100, 101, 102, 103, 104, 105, 106, 107, 108, 109, 110, 111, 112, 113, 114, 115, 116, 117, 118, 119, 120, 121, 122, 48, 49, 50, 51, 52, 53, 54, 55, 56, 57, 43, 47] }
theorem alphaS_is : bts alphaS = alpha := by decide
theorem alphaS_at (k : Nat) (h : k < alphaS.size) : ((alphaS[k]'h).toNat) = sgn k := by
 have h1 := bts_at alphaS k h
 rw [alphaS_is] at h1
 unfold sgn
 rw [List.getD_eq_getElem?_getD, h1]
 rfl
theorem val_lt {l : List Nat} (h : Byt l) : val 256 l < 256 ^ l.length := by
 have key : ∀ (l : List Nat) (v : Nat), Byt l → l.foldl (fun v x => v * 256 + x) v < (v + 1) * 256 ^ l.length := by
  intro l
  induction l with
  | nil => intro v _; simp
  | cons x l ih =>
   intro v h
   have h1 := ih (v * 256 + x) (fun y hy => h y (by simp [hy]))
   have h2 := h x (by simp)
   rw [List.foldl_cons, List.length_cons, Nat.pow_succ]
   refine Nat.lt_of_lt_of_le h1 ?_
   rw [show (v + 1) * (256 ^ l.length * 256) = ((v + 1) * 256) * 256 ^ l.length by rw [Nat.mul_comm (256 ^ l.length) 256, Nat.mul_assoc]]
   exact Nat.mul_le_mul_right _ (by omega)
 simpa [val] using key l 0 h
theorem val_take {b : Nat} {l : List Nat} {k x : Nat} (h : l[k]? = some x) : val b (l.take (k + 1)) = val b (l.take k) * b + x := by
 obtain ⟨h1, h2⟩ := List.getElem?_eq_some_iff.1 h
 rw [List.take_succ_eq_append_getElem h1, h2, val_snoc]
def firstS (m v i : Nat) : List Nat := (List.range i).map fun i => sgn (v * 64 / 2 ^ (8 * m - 6 * i) % 64)
theorem firstS_next (m v i : Nat) : firstS m v (i + 1) = firstS m v i ++ [sgn (v * 64 / 2 ^ (8 * m - 6 * i) % 64)] := by
 unfold firstS
 rw [List.range_succ, List.map_append]
 rfl
theorem firstS_len (m v i : Nat) : (firstS m v i).length = i := by unfold firstS; simp
theorem encG_first (m v : Nat) : encG m v = firstS m v (m + 1) ++ List.replicate (3 - m) 61 := rfl
set_option maxRecDepth 100000 in
set_option maxHeartbeats 6400000 in
theorem appendSigns_walk (B : Nat) (v : Value) (xs : List Nat) (g : ByteArray) (w : World) (ho : HasN w B v xs) (hB : B ≤ w.heap.size) (hx : xs.length ≤ 900000) (h1 : 1 ≤ g.size) (h3 : g.size ≤ 3) :
  Calls Tryz.prog 23 #[v, .string g] w fun e w' => ∃ v', e = .returned v' ∧ HasN w' B v' (xs ++ encG g.size (val 256 (bts g))) ∧ Below B w w' := by
 obtain ⟨i0, hi, hz0, hz1, hz2⟩ := info_parts infoU8
 obtain ⟨m, hm⟩ : ∃ m, g.size = m := ⟨_, rfl⟩
 obtain ⟨V, hV⟩ : ∃ V, val 256 (bts g) = V := ⟨_, rfl⟩
 have BL := Lib.hid (show (bts g).length = m from by rw [bts_len, hm])
 have HM := Lib.hid hm
 have VV := Lib.hid (show val 256 ((bts g).take m) = V from by rw [List.take_of_length_le (by rw [BL.out]; exact Nat.le_refl _), hV])
 have VL := Lib.hid (show ∀ k, k ≤ 3 → val 256 ((bts g).take k) < 16777216 from fun k hk => by
  have h := val_lt (byt_take (bts_byt g) k)
  have hl : ((bts g).take k).length ≤ 3 := by rw [List.length_take]; omega
  exact Nat.lt_of_lt_of_le h (Nat.pow_le_pow_right (by decide) hl))
 have HO := Lib.hid ho
 rw [hV]
 rw [hm] at h1 h3 ⊢
 clear ho hV
 go_enter Tryz.func23, Tryz.ntmps23
 go_wp2_with fail
 go_loopw [5, 6, 7, 11] (fun b o _ i wr => ∃ k : Nat, b = .int .i64 ((val 256 ((bts g).take k) : Nat) : Int) ∧ o = .int .i64 ((8 * k : Nat) : Int) ∧ i = .int .i64 (k : Int) ∧ k ≤ m ∧ w = wr) (fun _ _ _ i _ => m - (intOf i).toNat)
 case atStart => exact ⟨0, rfl, rfl, rfl, Nat.zero_le _, rfl⟩
 case round =>
  obtain ⟨k, rfl, rfl, rfl, hk, rfl⟩ := hrel
  by_cases hlt : k < m
  ·have hg : k < g.size := by rw [HM.out]; exact hlt
   obtain ⟨y, hy⟩ : ∃ y, (g[k]'hg).toNat = y := ⟨_, rfl⟩
   have hgt : ∀ h : k < g.size, (g[k]'h).toNat = y := fun _ => hy
   have hyb : (bts g)[k]? = some y := by rw [bts_at g k hg, hy]
   have hy2 : y < 256 := bts_byt g _ (List.mem_of_getElem? hyb)
   have NX := Lib.hid (val_take (b := 256) hyb)
   have hv := VL.out k (by omega)
   obtain ⟨X, hX⟩ : ∃ X, val 256 ((bts g).take k) = X := ⟨_, rfl⟩
   rw [hX] at hv NX ⊢
   have OB := or_byte hv hy2
   have hw1 : IntKind.i64.wrap ((X : Int) * 256) = (X : Int) * 256 := IntWalk.i64_in _ (by omega)
   have hlt' : (k : Int) < (m : Int) := by omega
   have k0 : (0 : Int) ≤ (k : Int) := by omega
   clear hy hyb hX
   go_wp2_with fail
   go_roundw
   case rel => exact ⟨k + 1, by rw [NX.out]; go_num, by go_num, by go_num, by omega, by trivial⟩
   case measure => first | (simp [intOf]; done) | (simp [intOf]; omega)
  ·obtain rfl : k = m := by omega
   have I0 := Lib.hid (show HasN w B v (xs ++ firstS k V 0) ∧ Below B w w from ⟨by rw [show firstS k V 0 = [] from rfl, List.append_nil]; exact HO.out, Below.refl _ _⟩)
   have hV0 : V < 16777216 := by have h := VL.out k h3; rw [VV.out] at h; exact h
   rw [VV.out]
   have hnl : ¬ (k : Int) < (k : Int) := by omega
   clear VL VV BL
   go_wp2_with fail
   go_loopw [0, 6, 8] (fun o d _ wq => ∃ i : Nat, i ≤ k + 1 ∧ d = .int .i64 (8 * (k : Int) - 6 * (i : Int)) ∧ Hid (HasN wq B o (xs ++ firstS k V i) ∧ Below B w wq)) (fun _ d _ _ => (intOf d + 6).toNat)
   case atStart => exact ⟨0, by omega, by go_num, I0⟩
   case round =>
    obtain ⟨i, hi1, rfl, I⟩ := hrel
    clear I0
    by_cases hlt : i ≤ k
    ·obtain ⟨d, hd⟩ : ∃ d : Nat, 8 * k - 6 * i = d := ⟨_, rfl⟩
     have hdi : 8 * (k : Int) - 6 * (i : Int) = (d : Int) := by omega
     have hd24 : d ≤ 24 := by omega
     have hd0 : 2 ≤ d := by omega
     have NX := Lib.hid (firstS_next k V i)
     rw [hd] at NX
     rw [hdi]
     obtain ⟨P, hP⟩ : ∃ P : Nat, V * 64 / 2 ^ d % 64 = P := ⟨_, rfl⟩
     rw [hP] at NX
     have hP2 : P < 64 := by rw [← hP]; exact lt64 _
     have hPI : ((V : Int) * 64 / 2 ^ d).tmod 64 = (P : Int) := by
      obtain ⟨Z, hZ⟩ : ∃ Z : Nat, V * 64 / 2 ^ d = Z := ⟨_, rfl⟩
      rw [show (V : Int) * 64 / 2 ^ d = (Z : Int) by rw [← hZ]; push_cast; rfl, Int.tmod_eq_emod_of_nonneg (by omega)]
      rw [hZ] at hP
      omega
     have hPs : P < ({ data := #[65, 66, 67, 68, 69, 70, 71, 72, 73, 74, 75, 76, 77, 78, 79, 80, 81, 82, 83, 84, 85, 86, 87, 88, 89, 90, 97, 98, 99, 100, 101, 102, 103, 104, 105, 106, 107, 108, 109, 110, 111, 112, 113, 114, 115, 116, 117, 118, 119, 120, 121, 122, 48, 49, 50, 51, 52, 53, 54, 55, 56, 57, 43, 47] } : ByteArray).size := hP2
     obtain ⟨s, hs⟩ : ∃ s, sgn P = s := ⟨_, rfl⟩
     rw [hs] at NX
     have hPA : ∀ h : P < ({ data := #[65, 66, 67, 68, 69, 70, 71, 72, 73, 74, 75, 76, 77, 78, 79, 80, 81, 82, 83, 84, 85, 86, 87, 88, 89, 90, 97, 98, 99, 100, 101, 102, 103, 104, 105, 106, 107, 108, 109, 110, 111, 112, 113, 114, 115, 116, 117, 118, 119, 120, 121, 122, 48, 49, 50, 51, 52, 53, 54, 55, 56, 57, 43, 47] } : ByteArray).size, (({ data := #[65, 66, 67, 68, 69, 70, 71, 72, 73, 74, 75, 76, 77, 78, 79, 80, 81, 82, 83, 84, 85, 86, 87, 88, 89, 90, 97, 98, 99, 100, 101, 102, 103, 104, 105, 106, 107, 108, 109, 110, 111, 112, 113, 114, 115, 116, 117, 118, 119, 120, 121, 122, 48, 49, 50, 51, 52, 53, 54, 55, 56, 57, 43, 47] } : ByteArray)[P]'h).toNat = s := fun h => by rw [← hs]; exact alphaS_at P h
     have LX := Lib.hid (show (xs ++ firstS k V i).length ≤ 900010 from by rw [List.length_append, firstS_len]; omega)
     have hdp : (0 : Int) < (d : Int) := by omega
     have hds : IntKind.i64.wrap ((d : Int) - 6) = (d : Int) - 6 := IntWalk.i64_in _ (by omega)
     have HD := Lib.hid hd
     have BW := Lib.hid I.out.2.size
     clear hP hs hd
     go_wp2_with (at_builtin; refine wpList_append_own _ rfl _ _ 28 rfl B 5 i0 (.int .u8 0) 1 1 Tryz.underlying28 hi hz0 hz1 hz2 rfl (by decide) u0 _ _ rfl (World.ownsRow.alloc I.out.1 _) ⟨wr.heap.size, 0, none⟩ 1 1 [u8v s] rfl rfl (new_at rfl _ _) (u8_one _) (fit1 (by have := LX.out; omega)) (fit2 (by have := LX.out; omega)) (by have := BW.out; simp; omega) ?_; intro v4 w4 ho4 hg4 _; (have O4 := Lib.hid (HasN.snoc ho4)); (have G4 := Lib.hid hg4); clear ho4 hg4)
     go_roundw
     case rel =>
      refine ⟨i + 1, by omega, by go_num, Lib.hid ⟨by rw [NX.out, ← List.append_assoc]; exact O4.out, ?_⟩⟩
      have ba : Below B wr (wr.alloc (.cells #[u8v s] 5)) := (Below.refl _ _).alloc (by have := BW.out; omega) _
      exact (I.out.2.trans ba).grown G4.out (by have := BW.out; simp; omega) (fun j e => HasN.ge I.out.1 j e)
     case measure => simp [intOf]; omega
    ·obtain rfl : i = k + 1 := by omega
     have hdn : ¬ (0 : Int) < 8 * (k : Int) - 6 * ((k + 1 : Nat) : Int) := by omega
     obtain ⟨q, hq⟩ : ∃ q : Nat, 3 - k = q := ⟨_, rfl⟩
     have hqi : (3 : Int) - (k : Int) = (q : Int) := by omega
     have hqw : IntKind.i64.wrap ((q : Nat) : Int) = (q : Int) := IntWalk.i64_in _ (by omega)
     have EQ := Lib.hid (show xs ++ encG k V = xs ++ firstS k V (k + 1) ++ List.replicate q 61 from by rw [encG_first, hq, List.append_assoc])
     have J0 := Lib.hid (show HasN wr B u0 (xs ++ firstS k V (k + 1) ++ List.replicate 0 61) ∧ Below B w wr from ⟨by rw [show List.replicate 0 61 = ([] : List Nat) from rfl, List.append_nil]; exact I.out.1, I.out.2⟩)
     have LX := Lib.hid (show (xs ++ firstS k V (k + 1)).length ≤ 900010 from by rw [List.length_append, firstS_len]; omega)
     clear hq I
     go_wp2_with fail
     go_loopw [0, 41] (fun o i wq => ∃ j : Nat, j ≤ q ∧ i = .int .i64 (j : Int) ∧ Hid (HasN wq B o (xs ++ firstS k V (k + 1) ++ List.replicate j 61) ∧ Below B w wq)) (fun _ i _ => q - (intOf i).toNat)
     case atStart => exact ⟨0, by omega, by go_num, J0⟩
     case round =>
      obtain ⟨j, hj, rfl, J⟩ := hrel
      clear J0
      by_cases hlt : j < q
      ·have hjq : (j : Int) < (q : Int) := by omega
       have LY := Lib.hid (show (xs ++ firstS k V (k + 1) ++ List.replicate j 61).length ≤ 900020 from by have := LX.out; rw [List.length_append, List.length_replicate]; omega)
       have BW := Lib.hid J.out.2.size
       have RS := Lib.hid (show List.replicate (j + 1) 61 = List.replicate j 61 ++ [61] from List.replicate_succ')
       go_wp2_with (at_builtin; refine Lib.wpList_append_own_string _ rfl (.tmp 43) _ 28 9 rfl B 5 i0 Tryz.underlying28 Tryz.underlying9 hi hz0 hz1 hz2 u0 _ _ rfl J.out.1 { data := #[61] } rfl (by have := LY.out; show _ + 1 ≤ _; unfold maxLen; omega) (by have := LY.out; show _ + 1 ≤ _; omega) (by have := BW.out; omega) ?_; intro v4 w4 ho4 hg4 _; (have O4 := Lib.hid (HasN.snoc (x := 61) ho4)); (have G4 := Lib.hid hg4); clear ho4 hg4)
       go_roundw
       case rel =>
        refine ⟨j + 1, by omega, by go_num, Lib.hid ⟨by rw [RS.out, ← List.append_assoc]; exact O4.out, ?_⟩⟩
        exact J.out.2.grown G4.out (by have := BW.out; omega) (fun j e => HasN.ge J.out.1 j e)
       case measure => simp [intOf]; omega
      ·obtain rfl : j = q := by omega
       go_wp2_with fail
       go_ret
       exact ⟨_, rfl, by rw [EQ.out]; exact J.out.1, J.out.2⟩
theorem putL_byt : ∀ (l : List Nat), Byt (putL l)
 | [] => fun x hx => by cases hx
 | [a] => enc_byt _ _
 | [a, b] => enc_byt _ _
 | a :: b :: c :: l => byt_append (enc_byt _ _) (putL_byt l)
where
 enc_byt (m v : Nat) : Byt (encG m v) := fun x hx => by
  unfold encG at hx
  rcases List.mem_append.1 hx with h | h
  ·obtain ⟨i, _, rfl⟩ := List.mem_map.1 h
   exact Nat.lt_trans (sgn_byte _ (lt64 _)) (by decide)
  ·rw [(List.mem_replicate.1 h).2]; decide
set_option maxRecDepth 100000 in
theorem conv_txt {w : World} {B n c : Nat} {A : Option Addr} {l : List Nat} (h : HasN w B (.slice A n c) l) (hl : Byt l) :
  (convert 28 9 (.slice A n c)).run Tryz.prog w = .ok (.string (txt l)) w := by
 rcases h.2 with ⟨e, h0⟩ | ⟨g, cap, cur, e, _, hg, hcap, _, _, htake⟩
 ·injection e with e1 e2 e3
  subst e1 e2 e3
  obtain rfl := List.eq_nil_of_length_eq_zero h0
  rw [run_convert_bytes_string w 28 9 5 none 0 0 Tryz.underlying28 Tryz.underlying5 Tryz.underlying9]
  rfl
 ·injection e with e1 e2 e3
  subst e1 e2 e3
  have k := run_convert_bytes_back (P := Tryz.prog) w 28 9 5 ⟨g, 0, none⟩ c (l.map UInt8.ofNat) Tryz.underlying28 Tryz.underlying5 Tryz.underlying9 (fun j hj => by
   have hj' : j < l.length := by simpa using hj
   have := World.ownsRow.cells h rfl j (u8v l[j]) (by rw [List.getElem?_map, List.getElem?_eq_getElem hj']; rfl)
   rw [this]
   have h2 := hl _ (List.getElem_mem hj')
   simp [u8v, Nat.mod_eq_of_lt h2])
  rw [List.length_map] at k
  exact k
set_option maxRecDepth 100000 in
set_option maxHeartbeats 6400000 in
theorem put_walk (s : ByteArray) (w : World) (hn : s.size ≤ 100000) :
  Calls Tryz.prog 10 #[.string s] w fun e w' => e = .returned (.string (txt (putL (bts s)))) ∧ Below w.heap.size w w' := by
 obtain ⟨i0, hi, hz0, hz1, hz2⟩ := info_parts infoU8
 obtain ⟨n, hnn⟩ : ∃ n, s.size = n := ⟨_, rfl⟩
 obtain ⟨q, hq⟩ : ∃ q, (n + 2) / 3 = q := ⟨_, rfl⟩
 have hqd2 : ((n : Int) + 3 - 1) / 3 = (q : Int) := by omega
 have hq4 : (q : Int) * 4 = ((q * 4 : Nat) : Int) := by omega
 have SN := Lib.hid hnn
 rw [hnn] at hn
 have hw1 : IntKind.i64.wrap ((n : Int) + 3) = (n : Int) + 3 := IntWalk.i64_in _ (by omega)
 have hw2 : IntKind.i64.wrap ((n : Int) + 2) = (n : Int) + 2 := IntWalk.i64_in _ (by omega)
 obtain ⟨q4, hq4'⟩ : ∃ q4, q * 4 = q4 := ⟨_, rfl⟩
 rw [hq4'] at hq4
 have hw3 : IntKind.i64.wrap ((q4 : Nat) : Int) = (q4 : Int) := IntWalk.i64_in _ (by omega)
 have hq4m : q4 ≤ 300000 := by omega
 clear hq hq4'
 go_enter Tryz.func10, Tryz.ntmps10
 go_wp2_with (refine wpList_make_own w rfl (.const (.int .i64 0)) (.tmp 12) 28 rfl w.heap.size 5 i0 _ 1 Tryz.underlying28 hi hz0 hz1 .i64 .i64 (q4 : Int) q4 rfl rfl rfl (by rw [hz2]; omega) (by unfold maxLen; omega) (Nat.le_refl _) ?_; intro w1 hown hg1; (have I0 := Lib.hid (show HasN w1 w.heap.size (.slice (some ⟨w.heap.size, 0, none⟩) 0 q4) (putL ((bts s).take (3 * 0))) ∧ Below w.heap.size w w1 from ⟨hown, (Below.refl w.heap.size w).grown hg1 (Nat.le_refl _) (fun k e => by cases e)⟩)); clear hown hg1)
 clear hw1 hw2 hw3 hq4
 go_loopw [4, 5] (fun o i wr => ∃ k : Nat, i = .int .i64 ((3 * k : Nat) : Int) ∧ k ≤ n ∧ Hid (HasN wr w.heap.size o (putL ((bts s).take (3 * k))) ∧ Below w.heap.size w wr)) (fun _ i _ => n - (intOf i).toNat)
 case atStart => exact ⟨0, rfl, Nat.zero_le _, I0⟩
 case round =>
  obtain ⟨k, rfl, hk, I⟩ := hrel
  clear I0
  have BL := Lib.hid (show (bts s).length = n from by rw [bts_len, SN.out])
  by_cases hlt : 3 * k < n
  ·obtain ⟨i3, hi3⟩ : ∃ i3, 3 * k = i3 := ⟨_, rfl⟩
   obtain ⟨e, he⟩ : ∃ e : Nat, min (3 * k + 3) n = e := ⟨_, rfl⟩
   rw [hi3] at hlt
   have hmin : min ((i3 : Int) + 3) (n : Int) = (e : Int) := by omega
   have he1 : e ≤ n := by omega
   have he2 : i3 ≤ e := by omega
   have he3 : e ≤ s.size := by rw [SN.out]; exact he1
   have BW := Lib.hid I.out.2.size
   have PL := Lib.hid (show (putL ((bts s).take (3 * k))).length ≤ 500000 from by rw [putL_len, List.length_take, BL.out]; omega)
   have AW := Lib.hid (appendSigns_walk w.heap.size u4 _ (s.extract i3 e) wr I.out.1 BW.out (by have := PL.out; omega) (by rw [ByteArray.size_extract, SN.out]; omega) (by rw [ByteArray.size_extract, SN.out]; omega))
   have NX := Lib.hid (show putL ((bts s).take (3 * (k + 1))) = putL ((bts s).take (3 * k)) ++ encG (s.extract i3 e).size (val 256 (bts (s.extract i3 e))) from by
    rw [putL_step (by rw [BL.out]; omega), bts_ext, BL.out, ByteArray.size_extract, SN.out, hi3]
    rw [show min e n - i3 = min 3 (n - i3) by omega, show e - i3 = min 3 (n - i3) by omega]
    rw [show min 3 (n - i3) = min 3 ((bts s).drop i3).length by rw [List.length_drop, BL.out], ← List.take_eq_take_min])
   have hi3' : ((i3 : Nat) : Int) < (n : Int) := by omega
   have i30 : (0 : Int) ≤ (i3 : Int) := by omega
   rw [hi3]
   go_wp2_with fail
   refine AW.out.mono ?_
   rintro e' w2 ⟨v2, rfl, o2, b2⟩
   have I2 := Lib.hid (show HasN w2 w.heap.size v2 (putL ((bts s).take (3 * (k + 1)))) ∧ Below w.heap.size w w2 from ⟨by rw [NX.out]; exact o2, I.out.2.trans b2⟩)
   clear o2 b2 AW
   go_wp2_with fail
   go_roundw
   case rel => exact ⟨k + 1, by go_num, by omega, I2⟩
   case measure => first | (simp [intOf]; done) | (simp [intOf]; omega)
  ·obtain ⟨i3, hi3⟩ : ∃ i3, 3 * k = i3 := ⟨_, rfl⟩
   rw [hi3] at hlt I ⊢
   have hnl : ¬ (i3 : Int) < (n : Int) := by omega
   have EA := Lib.hid (show (bts s).take i3 = bts s from List.take_of_length_le (by rw [BL.out]; omega))
   rw [EA.out] at I
   obtain ⟨A, c, rfl⟩ := HasN.shape I.out.1
   have CV := Lib.hid (conv_txt I.out.1 (putL_byt _))
   go_wp2_with fail
   rw [CV.out]
   go_wp2_with fail
   go_ret
   exact ⟨rfl, I.out.2⟩
def shortS (s : ByteArray) (k : Nat) : ByteArray := s.extract 0 (min s.size k)
theorem shortS_size (s : ByteArray) (k : Nat) : (shortS s k).size ≤ k := by unfold shortS; rw [ByteArray.size_extract]; omega
theorem short_walk (s : ByteArray) (k : Nat) (w : World) :
  Calls Tryz.prog 9 #[.string s, .int .i64 k] w fun e w' => e = .returned (.string (shortS s k)) ∧ w = w' := by
 obtain ⟨m, hm⟩ : ∃ m : Nat, min (s.size : Int) (k : Int) = (m : Int) := ⟨min s.size k, by omega⟩
 have hm1 : m ≤ s.size := by omega
 have e : shortS s k = s.extract 0 m := by unfold shortS; congr 1; omega
 rw [e]
 clear e
 go_enter Tryz.func9, Tryz.ntmps9
 go_wp2
 go_ret
 exact ⟨rfl, rfl⟩
end BM
end Go.Proofs.YtgmijnnhanpocabGreatDoor
namespace Go.Proofs.YtgmijnnhanpocabGreatDoor
open Go.ChangeShapes Go.WideShapes Go.ChangeAt Go.RowKit
namespace BM
abbrev alphaT : ByteArray := { data := #[65, 66, 67, 68, 69, 70, 71, 72, 73, 74, 75, 76, 77, 78, 79, 80, 81, 82, 83, 84, 85, 86, 87, 88, 89, 90, 97, 98, 99, 100, 101, 102, 103, 104, 105, 106, 107, 108, 109, 110, 111, 112, 113, 114, 115, 116, 117, 118, 119, 120, 121, 122, 48, 49, 50, 51, 52, 53, 54, 55, 56, 57, 43, 47] }
set_option maxRecDepth 100000 in
theorem index_all : ∀ y, y < 256 → Lib.indexByte alphaT.data.toList (UInt8.ofNat y) = if idx y < 64 then (idx y : Int) else -1 := by decide +kernel
theorem index_walk (y : Nat) (hy : y < 256) (w : World) : Calls Tryz.prog 46 #[.string alphaT, .int .u8 (y : Int)] w fun e w' => e = .returned (.int .i64 (if idx y < 64 then (idx y : Int) else -1)) ∧ w' = w := by
 refine (Tryz.strings_IndexByte alphaT (y : Int) w).mono ?_
 rintro e w' ⟨rfl, rfl⟩
 refine ⟨?_, rfl⟩
 rw [← index_all y hy]
 rfl
theorem trim_bts (l : List UInt8) : (Lib.trimSuffix l [61]).map UInt8.toNat = trim1 (l.map UInt8.toNat) := by
 unfold Lib.trimSuffix Lib.hasSuffix trim1
 rcases List.eq_nil_or_concat l with rfl | ⟨m, x, rfl⟩
 ·rfl
 ·have e1 : [61].isSuffixOf (m ++ [x]) = decide (x = 61) := by
   unfold List.isSuffixOf
   rw [List.reverse_append]
   show ((61 : UInt8) == x && true) = _
   by_cases h : x = 61
   ·subst h; rfl
   ·rw [decide_eq_false h, Bool.and_true]; exact beq_false_of_ne (Ne.symm h)
  rw [List.concat_eq_append, e1, List.map_append, List.map_cons, List.map_nil, List.getLast?_concat]
  by_cases h : x = 61
  ·subst h
   simp
  ·have h2 : ¬ x.toNat = 61 := fun e => h (UInt8.toNat_inj.1 (by rw [e]; rfl))
   simp [h, h2]
theorem trim_walk (s : ByteArray) (hs : s.size ≤ 9223372036854775807) (w : World) : Calls Tryz.prog 24 #[.string s, .string { data := #[61] }] w fun e w' => ∃ t, e = .returned (.string t) ∧ bts t = trim1 (bts s) ∧ w = w' := by
 refine (Tryz.strings_TrimSuffix s { data := #[61] } w hs).mono ?_
 rintro e w' ⟨rfl, rfl⟩
 exact ⟨_, rfl, trim_bts s.data.toList, rfl⟩
theorem val64_lt {l : List Nat} (h : ∀ x ∈ l, x < 64) : val 64 l < 64 ^ l.length := by
 have key : ∀ (l : List Nat) (v : Nat), (∀ x ∈ l, x < 64) → l.foldl (fun v x => v * 64 + x) v < (v + 1) * 64 ^ l.length := by
  intro l
  induction l with
  | nil => intro v _; simp
  | cons x l ih =>
   intro v h
   have h1 := ih (v * 64 + x) (fun y hy => h y (by simp [hy]))
   have h2 := h x (by simp)
   rw [List.foldl_cons, List.length_cons, Nat.pow_succ]
   refine Nat.lt_of_lt_of_le h1 ?_
   rw [show (v + 1) * (64 ^ l.length * 64) = ((v + 1) * 64) * 64 ^ l.length by rw [Nat.mul_comm (64 ^ l.length) 64, Nat.mul_assoc]]
   exact Nat.mul_le_mul_right _ (by omega)
 simpa [val] using key l 0 h
def firstB (m v i : Nat) : List Nat := (List.range i).map fun i => v / 2 ^ (6 * m - 8 * (i + 1)) % 256
theorem firstB_next (m v i : Nat) : firstB m v (i + 1) = firstB m v i ++ [v / 2 ^ (6 * m - 8 * (i + 1)) % 256] := by
 unfold firstB
 rw [List.range_succ, List.map_append]
 rfl
theorem firstB_len (m v i : Nat) : (firstB m v i).length = i := by unfold firstB; simp
theorem decG_none {g : List Nat} {k x : Nat} (h : g[k]? = some x) (hx : ¬ idx x < 64) : decG g = none := by
 unfold decG
 rw [if_neg fun hc => hx (by simpa using List.all_eq_true.1 hc.1 x (List.mem_of_getElem? h))]
theorem decG_all {g : List Nat} {m v : Nat} (hm : g.length = m) (hv : val 64 (g.map idx) = v) (h : ∀ x ∈ g, idx x < 64) : decG g = if v % 2 ^ (6 * m % 8) = 0 then some (firstB m v (6 * m / 8)) else none := by
 unfold decG firstB
 rw [hm, hv]
 have : (g.all fun x => decide (idx x < 64)) = true := List.all_eq_true.2 fun x hx => by simpa using h x hx
 by_cases e : v % 2 ^ (6 * m % 8) = 0
 ·rw [if_pos ⟨this, e⟩, if_pos e]
 ·rw [if_neg fun hc => e hc.2, if_neg e]
def GotB (B : Nat) (xs g : List Nat) (w : World) (e : Ending) (w' : World) : Prop := ∃ v' b, e = .returned (.tuple #[v', .bool b]) ∧ b = (decG g).isSome ∧ (∀ o, decG g = some o → HasN w' B v' (xs ++ o)) ∧ Below B w w'
theorem own_drew {w : World} {B : Nat} {v : Value} {xs : List Nat} (h : HasN w B v xs) (n : Nat) : HasN (w.drewN n) B v xs := h
theorem below_drew {w v : World} {B : Nat} (h : Below B w v) (n : Nat) : Below B w (v.drewN n) := ⟨h.os, h.tape, h.output, h.size, h.block⟩
set_option maxRecDepth 100000 in
set_option maxHeartbeats 6400000 in
theorem appendBytes_walk (B : Nat) (v : Value) (xs : List Nat) (g : ByteArray) (w : World) (ho : HasN w B v xs) (hB : B ≤ w.heap.size) (hx : xs.length ≤ 900000) (h3 : g.size ≤ 4) :
  Calls Tryz.prog 25 #[v, .string g] w fun e w' => GotB B xs (bts g) w e w' := by
 obtain ⟨i0, hi, hz0, hz1, hz2⟩ := info_parts infoU8
 obtain ⟨m, hm⟩ : ∃ m, g.size = m := ⟨_, rfl⟩
 have HM := Lib.hid hm
 have BL := Lib.hid (show (bts g).length = m from by rw [bts_len, hm])
 have BB := Lib.hid (bts_byt g)
 have HO := Lib.hid ho
 rw [hm] at h3
 have GA := Lib.hid (show ∀ (k : Nat) (h : k < g.size), (bts g)[k]? = some ((g[k]'h).toNat) from bts_at g)
 obtain ⟨G, hG⟩ : ∃ G, bts g = G := ⟨_, rfl⟩
 rw [hG] at BL BB GA ⊢
 clear ho hG
 go_enter Tryz.func25, Tryz.ntmps25
 go_wp2_with fail
 go_loopw [6, 7, 8, 9, 12] (fun b o _ _ i wr => ∃ k : Nat, b = .int .i64 ((val 64 ((G.take k).map idx) : Nat) : Int) ∧ o = .int .i64 ((6 * k : Nat) : Int) ∧ i = .int .i64 (k : Int) ∧ k ≤ m ∧ Hid (∀ x ∈ G.take k, idx x < 64) ∧ w = wr) (fun _ _ _ _ i _ => m - (intOf i).toNat)
 case atStart => exact ⟨0, rfl, rfl, rfl, Nat.zero_le _, Lib.hid (fun x hx => by simp at hx), rfl⟩
 case round =>
  obtain ⟨k, rfl, rfl, rfl, hk, A, rfl⟩ := hrel
  have VL := Lib.hid (val64_lt (l := (G.take k).map idx) (fun x hx => by obtain ⟨y, hy, rfl⟩ := List.mem_map.1 hx; exact A.out y hy))
  have LT := Lib.hid (show ((G.take k).map idx).length = k from by rw [List.length_map, List.length_take, BL.out]; omega)
  by_cases hlt : k < m
  ·have hg : k < g.size := by rw [HM.out]; exact hlt
   obtain ⟨y, hy⟩ : ∃ y, (g[k]'hg).toNat = y := ⟨_, rfl⟩
   have hgt : ∀ h : k < g.size, (g[k]'h).toNat = y := fun _ => hy
   have GY := Lib.hid (show G[k]? = some y from by rw [GA.out k hg, hy])
   have hy2 : y < 256 := BB.out _ (List.mem_of_getElem? GY.out)
   have IW := Lib.hid (index_walk y hy2 w)
   have hlt' : (k : Int) < (m : Int) := by omega
   have k0 : (0 : Int) ≤ (k : Int) := by omega
   obtain ⟨X, hX⟩ : ∃ X, val 64 ((G.take k).map idx) = X := ⟨_, rfl⟩
   have hXl : X < 262144 := by
    rw [← hX]
    refine Nat.lt_of_lt_of_le VL.out ?_
    rw [LT.out]
    exact Nat.pow_le_pow_right (by decide) (show k ≤ 3 by omega)
   have HX := Lib.hid hX
   rw [hX]
   clear hy hX VL LT
   by_cases hix : idx y < 64
   ·rw [if_pos hix] at IW
    obtain ⟨p, hp⟩ : ∃ p, idx y = p := ⟨_, rfl⟩
    rw [hp] at IW hix
    have OB := or_sign (v := X) (x := p) (by omega) hix
    have hw1 : IntKind.i64.wrap ((X : Int) * 64) = (X : Int) * 64 := IntWalk.i64_in _ (by omega)
    have hp0 : ¬ (p : Int) < 0 := by omega
    have NX := Lib.hid (show val 64 ((G.take (k + 1)).map idx) = X * 64 + p from by
     obtain ⟨h1, h2⟩ := List.getElem?_eq_some_iff.1 GY.out
     rw [List.take_succ_eq_append_getElem h1, h2, List.map_append, List.map_cons, List.map_nil, val_snoc, HX.out, hp])
    have NA := Lib.hid (show ∀ x ∈ G.take (k + 1), idx x < 64 from fun x hx => by
     obtain ⟨h1, h2⟩ := List.getElem?_eq_some_iff.1 GY.out
     rw [List.take_succ_eq_append_getElem h1, h2] at hx
     rcases List.mem_append.1 hx with h | h
     ·exact A.out x h
     ·rw [List.mem_singleton.1 h, hp]; exact hix)
    clear hp A
    go_wp2_with fail
    refine IW.out.mono ?_
    rintro e w' ⟨rfl, rfl⟩
    clear IW
    go_wp2_with fail
    go_roundw
    case rel => exact ⟨k + 1, by rw [NX.out]; go_num, by go_num, by go_num, by omega, NA, by trivial⟩
    case measure => first | (simp [intOf]; done) | (simp [intOf]; omega)
   ·rw [if_neg hix] at IW
    have DN := Lib.hid (decG_none GY.out hix)
    go_wp2_with fail
    refine IW.out.mono ?_
    rintro e w' ⟨rfl, rfl⟩
    clear IW
    go_wp2_with fail
    refine bodyPost_ret (results_tmp2 (t := 4) (u := 5) rfl _ _ _) rfl ?_
    exact ⟨_, _, rfl, by rw [DN.out]; rfl, (fun o ho => by rw [DN.out] at ho; cases ho), Below.refl _ _⟩
  ·obtain rfl : k = m := by omega
   have EA := Lib.hid (show G.take k = G from List.take_of_length_le (by rw [BL.out]; exact Nat.le_refl _))
   rw [EA.out] at A VL LT ⊢
   obtain ⟨X, hX⟩ : ∃ X, val 64 (G.map idx) = X := ⟨_, rfl⟩
   have hXl : X < 16777216 := by
    rw [← hX]
    refine Nat.lt_of_lt_of_le VL.out ?_
    rw [LT.out]
    exact Nat.pow_le_pow_right (by decide) (show k ≤ 4 by omega)
   have DA := Lib.hid (decG_all BL.out hX A.out)
   rw [hX]
   have I0 := Lib.hid (show HasN w B v (xs ++ firstB k X 0) ∧ Below B w w from ⟨by rw [show firstB k X 0 = [] from rfl, List.append_nil]; exact HO.out, Below.refl _ _⟩)
   have hnl : ¬ (k : Int) < (k : Int) := by omega
   clear hX VL LT EA A GA BB
   go_wp2_with fail
   go_loopw [0, 7] (fun o d wq => ∃ i : Nat, 8 * i ≤ 6 * k ∧ d = .int .i64 ((6 * k - 8 * i : Nat) : Int) ∧ Hid (HasN wq B o (xs ++ firstB k X i) ∧ Below B w wq)) (fun _ d _ => (intOf d).toNat)
   case atStart => exact ⟨0, by omega, by go_num, I0⟩
   case round =>
    obtain ⟨i, hi1, rfl, I⟩ := hrel
    clear I0
    obtain ⟨d, hd⟩ : ∃ d : Nat, 6 * k - 8 * i = d := ⟨_, rfl⟩
    rw [hd]
    by_cases hlt : 8 ≤ d
    ·obtain ⟨d2, hd2⟩ : ∃ d2, d - 8 = d2 := ⟨_, rfl⟩
     have hdi : (d : Int) - 8 = (d2 : Int) := by omega
     have hd24 : d2 ≤ 24 := by omega
     have NX := Lib.hid (firstB_next k X i)
     rw [show 6 * k - 8 * (i + 1) = d2 by omega] at NX
     have LX := Lib.hid (show (xs ++ firstB k X i).length ≤ 900010 from by rw [List.length_append, firstB_len]; omega)
     have BW := Lib.hid I.out.2.size
     have hge : ¬ (d : Int) < 8 := by omega
     have hge2 : (8 : Int) ≤ (d : Int) := by omega
     obtain ⟨s, hs⟩ : ∃ s, X / 2 ^ d2 % 256 = s := ⟨_, rfl⟩
     rw [hs] at NX
     have hPI : (X : Int) / 2 ^ d2 % 256 = (s : Int) := by
      obtain ⟨Z, hZ⟩ : ∃ Z : Nat, X / 2 ^ d2 = Z := ⟨_, rfl⟩
      rw [show (X : Int) / 2 ^ d2 = (Z : Int) by rw [← hZ]; push_cast; rfl]
      rw [hZ] at hs
      omega
     clear hs
     go_wp2_with (at_builtin; refine wpList_append_own _ rfl _ _ 28 rfl B 5 i0 (.int .u8 0) 1 1 Tryz.underlying28 hi hz0 hz1 hz2 rfl (by decide) u0 _ _ rfl (World.ownsRow.alloc I.out.1 _) ⟨wr.heap.size, 0, none⟩ 1 1 [u8v s] rfl rfl (new_at rfl _ _) (u8_one _) (fit1 (by have := LX.out; omega)) (fit2 (by have := LX.out; omega)) (by have := BW.out; simp; omega) ?_; intro v4 w4 ho4 hg4 _; (have O4 := Lib.hid (HasN.snoc ho4)); (have G4 := Lib.hid hg4); clear ho4 hg4)
     go_roundw
     case rel =>
      refine ⟨i + 1, by omega, by go_num, Lib.hid ⟨by rw [NX.out, ← List.append_assoc]; exact O4.out, ?_⟩⟩
      have ba : Below B wr (wr.alloc (.cells #[u8v s] 5)) := (Below.refl _ _).alloc (by have := BW.out; omega) _
      exact (I.out.2.trans ba).grown G4.out (by have := BW.out; simp; omega) (fun j e => HasN.ge I.out.1 j e)
     case measure => simp [intOf]; omega
    ·have hge : ¬ (8 : Int) ≤ (d : Int) := by omega
     have hd8 : d = 6 * k % 8 := by omega
     have hi8 : i = 6 * k / 8 := by omega
     rw [← hd8, ← hi8] at DA
     obtain ⟨q, hq⟩ : ∃ q, X % 2 ^ d = q := ⟨_, rfl⟩
     have hpos : 0 < 2 ^ d := Nat.two_pow_pos d
     have hq8 : (X : Int).tmod (2 ^ d) = (q : Int) := by
      rw [Int.tmod_eq_emod_of_nonneg (by omega), ← hq]
      push_cast
      rfl
     have hne : ¬ (2 : Int) ^ d = 0 := by
      have : (0 : Int) < 2 ^ d := by exact_mod_cast hpos
      omega
     have hwr : IntKind.i64.wrap ((2 : Int) ^ d) = 2 ^ d := by
      refine IntWalk.i64_in _ ⟨?_, ?_⟩
      ·have : (0 : Int) < 2 ^ d := by exact_mod_cast hpos
       omega
      ·have : (2 : Nat) ^ d ≤ 2 ^ 8 := Nat.pow_le_pow_right (by decide) (by omega)
       have : (2 : Int) ^ d ≤ 2 ^ 8 := by exact_mod_cast this
       omega
     rw [hq] at DA
     clear hd8 hi8 hq hpos
     by_cases h0 : q = 0
     ·subst h0
      rw [if_pos rfl] at DA
      go_wp2_with fail
      go_quiet (fail)
      go_wp2_with fail
      refine bodyPost_ret (results_tmp2 (t := 4) (u := 5) rfl _ _ _) rfl ?_
      exact ⟨_, _, rfl, by rw [DA.out]; rfl, (fun o ho => by rw [DA.out] at ho; obtain rfl := Option.some.inj ho; exact own_drew I.out.1 _), below_drew I.out.2 _⟩
     ·rw [if_neg h0] at DA
      have hq0 : ((q : Int) == 0) = false := by simp; omega
      go_wp2_with fail
      go_quiet (fail)
      go_wp2_with fail
      refine bodyPost_ret (results_tmp2 (t := 4) (u := 5) rfl _ _ _) rfl ?_
      exact ⟨_, _, rfl, by rw [DA.out]; rfl, (fun o ho => by rw [DA.out] at ho; cases ho), below_drew I.out.2 _⟩
def getV (t : List Nat) : Value := match getL t with
 | some b => .tuple #[.string (txt b), .bool true]
 | none => .tuple #[.string { data := #[] }, .bool false]
theorem decG_byt {g o : List Nat} (h : decG g = some o) : Byt o := by
 unfold decG at h
 split at h
 ·obtain rfl := Option.some.inj h
  intro x hx
  obtain ⟨i, _, rfl⟩ := List.mem_map.1 hx
  exact Nat.mod_lt _ (by decide)
 ·cases h
theorem decG_len {g o : List Nat} (h : decG g = some o) : o.length ≤ g.length := by
 unfold decG at h
 split at h
 ·obtain rfl := Option.some.inj h
  rw [List.length_map, List.length_range]
  omega
 ·cases h
theorem decN_facts {l : List Nat} : ∀ {k : Nat} {o : List Nat}, decN l k = some o → Byt o ∧ o.length ≤ 4 * k
 | 0, o, h => by obtain rfl := Option.some.inj h; exact ⟨(fun x hx => by cases hx), Nat.zero_le _⟩
 | k + 1, o, h => by
  rw [decN] at h
  obtain ⟨p, hp, h⟩ := Option.bind_eq_some_iff.1 h
  obtain ⟨q, hq, rfl⟩ := Option.map_eq_some_iff.1 h
  obtain ⟨h1, h2⟩ := decN_facts hp
  have h3 := decG_len hq
  rw [List.length_take] at h3
  exact ⟨byt_append h1 (decG_byt hq), by rw [List.length_append]; omega⟩
theorem decN_none {l : List Nat} {k : Nat} (h : decN l k = none) : ∀ j, decN l (k + j) = none
 | 0 => h
 | j + 1 => by rw [← Nat.add_assoc, decN, decN_none h j]; rfl
set_option maxRecDepth 100000 in
set_option maxHeartbeats 6400000 in
theorem get_walk (s : ByteArray) (w : World) (hn : s.size ≤ 100000) :
  Calls Tryz.prog 11 #[.string s] w fun e w' => e = .returned (getV (bts s)) ∧ Below w.heap.size w w' := by
 obtain ⟨i0, hi, hz0, hz1, hz2⟩ := info_parts infoU8
 obtain ⟨n0, hn0⟩ : ∃ n0, s.size = n0 := ⟨_, rfl⟩
 have BL0 := Lib.hid (show (bts s).length = n0 from by rw [bts_len, hn0])
 have T1 := Lib.hid (fun W => trim_walk s (by omega) W)
 rw [hn0] at hn
 have SG := Lib.hid (show (bts s).length % 4 = n0 % 4 from by rw [BL0.out])
 obtain ⟨r, hr⟩ : ∃ r, n0 % 4 = r := ⟨_, rfl⟩
 have hri : (n0 : Int) % 4 = (r : Int) := by omega
 rw [hr] at SG
 have HR := Lib.hid (show r < 4 from by omega)
 clear hr
 by_cases h0 : r = 0
 ·subst h0
  go_enter Tryz.func11, Tryz.ntmps11
  go_wp2_with fail
  refine (T1.out w).mono ?_
  rintro e w' ⟨t, rfl, ht, rfl⟩
  have T2 := Lib.hid (trim_walk t (by rw [← bts_len, ht]; unfold trim1; split <;> (try rw [List.length_dropLast]) <;> (have := BL0.out; omega)) w)
  have HT := Lib.hid ht
  clear ht T1
  go_wp2_with fail
  refine T2.out.mono ?_
  rintro e w' ⟨u, rfl, hu, rfl⟩
  rw [HT.out] at hu
  obtain ⟨U, hU⟩ : ∃ U, trim1 (trim1 (bts s)) = U := ⟨_, rfl⟩
  obtain ⟨n, hnn⟩ : ∃ n, u.size = n := ⟨_, rfl⟩
  have UB := Lib.hid (show bts u = U from hu.trans hU)
  have UL := Lib.hid (show U.length = n from by rw [← UB.out, bts_len, hnn])
  have HN := Lib.hid hnn
  have hn1 : n ≤ 100000 := by
   have h1 := trim_two (bts s)
   rw [hU] at h1
   have h2 := BL0.out
   have h3 := UL.out
   rcases h1 with h1 | h1 | h1 <;> (rw [h1] at h2; try rw [List.length_append] at h2) <;> omega
  have GD := Lib.hid (show getL (bts s) = decN U ((n + 3) / 4) from by
   unfold getL
   rw [SG.out, if_pos rfl, hU, UL.out])
  obtain ⟨q, hq⟩ : ∃ q, n / 4 = q := ⟨_, rfl⟩
  have hqi : (n : Int) / 4 = (q : Int) := by omega
  obtain ⟨q3, hq3⟩ : ∃ q3, q * 3 = q3 := ⟨_, rfl⟩
  have hq3i : (q : Int) * 3 = (q3 : Int) := by omega
  obtain ⟨c, hc⟩ : ∃ c, q3 + 3 = c := ⟨_, rfl⟩
  have hci : (q3 : Int) + 3 = (c : Int) := by omega
  have hcb : c ≤ 200000 := by omega
  have hwc : IntKind.i64.wrap ((c : Nat) : Int) = (c : Int) := IntWalk.i64_in _ (by omega)
  clear hu hU hq hq3 hc HT SG BL0 T2 hn0 hn
  go_wp2_with (refine wpList_make_own w rfl (.const (.int .i64 0)) (.tmp 19) 28 rfl w.heap.size 5 i0 _ 1 Tryz.underlying28 hi hz0 hz1 .i64 .i64 (c : Int) c rfl rfl rfl (by rw [hz2]; omega) (by unfold maxLen; omega) (Nat.le_refl _) ?_; intro w1 hown hg1; (have I0 := Lib.hid (show ∃ D, decN U 0 = some D ∧ HasN w1 w.heap.size (.slice (some ⟨w.heap.size, 0, none⟩) 0 c) D ∧ Below w.heap.size w w1 from ⟨[], rfl, hown, (Below.refl w.heap.size w).grown hg1 (Nat.le_refl _) (fun k e => by cases e)⟩)); clear hown hg1)
  clear hwc hci hq3i hqi
  go_loopw [4, 5, 6] (fun o i _ wr => ∃ k : Nat, i = .int .i64 ((4 * k : Nat) : Int) ∧ 4 * k < n + 4 ∧ Hid (∃ D, decN U k = some D ∧ HasN wr w.heap.size o D ∧ Below w.heap.size w wr)) (fun _ i _ _ => n - (intOf i).toNat)
  case atStart => exact ⟨0, rfl, by omega, I0⟩
  case round =>
   obtain ⟨k, rfl, hk, I⟩ := hrel
   clear I0
   obtain ⟨D, hD, hO, hB⟩ := I.out
   have ID := Lib.hid hD
   have IO := Lib.hid hO
   have IB := Lib.hid hB
   clear hD hO hB I
   obtain ⟨i4, hi4⟩ : ∃ i4, 4 * k = i4 := ⟨_, rfl⟩
   rw [hi4] at hk ⊢
   by_cases hlt : i4 < n
   ·obtain ⟨e, he⟩ : ∃ e : Nat, min (i4 + 4) n = e := ⟨_, rfl⟩
    have hmin : min ((i4 : Int) + 4) (n : Int) = (e : Int) := by omega
    have he1 : e ≤ n := by omega
    have he2 : i4 ≤ e := by omega
    have he3 : e ≤ u.size := by rw [HN.out]; exact he1
    have DF := decN_facts ID.out
    have DL := Lib.hid (show D.length ≤ 400000 from by have := DF.2; omega)
    have AW := Lib.hid (appendBytes_walk w.heap.size u4 D (u.extract i4 e) wr IO.out IB.out.size (by have := DL.out; omega) (by rw [ByteArray.size_extract]; omega))
    have GB := Lib.hid (show bts (u.extract i4 e) = (U.drop (4 * k)).take 4 from by
     rw [bts_ext, UB.out, hi4, show e - i4 = min 4 (n - i4) by omega, show min 4 (n - i4) = min 4 (U.drop i4).length by rw [List.length_drop, UL.out], ← List.take_eq_take_min])
    rw [GB.out] at AW
    have hlt' : (i4 : Int) < (n : Int) := by omega
    have i40 : (0 : Int) ≤ (i4 : Int) := by omega
    clear DF he
    go_wp2_with fail
    refine AW.out.mono ?_
    rintro e' w2 ⟨v2, b, rfl, hb, ho, b2⟩
    have B2 := Lib.hid (IB.out.trans b2)
    have HO2 := Lib.hid ho
    clear b2 ho AW
    cases hdec : decG ((U.drop (4 * k)).take 4) with
    | none =>
     rw [hdec] at hb
     obtain rfl : b = false := hb
     have GN := Lib.hid (show getV (bts s) = .tuple #[.string { data := #[] }, .bool false] from by
      have h1 : decN U (k + 1) = none := by rw [decN, ID.out, Option.bind_some, hdec]; rfl
      have h2 := decN_none h1 ((n + 3) / 4 - (k + 1))
      rw [show k + 1 + ((n + 3) / 4 - (k + 1)) = (n + 3) / 4 by omega] at h2
      unfold getV
      rw [GD.out, h2])
     clear hdec
     go_wp2_with fail
     refine bodyPost_ret (results_tmp2 (t := 2) (u := 3) rfl _ _ _) rfl ?_
     exact ⟨by rw [GN.out]; rfl, B2.out⟩
    | some o =>
     rw [hdec] at hb
     obtain rfl : b = true := hb
     have I2 := Lib.hid (show ∃ D, decN U (k + 1) = some D ∧ HasN w2 w.heap.size v2 D ∧ Below w.heap.size w w2 from ⟨D ++ o, by rw [decN, ID.out, Option.bind_some, hdec]; rfl, HO2.out o hdec, B2.out⟩)
     clear hdec HO2
     go_wp2_with fail
     go_roundw
     case rel => exact ⟨k + 1, by go_num, by omega, I2⟩
     case measure => first | (simp [intOf]; done) | (simp [intOf]; omega)
   ·have hnl : ¬ (i4 : Int) < (n : Int) := by omega
    have GS := Lib.hid (show getV (bts s) = .tuple #[.string (txt D), .bool true] from by
     unfold getV
     rw [GD.out, show (n + 3) / 4 = k by omega, ID.out])
    obtain ⟨A, c2, rfl⟩ := HasN.shape IO.out
    have CV := Lib.hid (conv_txt IO.out (decN_facts ID.out).1)
    go_wp2_with fail
    rw [CV.out]
    go_wp2_with fail
    refine bodyPost_ret (results_tmp2 (t := 2) (u := 3) rfl _ _ _) rfl ?_
    exact ⟨by rw [GS.out]; rfl, IB.out⟩
 ·have hr0 : ((r : Int) == 0) = false := by simp; omega
  have GN := Lib.hid (show getV (bts s) = .tuple #[.string { data := #[] }, .bool false] from by
   unfold getV getL
   rw [SG.out, if_neg h0])
  go_enter Tryz.func11, Tryz.ntmps11
  go_wp2_with fail
  refine bodyPost_ret (results_tmp2 (t := 2) (u := 3) rfl _ _ _) rfl ?_
  exact ⟨by rw [GN.out]; rfl, Below.refl _ _⟩
end BM
end Go.Proofs.YtgmijnnhanpocabGreatDoor
