/-
  A list of bytes in a row of the call's own; the reference's Uint; pack.appendUint, pack.Uint.
-/
import Derived.Test.YtalhlgiklochdaaDoorMem
import Derived.Test.YtalhlgiklochdaaDoorPackMath
import Derived.Maps.AppendAt
import Derived.Outline
import Derived.Laws.BitsLemmas
import Derived.Deep.DeepMust
namespace Go.Proofs.YtalhlgiklochdaaDoor
open Go.ChangeShapes Go.WideShapes Go.ChangeAt Go.RowKit

theorem infoByte : (Tryd.prog.info? 5).map (fun i => (i.zero, i.size, i.bytes)) = some (some (.int .u8 0), 1, 1) := by kernel_rfl
def HasB (w : World) (base : Nat) (v : Value) (xs : List Int) : Prop := w.ownsRow base 5 1 v xs.length (xs.map (Value.int .u8))
theorem HasB.nothing (w : World) (base : Nat) : HasB w base (.slice none 0 0) [] := World.ownsRow_nil w base _ _
theorem HasB.shape {w : World} {base : Nat} {v : Value} {xs : List Int} (h : HasB w base v xs) : ∃ A c, v = .slice A xs.length c := by
  rcases h.2 with ⟨rfl, h0⟩ | ⟨g, cap, cur, rfl, _⟩
  · rw [h0]; exact ⟨_, _, rfl⟩
  · exact ⟨_, _, rfl⟩
theorem HasB.below {w w' : World} {B base : Nat} {v : Value} {xs : List Int} (h : HasB w base v xs) (hb : Below B w w') (hv : ∀ k, v.ownBlock = some k → k < B) : HasB w' base v xs := by
  refine ⟨h.1, ?_⟩
  rcases h.2 with e | ⟨g, cap, cur, rfl, e2, e3, r⟩
  · exact .inl e
  · exact .inr ⟨g, cap, cur, rfl, e2, (hb.block g (hv g rfl)).trans e3, r⟩
theorem HasB.lt {w : World} {base : Nat} {v : Value} {xs : List Int} (h : HasB w base v xs) : ∀ k, v.ownBlock = some k → k < w.heap.size := fun k e => (World.ownsRow.lt h k e).2
theorem one_byte (x : Int) : ∀ u ∈ [Value.int .u8 x], u.oneCell' = true := by intro u hu; simp at hu; subst hu; rfl
theorem cell_new_at' {w : World} {n : Nat} (h : w.heap.size = n) (x : Value) (t : TypeId) : ∀ j u, [x][j]? = some u → (w.alloc (.cells #[x] t)).cell? ((⟨n, 0, none⟩ : Addr).add j) = some u := by
  subst h; exact cell_one_new w x t
theorem fitb1 {n : Nat} (h : n ≤ 1000000) : n + 1 ≤ maxLen := by unfold maxLen; omega
theorem fitb2 {n : Nat} (h : n ≤ 1000000) : (n + 1) * 1 ≤ 140737488355328 := by omega
/-- What a list that has grown left as it was. -/
structure Grew (v v' : Value) (w w' : World) : Prop where
  by' : w.grownBy w' v.ownBlock
  at' : v'.ownBlock = v.ownBlock ∨ ∃ k, v'.ownBlock = some k ∧ w.heap.size ≤ k
theorem Grew.refl (v : Value) (w : World) : Grew v v w w := ⟨⟨rfl, rfl, rfl, Nat.le_refl _, fun _ _ _ => rfl⟩, .inl rfl⟩
theorem Grew.trans {v v' v'' : Value} {w w' w'' : World} (h : Grew v v' w w') (k : Grew v' v'' w' w'') : Grew v v'' w w'' := by
  have hs := h.by'.size
  refine ⟨⟨k.by'.os.trans h.by'.os, k.by'.tape.trans h.by'.tape, k.by'.output.trans h.by'.output, Nat.le_trans hs k.by'.size, fun i hi hne => ?_⟩, ?_⟩
  · refine (k.by'.block i (by omega) (fun e => ?_)).trans (h.by'.block i hi hne)
    rcases h.at' with a | ⟨j, a, hj⟩
    · exact hne (e.trans a)
    · rw [a] at e; injection e with e; omega
  · rcases k.at' with a | ⟨j, a, hj⟩
    · rcases h.at' with b | ⟨j, b, hj⟩
      · exact .inl (a.trans b)
      · exact .inr ⟨j, a.trans b, hj⟩
    · exact .inr ⟨j, a, by omega⟩
theorem Grew.alloc {v v' : Value} {w w' : World} {o : Obj} (hg : (w.alloc o).grownBy w' v.ownBlock) (hat : v'.ownBlock = v.ownBlock ∨ v'.ownBlock = some (w.alloc o).heap.size) : Grew v v' w w' := by
  have hs := hg.size
  simp at hs
  refine ⟨⟨hg.os, hg.tape, hg.output, by omega, fun i hi hne => (hg.block i (by simp; omega) hne).trans (Below.heap_alloc w o i hi)⟩, ?_⟩
  rcases hat with a | a
  · exact .inl a
  · exact .inr ⟨_, a, by simp⟩
theorem Grew.below {v v' : Value} {w w' : World} {B : Nat} (h : Grew v v' w w') (hB : B ≤ w.heap.size) (hv : ∀ k, v.ownBlock = some k → B ≤ k) : Below B w w' :=
  (Below.refl B w).grown h.by' hB hv

theorem or128 (k : Nat) : bits .or .u8 ((k : Int) % 256) 128 = ((k % 128 + 128 : Nat) : Int) := by
  have key : ∀ x : Fin 256, bits .or .u8 (x.val : Int) 128 = ((x.val % 128 + 128 : Nat) : Int) := by decide +kernel
  have h := key ⟨k % 256, Nat.mod_lt _ (by omega)⟩
  simp only at h
  rw [show ((k : Int) % 256) = ((k % 256 : Nat) : Int) by omega, h]
  congr 2
  omega
/-- A number's bytes appended, or alone. -/
def UintPost (got : List Int) (n : Nat) (base : Nat) (v : Value) (w : World) (e : Ending) (w' : World) : Prop := ∃ v', e = .returned v' ∧ HasB w' base v' (got ++ uintL n) ∧ Grew v v' w w'
set_option maxRecDepth 100000 in
set_option maxHeartbeats 1600000 in
theorem appendUint_walk (n : Nat) (hn : n < 2 ^ 64) (got : List Int) (hg : got.length ≤ 900000) (base : Nat) (v : Value) (w : World) (hv : HasB w base v got) (hb : base ≤ w.heap.size) :
    Calls Tryd.prog 51 #[v, .int .u64 n] w fun e w' => UintPost got n base v w e w' := by
  obtain ⟨i0, hi, hz0, hz1, hz2⟩ := info_parts infoByte
  have hn' : (n : Int) ≤ 18446744073709551615 := by omega
  have HV := Lib.hid hv
  have HN := Lib.hid hn'
  have HN2 := Lib.hid hn
  clear hv hn hn'
  go_enter Tryd.func51, Tryd.ntmps51
  go_wp2_with fail
  go_loopw [0, 1] (fun u x wr => ∃ (k : Nat) (got' : List Int), x = .int .u64 k ∧ Hid (got' ++ uintL k = got ++ uintL n) ∧ k ≤ n ∧ HasB wr base u got' ∧ Grew v u w wr) (fun _ x _ => (intOf x).toNat)
  case atStart => exact ⟨n, got, rfl, Lib.hid rfl, Nat.le_refl _, HV.out, Grew.refl _ _⟩
  case round =>
    obtain ⟨k, got', rfl, GE, hkn, hv, hgr⟩ := hrel
    have hl : got'.length ≤ 950000 := by
      have h1 := congrArg List.length GE.out
      simp only [List.length_append] at h1
      have h2 := uintL_len HN2.out
      omega
    have hsz := hgr.by'.size
    have HV' := Lib.hid hv
    have HG := Lib.hid hgr
    clear hv hgr
    by_cases hlt : 128 ≤ k
    · obtain ⟨x, hx⟩ : ∃ x, bits .or .u8 ((k : Int) % 256) 128 = x := ⟨_, rfl⟩
      have XE := Lib.hid (hx.symm.trans (or128 k))
      go_wp2_with (at_builtin; refine wpList_append_own_at _ rfl _ _ 23 rfl base 5 i0 (.int .u8 0) 1 1 Tryd.underlying23 hi hz0 hz1 hz2 rfl (by decide) u0 got'.length _ rfl (HV'.out.alloc _) ⟨wr.heap.size, 0, none⟩ 1 1 [.int .u8 x] rfl rfl (cell_new_at' rfl _ _) (one_byte _) (fitb1 (by omega)) (fitb2 (by omega)) (by simp; omega) ?_; intro v' w4 hown hg2 _ hat)
      have N4 := HG.out.trans (Grew.alloc hg2 hat)
      have O4 : HasB w4 base v' (got' ++ [x]) := by unfold HasB; rw [List.length_append, List.map_append]; exact hown
      have NH := Lib.hid N4
      have OH := Lib.hid O4
      clear hown hg2 hat hx N4 O4
      go_roundw
      case rel => exact ⟨k / 128, got' ++ [x], by go_num, Lib.hid (by rw [← GE.out, uintL_big (n := k) (by omega), XE.out]; simp), by omega, OH.out, NH.out⟩
      case measure => simp [intOf]; omega
    · have XE := Lib.hid (uintL_small (n := k) (by omega))
      go_wp2_with (at_builtin; refine wpList_append_own_at _ rfl _ _ 23 rfl base 5 i0 (.int .u8 0) 1 1 Tryd.underlying23 hi hz0 hz1 hz2 rfl (by decide) u0 got'.length _ rfl (HV'.out.alloc _) ⟨wr.heap.size, 0, none⟩ 1 1 [.int .u8 (k : Int)] rfl rfl (cell_new_at' rfl _ _) (one_byte _) (fitb1 (by omega)) (fitb2 (by omega)) (by simp; omega) ?_; intro v' w4 hown hg2 _ hat)
      have N4 := HG.out.trans (Grew.alloc hg2 hat)
      have O4 : HasB w4 base v' (got ++ uintL n) := by rw [← GE.out, XE.out]; unfold HasB; rw [List.length_append, List.map_append]; exact hown
      clear hown hg2 hat
      go_ret
      exact ⟨v', rfl, O4, N4⟩
end Go.Proofs.YtalhlgiklochdaaDoor
