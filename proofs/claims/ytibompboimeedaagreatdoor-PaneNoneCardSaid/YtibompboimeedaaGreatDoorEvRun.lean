/-
  The evaluator at this program: what each layer begins with answers true wherever the table of widths stands.
-/
import Derived.Test.YtibompboimeedaaGreatDoorEvZ
import Derived.Test.YtibompboimeedaaGreatDoorShelf
import Derived.Test.YtibompboimeedaaGreatDoorSpans
import Derived.KernelRfl
import Derived.Outline
namespace Go.Proofs.YtibompboimeedaaGreatDoor.Ev
open Go.ChangeShapes Go.WideShapes Go.ChangeAt Go.RowKit Go.Proofs

noncomputable def spanA : List (Int × Int × Int) → List A
  | [] => []
  | x :: l => .i .i32 x.1 :: .i .i32 x.2.1 :: .i .i64 x.2.2 :: spanA l
noncomputable def table : List A := spanA spanRows
theorem spanA_len : ∀ l, (spanA l).length = 3 * l.length
  | [] => rfl
  | x :: l => by simp only [spanA, List.length_cons, spanA_len l]; omega
theorem spanA_get : ∀ {l : List (Int × Int × Int)} {k : Nat} {a : A}, (spanA l)[k]? = some a → ∃ i x, l[i]? = some x ∧ (k = i * 3 ∧ a = .i .i32 x.1 ∨ k = i * 3 + 1 ∧ a = .i .i32 x.2.1 ∨ k = i * 3 + 2 ∧ a = .i .i64 x.2.2)
  | [], k, a, h => by simp [spanA] at h
  | x :: l, k, a, h => by
    match k, h with
    | 0, h => simp [spanA] at h; exact ⟨0, x, rfl, .inl ⟨rfl, h.symm⟩⟩
    | 1, h => simp [spanA] at h; exact ⟨0, x, rfl, .inr (.inl ⟨rfl, h.symm⟩)⟩
    | 2, h => simp [spanA] at h; exact ⟨0, x, rfl, .inr (.inr ⟨rfl, h.symm⟩)⟩
    | k + 3, h =>
      obtain ⟨i, y, h1, h2⟩ := spanA_get (l := l) (k := k) (a := a) (by simpa [spanA] using h)
      exact ⟨i + 1, y, by simpa using h1, h2.imp (fun h => ⟨by omega, h.2⟩) (Or.imp (fun h => ⟨by omega, h.2⟩) (fun h => ⟨by omega, h.2⟩))⟩
theorem ints : Ints table := fun a ha => by
  obtain ⟨k, hk⟩ := List.mem_iff_getElem?.1 ha
  obtain ⟨i, x, _, h | h | h⟩ := spanA_get hk
  · exact ⟨_, _, h.2⟩
  · exact ⟨_, _, h.2⟩
  · exact ⟨_, _, h.2⟩
theorem sizeB : (Tryz.prog.info? 198).map (·.size) = some 2 := by kernel_rfl
theorem liesB : liesAt Tryz.prog Tryz.prog.depth 198 (2 / Tryz.prog.cellsOf 198) 0 198 1 = true := by kernel_rfl
set_option maxHeartbeats 1000000 in
set_option maxRecDepth 100000 in
theorem check_used (b : Nat) (w : World) (c0 : w.cell? ⟨b, 0, none⟩ = some (.pointer (some ⟨b, 0, none⟩))) :
    Calls Tryz.prog 167 #[.pointer (some ⟨b, 0, none⟩)] w fun e w' => e = .returned (.tuple #[]) ∧ w' = w := by
  obtain ⟨j, hj, _⟩ := Option.map_eq_some_iff.1 sizeB
  go_enter Tryz.func167, Tryz.ntmps167
  go_wp2
  rw [Lib.run_neq_ptr_same w _ Tryz.underlying196 hj]
  go_wp2
  go_end0
  exact ⟨rfl, rfl⟩
set_option maxHeartbeats 1000000 in
set_option maxRecDepth 100000 in
theorem check_fresh (b : Nat) (w : World) (c0 : w.cell? ⟨b, 0, none⟩ = some (.pointer none)) (hsh : w.shape? b = some (198, 2)) (f0 : w.frozen? ⟨b, 0, none⟩ = false) :
    Calls Tryz.prog 167 #[.pointer (some ⟨b, 0, none⟩)] w fun e w' => e = .returned (.tuple #[]) ∧ w' = w.setCell ⟨b, 0, none⟩ (.pointer (some ⟨b, 0, none⟩)) := by
  obtain ⟨j, hj, hjs⟩ := Option.map_eq_some_iff.1 sizeB
  go_enter Tryz.func167, Tryz.ntmps167
  go_wp2
  rw [Lib.run_to_unsafe w ⟨b, 0, none⟩ Tryz.underlying196 Tryz.underlying206 hj (by rw [hjs]; decide) hsh (Nat.zero_lt_succ 1)]
  simp only [Result.andThen]
  rw [Oper.upon_value]
  go_wp2
  rw [run_callFunc_extern Tryz.func169 (by kernel_rfl) (by kernel_rfl) (by kernel_rfl) (e := Extern.AbiNoEscape.same) (by kernel_rfl)]
  rw [Lib.run_noEscape]
  simp only [Result.andThen]
  rw [Oper.upon_value]
  go_wp2
  rw [Lib.run_from_unsafe w ⟨b, 0, none⟩ Tryz.underlying206 Tryz.underlying196 hj hsh liesB]
  simp only [Result.andThen]
  rw [Oper.upon_value]
  go_wp2
  go_end0
  exact ⟨rfl, rfl⟩
theorem checks : Checks Tryz.prog 167 198 :=
  ⟨⟨_, Tryz.func167, by kernel_rfl, by kernel_rfl⟩, check_fresh, check_used⟩
theorem told {bg : Option Nat} (T : ∀ f, bg = some f → Trues Tryz.prog f 0 table) : Told Tryz.prog (xs 198 5 167 166 152 bg 0 table) :=
  told_xs checks Tryz.lays169 Tryz.Builder_Extra_169 Tryz.lays137 rfl rfl rfl rfl ints (by decide +kernel) T
theorem mixed : Tryz.prog.follows .mixedOrders = true := by kernel_rfl
/-- What is said of a function that answers true wherever the table stands. -/
theorem Trues.at {f : Nat} (T : Trues Tryz.prog f 0 table) (w : World) (hs : Spans w) : Calls Tryz.prog f #[] w fun e v => e = .returned (.bool true) ∧ Below w.heap.size w v := by
  obtain ⟨cs, ty, fr, hb⟩ : ∃ cs ty fr, w.heap[0]? = some (.cells cs ty fr) := by
    have h := hs.first 0 (by omega)
    unfold World.cell? at h
    split at h
    · rename_i cs ty fr hb; exact ⟨cs, ty, fr, hb⟩
    · cases h
  have cell : ∀ k v, w.cell? ⟨0, k, none⟩ = some v → cs[k]? = some v := fun k v h => by
    simp only [World.cell?, hb] at h
    simpa using h
  have hc : ∀ (k : Nat) (a : A), table[k]? = some a → cs[k]? = some (a.den (first Tryz.prog.globals.size)) := fun k a h => by
    obtain ⟨i, x, h1, h2⟩ := spanA_get h
    have hi : i < 21 := (List.getElem?_eq_some_iff.1 h1).1
    have hx : spanRows.getD i (0, 0, 0) = x := by rw [List.getD_eq_getElem?_getD, h1]; rfl
    rcases h2 with ⟨rfl, rfl⟩ | ⟨rfl, rfl⟩ | ⟨rfl, rfl⟩
    · rw [cell _ _ (hs.first i hi)]; simp only [sFirst, hx, A.den]
    · rw [cell _ _ (hs.last i hi)]; simp only [sLast, hx, A.den]
    · rw [cell _ _ (hs.wide i hi)]; simp only [sWide, hx, A.den]
  refine T.2 w cs ty fr hb ?_ hc
  have hl : table.length = 63 := spanA_len spanRows
  have h62 := hc 62 table[62] (by simp [hl])
  have := (Array.getElem?_eq_some_iff.1 h62).1
  omega
set_option maxRecDepth 100000 in
theorem begun1 : Trues Tryz.prog 149 0 table :=
  layer (bg := none) (n := 100000) mixed ints (by decide +kernel) (told (fun f h => by cases h)) ⟨_, Tryz.func149, by kernel_rfl, by kernel_rfl⟩ rfl (fun _ => by kernel_rfl)
set_option maxRecDepth 100000 in
theorem begun4 : Trues Tryz.prog 100 0 table :=
  layer (bg := some 149) (n := 100000) mixed ints (by decide +kernel) (told (fun f h => by obtain rfl := some_inj h; exact begun1)) ⟨_, Tryz.func100, by kernel_rfl, by kernel_rfl⟩ rfl (fun _ => by kernel_rfl)
set_option maxRecDepth 100000 in
theorem begun7 : Trues Tryz.prog 33 0 table :=
  layer (bg := some 100) (n := 100000) mixed ints (by decide +kernel) (told (fun f h => by obtain rfl := some_inj h; exact begun4)) ⟨_, Tryz.func33, by kernel_rfl, by kernel_rfl⟩ rfl (fun _ => by kernel_rfl)
end Go.Proofs.YtibompboimeedaaGreatDoor.Ev
