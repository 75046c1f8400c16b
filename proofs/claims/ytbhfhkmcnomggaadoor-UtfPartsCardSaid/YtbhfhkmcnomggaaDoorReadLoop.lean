/-
  A Reader that is handed byte after byte, what it tells appended to a list: one round.
-/
import Derived.Test.YtbhfhkmcnomggaaDoorApp
import Derived.Test.YtbhfhkmcnomggaaDoorShort
namespace Go.Proofs.YtbhfhkmcnomggaaDoor
open Go.ChangeShapes Go.WideShapes Go.ChangeAt Go.RowKit

theorem Has.kept {w w' : World} {base b : Nat} {r : Option Nat} {v : Value} {xs : List Int} (h : Has w base v xs) (k : Kept (some b) r w w') (hb : v.ownBlock ≠ some b) (hr : r = none) : Has w' base v xs := by
  refine ⟨h.1, ?_⟩
  rcases h.2 with e | ⟨g, cap, cur, rfl, e2, e3, q⟩
  · exact .inl e
  · exact .inr ⟨g, cap, cur, rfl, e2, (k.block g (Array.getElem?_eq_some_iff.1 e3).1 (fun e => hb (by rw [Value.ownBlock]; exact e)) (by rw [hr]; simp)).trans e3, q⟩
theorem read_step {B b base : Nat} {v v6 : Value} {got new : List Int} {st' : St} {W wr w5 w6 : World} (hv : Has wr base v got) (hbb : b < base) (hb : Below B W wr) (hB : B ≤ b) (hBw : B ≤ wr.heap.size) (hr5 : Rd w5 b st') (hk : Kept (some b) (Value.slice none 0 0).ownBlock wr w5)
    (hown : w6.ownsRow base 21 1 v6 (got.length + new.length) (got.map (Value.int .i32) ++ new.map (Value.int .i32))) (hg : w5.grownBy w6 v.ownBlock) :
    Has w6 base v6 (got ++ new) ∧ Rd w6 b st' ∧ Below B W w6 := by
  refine ⟨?_, ⟨?_, hr5.ok⟩, ?_⟩
  · unfold Has; rw [List.length_append, List.map_append]; exact hown
  · exact (hg.block b hr5.lt (fun e => hv.ne hbb e.symm)).trans hr5.row
  · exact (hb.trans (hk.below hBw (fun j e => by injection e with e; omega) (fun j e => by simp [Value.ownBlock] at e))).grown hg (Nat.le_trans hBw hk.size) (fun j e => by have := (World.ownsRow.lt hv j e).1; omega)
theorem fits {n m : Nat} (h : n + m ≤ 1000000) : n + m ≤ maxLen ∧ (n + m) * 4 ≤ 140737488355328 := by unfold maxLen; omega
theorem runes_one (l : List Int) : ∀ u ∈ l.map (Value.int .i32), u.oneCell' = true := by
  intro u hu
  obtain ⟨x, _, rfl⟩ := List.mem_map.1 hu
  rfl
/-- What a text has become byte by byte. -/
theorem run_next (s : ByteArray) (k : Nat) (h : k < s.size) : runO st0 ((octs s).take (k + 1)) = runO st0 ((octs s).take k) ++ stO (runS st0 ((octs s).take k)) ((s[k]'h).toNat : Int) ∧ runS st0 ((octs s).take (k + 1)) = stS (runS st0 ((octs s).take k)) ((s[k]'h).toNat : Int) := by
  rw [take_next (by rw [octs_length]; exact h), runO_append, runS_append, nth_octs s k h]
  simp [runO, runS]
theorem read_step2 {g b : Nat} {v v6 : Value} {wr w5 w6 : World} (hvg : v.ownBlock ≠ some g) (hgb : g ≠ b) (hgl : g < wr.heap.size) (hk : Kept (some b) (Value.slice none 0 0).ownBlock wr w5) (hg : w5.grownBy w6 v.ownBlock) (hat : v6.ownBlock = v.ownBlock ∨ v6.ownBlock = some w5.heap.size) :
    w6.heap[g]? = wr.heap[g]? ∧ v6.ownBlock ≠ some g := by
  have hs := hk.size
  refine ⟨(hg.block g (by omega) (fun e => hvg e.symm)).trans (hk.block g hgl (fun e => hgb (by injection e)) (by simp [Value.ownBlock])), fun e => ?_⟩
  rcases hat with h | h
  · exact hvg (h.symm.trans e)
  · rw [h] at e; injection e with e; omega
theorem run_next' (st : St) (s : ByteArray) (k : Nat) (h : k < s.size) : runO st ((octs s).take (k + 1)) = runO st ((octs s).take k) ++ stO (runS st ((octs s).take k)) ((s[k]'h).toNat : Int) ∧ runS st ((octs s).take (k + 1)) = stS (runS st ((octs s).take k)) ((s[k]'h).toNat : Int) := by
  rw [take_next (by rw [octs_length]; exact h), runO_append, runS_append, nth_octs s k h]
  simp [runO, runS]
theorem octs_cell {w w0 : World} {g : Nat} {s : ByteArray} (h0 : Octs w0 g (octs s)) (h : w.heap[g]? = w0.heap[g]?) {k : Nat} (hk : k < s.size) : w.cell? ⟨g, k, none⟩ = some (.int .u8 ((s[k]'hk).toNat : Int)) := by
  have e : w.cell? ⟨g, k, none⟩ = w0.cell? ⟨g, k, none⟩ := World.cell?_of_block h
  rw [e, h0.2 k ((s[k]'hk).toNat : Int) (by rw [List.getElem?_eq_getElem (by rw [octs_length]; exact hk)]; congr 1; rw [← nth_get, nth_octs s k hk])]
theorem waits_step (st : St) (b : Int) (h : 0 ≤ st.waits) : (stS st b).waits ≤ st.waits + 1 := by
  unfold stS
  split
  · unfold onS; split
    · simp [st0]; omega
    · simp
  · unfold begS; split
    · simp [st0]; omega
    · split
      · simp [st0]; omega
      · simp; omega
theorem waits_run : ∀ (l : List Int) (st : St), st.ok → (∀ b ∈ l, 0 ≤ b) → (runS st l).waits ≤ st.waits + l.length
  | [], st, _, _ => by simp [runS]
  | b :: l, st, hok, hb => by
    have h0 := hb b (by simp)
    have s := waits_step st b hok.waits.1
    have r := waits_run l (stS st b) (stS_ok st b hok h0) fun x hx => hb x (by simp [hx])
    simp only [runS, List.length_cons]
    omega
end Go.Proofs.YtbhfhkmcnomggaaDoor
