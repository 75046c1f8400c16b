/-
  pack.runs: a list of cells parted into runs.
-/
import Derived.Test.YtalhlgiklochdaaDoorFollows
import Derived.RangeFuncBox
namespace Go.Proofs.YtalhlgiklochdaaDoor
open Go.ChangeShapes Go.WideShapes Go.ChangeAt Go.RowKit

def flatR (rs : List (Nat × Cel)) : List Value := rs.flatMap fun x => [.int .i64 x.1, .int .i32 x.2.1, .int .i64 x.2.2.1, .int .i64 x.2.2.2]
theorem flatR_length (rs : List (Nat × Cel)) : (flatR rs).length = rs.length * 4 := by
  induction rs with
  | nil => rfl
  | cons x rs ih => simp only [flatR, List.flatMap_cons, List.length_append, List.length_cons, List.length_nil] at ih ⊢; omega
theorem flatR_append (a b : List (Nat × Cel)) : flatR (a ++ b) = flatR a ++ flatR b := by simp [flatR]
theorem flatR_bump (rs : List (Nat × Cel)) (n : Nat) (c : Cel) : (flatR (rs ++ [(n, c)])).set (rs.length * 4) (.int .i64 ((n + 1 : Nat) : Int)) = flatR (rs ++ [(n + 1, c)]) := by
  rw [flatR_append, flatR_append, ← flatR_length, List.set_append_right _ _ (Nat.le_refl _), Nat.sub_self]
  rfl
theorem infoRun : (Tryd.prog.info? 77).map (fun i => (i.zero, i.size, i.bytes)) = some (some (.agg #[.int .i64 0, .int .i32 0, .int .i64 0, .int .i64 0]), 4, 32) := by kernel_rfl
def HasRuns (w : World) (base : Nat) (v : Value) (rs : List (Nat × Cel)) : Prop := w.ownsRow base 77 4 v rs.length (flatR rs)
theorem HasRuns.nothing (w : World) (base : Nat) : HasRuns w base (.slice none 0 0) [] := World.ownsRow_nil w base _ _
theorem HasRuns.below {w w' : World} {B base : Nat} {v : Value} {rs : List (Nat × Cel)} (h : HasRuns w base v rs) (hb : Below B w w') (hv : ∀ k, v.ownBlock = some k → k < B) : HasRuns w' base v rs := by
  refine ⟨h.1, ?_⟩
  rcases h.2 with e | ⟨g, cap, cur, rfl, e2, e3, r⟩
  · exact .inl e
  · exact .inr ⟨g, cap, cur, rfl, e2, (hb.block g (hv g rfl)).trans e3, r⟩
theorem HasRuns.lt {w : World} {base : Nat} {v : Value} {rs : List (Nat × Cel)} (h : HasRuns w base v rs) : ∀ k, v.ownBlock = some k → k < w.heap.size := fun k e => (World.ownsRow.lt h k e).2
theorem HasRuns.shape {w : World} {base : Nat} {v : Value} {rs : List (Nat × Cel)} (h : HasRuns w base v rs) : ∃ A c, v = .slice A rs.length c := by
  rcases h.2 with ⟨rfl, h0⟩ | ⟨g, cap, cur, rfl, _⟩
  · rw [h0]; exact ⟨_, _, rfl⟩
  · exact ⟨_, _, rfl⟩
/-- The last run's count, and what it is behind a store of one more. -/
theorem HasRuns.last {w : World} {base g cap p : Nat} {rs : List (Nat × Cel)} {n : Nat} {c : Cel} (hq : rs.length + 1 = p) (h : HasRuns w base (.slice (some ⟨g, 0, none⟩) p cap) (rs ++ [(n, c)])) :
    w.cell? ⟨g, (p - 1) * 4, none⟩ = some (.int .i64 n) ∧ w.frozen? ⟨g, (p - 1) * 4, none⟩ = false ∧ HasRuns (w.setCell ⟨g, (p - 1) * 4, none⟩ (.int .i64 ((n + 1 : Nat) : Int))) base (.slice (some ⟨g, 0, none⟩) p cap) (rs ++ [(n + 1, c)]) ∧ base ≤ g := by
  subst hq
  rw [Nat.add_sub_cancel]
  have h' : w.ownsRow base 77 4 (.slice (some ⟨g, 0, none⟩) (rs.length + 1) cap) (rs.length + 1) (flatR (rs ++ [(n, c)])) := by
    have := h
    unfold HasRuns at this
    rwa [List.length_append] at this
  refine ⟨?_, h'.frozenAt _, ?_, (World.ownsRow.lt h' g rfl).1⟩
  · rw [h'.cellAt _ (by omega), flatR_append, List.getElem?_append_right (by rw [flatR_length]; exact Nat.le_refl _), flatR_length, Nat.sub_self]
    rfl
  · have := (h'.stored (rs.length * 4) (.int .i64 ((n + 1 : Nat) : Int))).1
    rw [flatR_bump] at this
    unfold HasRuns
    rw [List.length_append]
    exact this
theorem fitr1 {n : Nat} (h : n ≤ 1000000) : n + 1 ≤ maxLen := by unfold maxLen; omega
theorem fitr2 {n : Nat} (h : n ≤ 1000000) : (n + 1) * 32 ≤ 140737488355328 := by omega
theorem run_cells (n r m a : Int) : ∀ u ∈ [Value.int .i64 n, Value.int .i32 r, Value.int .i64 m, Value.int .i64 a], u.oneCell' = true := by intro u hu; simp at hu; rcases hu with rfl | rfl | rfl | rfl <;> rfl
theorem add_at' (b off j : Nat) : (⟨b, off, none⟩ : Addr).add j = ⟨b, off + j, none⟩ := by unfold Addr.add; split <;> simp_all
theorem run_new_at {w : World} {n : Nat} (h : w.heap.size = n) (x y z u : Value) (t : TypeId) : ∀ j v, [x, y, z, u][j]? = some v → (w.alloc (.cells #[x, y, z, u] t)).cell? ((⟨n, 0, none⟩ : Addr).add j) = some v := by
  subst h
  intro j v hv
  rw [add_at', cell_of_row _ w.heap.size _ _ _ (0, 0) (heap_alloc_new w _)]
  simpa using hv
theorem runsOf_length_le (l : List Cel) : (runsOf l).length ≤ l.length := runs_length l
theorem runsOf_count {l : List Cel} {rs : List (Nat × Cel)} {n : Nat} {c : Cel} (h : runsOf l = rs ++ [(n, c)]) : n ≤ l.length := by
  have hu := unrun_runs l
  rw [h, unrun_snoc] at hu
  have := congrArg List.length hu
  simp at this
  omega

def RunsPost (l : List Cel) (w : World) (e : Ending) (w' : World) : Prop := ∃ v, e = .returned v ∧ HasRuns w' w.heap.size v (runsOf l) ∧ Below w.heap.size w w'
theorem sq_take {w : World} {B n : Nat} {A : Option Addr} {l : List Cel} (h : Sq w B 3 n A (flat l)) {k : Nat} (hk : k ≤ n) : Sq w B 3 k A (flat (l.take k)) := by
  have hl : l.length = n := by have := h.len; rw [flat_length] at this; omega
  refine ⟨by rw [flat_length, List.length_take]; omega, fun h0 => ?_⟩
  obtain ⟨b, off, e, hb, hc⟩ := h.spot (by omega)
  refine ⟨b, off, e, hb, fun j u hu => hc j u ?_⟩
  have e2 : flat l = flat (l.take k) ++ flat (l.drop k) := by rw [← flat_append, List.take_append_drop]
  rw [e2, List.getElem?_append_left (by obtain ⟨h1, _⟩ := List.getElem?_eq_some_iff.1 hu; exact h1)]
  exact hu

set_option maxRecDepth 100000 in
set_option maxHeartbeats 3200000 in
theorem runs_walk (A : Option Addr) (n c : Nat) (l : List Cel) (w : World) (hq : Sq w w.heap.size 3 n A (flat l)) (hc : n ≤ c) (hn : n ≤ 1000000) :
    Calls Tryd.prog 52 #[.slice A n c] w fun e w' => RunsPost l w e w' := by
  obtain ⟨i0, hi, hz0, hz1, hz2⟩ := info_parts infoRun
  have hln : l.length = n := by have := hq.len; rw [flat_length] at this; omega
  have LN := Lib.hid hln
  have Q := Lib.hid hq
  clear hln hq
  go_enter Tryd.func52, Tryd.ntmps52
  go_wp2_with fail
  go_loopw [3, 8] (fun u i wr => ∃ k : Nat, i = .int .i64 k ∧ k ≤ n ∧ HasRuns wr w.heap.size u (runsOf (l.take k)) ∧ Below w.heap.size w wr) (fun _ i _ => n - (intOf i).toNat)
  case atStart => exact ⟨0, rfl, Nat.zero_le _, HasRuns.nothing _ _, Below.refl _ _⟩
  case round =>
    obtain ⟨k, rfl, hk, hv, hb⟩ := hrel
    have hsz := hb.size
    by_cases hlt : k < n
    · obtain ⟨b, off, rfl, hbb, ⟨r, m, a⟩, hcc, q0, q1, q2⟩ := (Q.out.below hb).three hlt
      have hkl : k < l.length := by have := LN.out; omega
      have hcx := List.getElem?_eq_some_iff.1 hcc
      have TN := Lib.hid (show l.take (k + 1) = l.take k ++ [(r, m, a)] by rw [List.take_succ_eq_append_getElem hkl, hcx.2])
      have QK := Lib.hid (fun w' (h : Below w.heap.size w w') => (sq_take (Q.out.below h) hk).up h.size)
      have HV := Lib.hid hv
      have HB := Lib.hid hb
      obtain ⟨B, hB⟩ : ∃ B, lastB (l.take k) (r, m, a) = B := ⟨_, rfl⟩
      have FW := Lib.hid (fun w' (h : Below w.heap.size w w') => follows_walk (some ⟨b, off, none⟩) k c (l.take k) r m a w' (QK.out w' h) (by omega))
      rw [hB] at FW
      have BH := Lib.hid hB
      have KC : k ≤ c := by omega
      clear hv hb hcc hcx hB hbb
      cases B
      · have RO := Lib.hid (runs_other (l := l.take k) (c := (r, m, a)) (by have := BH.out; unfold lastB at this; simpa using this))
        have RL := Lib.hid (Nat.le_trans (runsOf_length_le (l.take k)) (List.length_take_le _ _))
        go_wp2_with fail
        go_region_with (go_at_call 61; refine (FW.out _ (by first | exact HB.out.alloc hsz _ | exact (HB.out.alloc hsz _).drew)).mono ?_; rintro e w2 ⟨rfl, b2⟩)
        have b12 : Below wr.heap.size wr w2 := ((Below.refl wr.heap.size wr).alloc (Nat.le_refl _) (.cells #[.int .i32 r, .int .i64 m, .int .i64 a] 45)).drew.trans (b2.mono (B' := wr.heap.size) (by simp))
        have c0 : w2.cell? ⟨wr.heap.size, 0, none⟩ = some (.int .i32 r) := (b2.cell (p := ⟨wr.heap.size, 0, none⟩) (by simp)).trans (by simp)
        have c1 : w2.cell? ⟨wr.heap.size, 1, none⟩ = some (.int .i64 m) := (b2.cell (p := ⟨wr.heap.size, 1, none⟩) (by simp)).trans (by simp)
        have c2 : w2.cell? ⟨wr.heap.size, 2, none⟩ = some (.int .i64 a) := (b2.cell (p := ⟨wr.heap.size, 2, none⟩) (by simp)).trans (by simp)
        have V2 := Lib.hid (HV.out.below b12 HV.out.lt)
        have B2 := Lib.hid (HB.out.trans (b12.mono hsz))
        have hsz2 := B2.out.size
        clear b12 b2
        obtain ⟨q, hq⟩ : ∃ q, (runsOf (l.take k)).length = q := ⟨_, rfl⟩
        have QL := Lib.hid hq
        have hq6 : q ≤ 1000000 := by have := RL.out; omega
        clear hq
        go_wp2_with (
            at_builtin
            refine wpList_append_own_at _ rfl _ _ 74 rfl w.heap.size 77 i0 (.agg #[.int .i64 0, .int .i32 0, .int .i64 0, .int .i64 0]) 4 32 Tryd.underlying74 hi hz0 hz1 hz2 rfl (by decide) u3 (runsOf (l.take k)).length _ rfl (V2.out.alloc _) ⟨w2.heap.size, 0, none⟩ 1 1 [.int .i64 0, .int .i32 r, .int .i64 m, .int .i64 a] rfl rfl (run_new_at rfl _ _ _ _ _) (run_cells _ _ _ _) (fitr1 (by have := QL.out; omega)) (fitr2 (by have := QL.out; omega)) (by simp; omega) ?_
            intro v' w4 hown hgrow _ _
            have V4 : HasRuns w4 w.heap.size v' (runsOf (l.take k) ++ [(0, (r, m, a))]) := by
              unfold HasRuns
              rw [List.length_append, flatR_append]
              exact hown
            have B4 := Lib.hid ((B2.out.alloc hsz2 (.cells #[.int .i64 0, .int .i32 r, .int .i64 m, .int .i64 a] 77)).grown hgrow (by simp; omega) (fun j e => (World.ownsRow.lt V2.out j e).1))
            have V4H := Lib.hid V4
            obtain ⟨g, cap, hv'⟩ := ownsRow_succ hown
            obtain ⟨p, hp⟩ : ∃ p, (runsOf (l.take k)).length + 1 = p := ⟨_, rfl⟩
            rw [hp] at hv'
            subst hv'
            obtain ⟨t0, t1, t2, t3⟩ := HasRuns.last hp V4H.out
            have hp0 : 0 < p := by omega
            have hp1 : p ≤ 1000001 := by have := QL.out; omega
            have T2 := Lib.hid t2
            have B5 := Lib.hid (B4.out.setCell (p := ⟨g, (p - 1) * 4, none⟩) t3 (.int .i64 ((0 + 1 : Nat) : Int)))
            have t0' : w4.cell? ⟨g, (p - 1) * 4, none⟩ = some (.int .i64 0) := t0
            clear hown hgrow V4 t2 t0 t3 hp)
        go_roundw
        case rel => exact ⟨k + 1, by go_num, by omega, by rw [TN.out, RO.out]; exact T2.out, B5.out⟩
        case measure => simp [intOf]; omega
      · obtain ⟨rs, cnt, r1, r2⟩ := runs_same (l := l.take k) (c := (r, m, a)) (by have := BH.out; unfold lastB at this; simpa using this)
        have R1 := Lib.hid r1
        have R2 := Lib.hid r2
        have RL := Lib.hid (Nat.le_trans (runsOf_length_le (l.take k)) (List.length_take_le _ _))
        have CL := runsOf_count r1
        have hcnt : cnt ≤ 1000000 := by have := List.length_take_le k l; omega
        obtain ⟨q, hq⟩ : ∃ q, rs.length = q := ⟨_, rfl⟩
        have QL := Lib.hid hq
        have hq6 : q ≤ 1000000 := by have h1 := RL.out; rw [R1.out, List.length_append] at h1; simp at h1; omega
        have V1 : HasRuns wr w.heap.size u3 (rs ++ [(cnt, (r, m, a))]) := by rw [← R1.out]; exact HV.out
        have V1' := V1
        unfold HasRuns at V1'
        rw [List.length_append] at V1'
        obtain ⟨g, cap, hu⟩ := ownsRow_succ V1'
        obtain ⟨p, hp⟩ : ∃ p, rs.length + 1 = p := ⟨_, rfl⟩
        have PL := Lib.hid hp
        have hp0 : 0 < p := by omega
        have hp1 : p ≤ 1000001 := by have := QL.out; omega
        rw [hp] at hu
        subst hu
        have V1H := Lib.hid V1
        have hgl := HV.out.lt g rfl
        clear hq r1 r2 CL V1 V1' hp
        go_wp2_with fail
        go_region_with (go_at_call 61; refine (FW.out _ (by first | exact HB.out.alloc hsz _ | exact (HB.out.alloc hsz _).drew)).mono ?_; rintro e w2 ⟨rfl, b2⟩)
        have b12 : Below wr.heap.size wr w2 := ((Below.refl wr.heap.size wr).alloc (Nat.le_refl _) (.cells #[.int .i32 r, .int .i64 m, .int .i64 a] 45)).drew.trans (b2.mono (B' := wr.heap.size) (by simp))
        have V2 := Lib.hid (V1H.out.below b12 V1H.out.lt)
        have B2 := Lib.hid (HB.out.trans (b12.mono hsz))
        clear b12 b2
        obtain ⟨t0, t1, t2, t3⟩ := HasRuns.last PL.out V2.out
        have T2 := Lib.hid t2
        have B5 := Lib.hid (B2.out.setCell (p := ⟨g, (p - 1) * 4, none⟩) t3 (.int .i64 ((cnt + 1 : Nat) : Int)))
        clear t2 t3
        go_wp2
        go_roundw
        case rel => exact ⟨k + 1, by go_num, by omega, by rw [TN.out, R2.out]; exact T2.out, B5.out⟩
        case measure => simp [intOf]; omega
    · have E : l.take k = l := take_all _ (by have := LN.out; omega)
      rw [E] at hv
      have sh := hv
      obtain ⟨A3, c3, rfl⟩ := sh.shape
      have HV := Lib.hid hv
      have HB := Lib.hid hb
      clear hv hb E sh
      go_wp2
      go_ret
      exact ⟨_, rfl, HV.out, HB.out⟩
end Go.Proofs.YtalhlgiklochdaaDoor
