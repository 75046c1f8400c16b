import Derived.Test.YtgcfpfhmjhkgnaaGreatDoorQBase2
import Derived.RangeFuncBox
set_option maxRecDepth 100000
set_option maxHeartbeats 3200000
namespace Go.Proofs.YtgcfpfhmjhkgnaaGreatDoor
open Go.ChangeShapes Go.WideShapes Go.ChangeAt Go.RowKit
def flatR (rs : List (Nat × Cel)) : List Value := rs.flatMap fun x => [.int .i64 x.1, .int .i32 x.2.1, .int .i64 x.2.2.1, .int .i64 x.2.2.2]
theorem flatR_length (rs : List (Nat × Cel)) : (flatR rs).length = rs.length * 4 := by
 induction rs with
 | nil => rfl
 | cons x rs ih => simp only [flatR, List.flatMap_cons, List.length_append, List.length_cons, List.length_nil] at ih ⊢; omega
theorem flatR_append (a b : List (Nat × Cel)) : flatR (a ++ b) = flatR a ++ flatR b := by simp [flatR]
theorem flatR_bump (rs : List (Nat × Cel)) (n : Nat) (c : Cel) : (flatR (rs ++ [(n, c)])).set (rs.length * 4) (.int .i64 ((n + 1 : Nat) : Int)) = flatR (rs ++ [(n + 1, c)]) := by
 rw [flatR_append, flatR_append, ← flatR_length, List.set_append_right _ _ (Nat.le_refl _), Nat.sub_self]
 rfl
theorem infoRun : (Tryz.prog.info? 134).map (fun i => (i.zero, i.size, i.bytes)) = some (some (.agg #[.int .i64 0, .int .i32 0, .int .i64 0, .int .i64 0]), 4, 32) := by kernel_rfl
def HasRuns (w : World) (base : Nat) (v : Value) (rs : List (Nat × Cel)) : Prop := w.ownsRow base 134 4 v rs.length (flatR rs)
theorem HasRuns.nothing (w : World) (base : Nat) : HasRuns w base (.slice none 0 0) [] := World.ownsRow_nil w base _ _
theorem HasRuns.below {w w' : World} {B base : Nat} {v : Value} {rs : List (Nat × Cel)} (h : HasRuns w base v rs) (hb : Below B w w') (hv : ∀ k, v.ownBlock = some k → k < B) : HasRuns w' base v rs := by
 refine ⟨h.1, ?_⟩
 rcases h.2 with e | ⟨g, cap, cur, rfl, e2, e3, r⟩
 ·exact .inl e
 ·exact .inr ⟨g, cap, cur, rfl, e2, (hb.block g (hv g rfl)).trans e3, r⟩
theorem HasRuns.lt {w : World} {base : Nat} {v : Value} {rs : List (Nat × Cel)} (h : HasRuns w base v rs) : ∀ k, v.ownBlock = some k → k < w.heap.size := fun k e => (World.ownsRow.lt h k e).2
theorem HasRuns.shape {w : World} {base : Nat} {v : Value} {rs : List (Nat × Cel)} (h : HasRuns w base v rs) : ∃ A c, v = .slice A rs.length c := by
 rcases h.2 with ⟨rfl, h0⟩ | ⟨g, cap, cur, rfl, _⟩
 ·rw [h0]; exact ⟨_, _, rfl⟩
 ·exact ⟨_, _, rfl⟩
theorem HasRuns.last {w : World} {base g cap p : Nat} {rs : List (Nat × Cel)} {n : Nat} {c : Cel} (hq : rs.length + 1 = p) (h : HasRuns w base (.slice (some ⟨g, 0, none⟩) p cap) (rs ++ [(n, c)])) :
  w.cell? ⟨g, (p - 1) * 4, none⟩ = some (.int .i64 n) ∧ w.frozen? ⟨g, (p - 1) * 4, none⟩ = false ∧ HasRuns (w.setCell ⟨g, (p - 1) * 4, none⟩ (.int .i64 ((n + 1 : Nat) : Int))) base (.slice (some ⟨g, 0, none⟩) p cap) (rs ++ [(n + 1, c)]) ∧ base ≤ g := by
 subst hq
 rw [Nat.add_sub_cancel]
 have h' : w.ownsRow base 134 4 (.slice (some ⟨g, 0, none⟩) (rs.length + 1) cap) (rs.length + 1) (flatR (rs ++ [(n, c)])) := by
  have := h
  unfold HasRuns at this
  rwa [List.length_append] at this
 refine ⟨?_, h'.frozenAt _, ?_, (World.ownsRow.lt h' g rfl).1⟩
 ·rw [h'.cellAt _ (by omega), flatR_append, List.getElem?_append_right (by rw [flatR_length]; exact Nat.le_refl _), flatR_length, Nat.sub_self]
  rfl
 ·have := (h'.stored (rs.length * 4) (.int .i64 ((n + 1 : Nat) : Int))).1
  rw [flatR_bump] at this
  unfold HasRuns
  rw [List.length_append]
  exact this
theorem fitr1 {n : Nat} (h : n ≤ 1000000) : n + 1 ≤ maxLen := by unfold maxLen; omega
theorem fitr2 {n : Nat} (h : n ≤ 1000000) : (n + 1) * 32 ≤ 140737488355328 := by omega
theorem run_cells (n r m a : Int) : ∀ u ∈ [Value.int .i64 n, Value.int .i32 r, Value.int .i64 m, Value.int .i64 a], u.oneCell' = true := by intro u hu; simp at hu; rcases hu with rfl | rfl | rfl | rfl <;> rfl
theorem add_at' (b off j : Nat) : (⟨b, off, none⟩ : Addr).add j = ⟨b, off + j, none⟩ := by unfold Addr.add; split <;> simp_all
theorem run_new_at {w : World} {n : Nat} (h : w.heap.size = n) (x y z u : Value) (t : TypeId) : ∀ j v, [x, y, z, u][j]? = some v → (w.alloc (.cells #[x, y, z, u] t)).cell? ((⟨n, 0, none⟩ : Addr).add j) = some v := by
 subst h
 intro j v hv
 rw [add_at', cell_of_row _ w.heap.size _ _ _ (0, 0) (heap_alloc_new w _)]
 simpa using hv
theorem runsOf_length_le (l : List Cel) : (runsOf l).length ≤ l.length := runs_length l
theorem runsOf_count {l : List Cel} {rs : List (Nat × Cel)} {n : Nat} {c : Cel} (h : runsOf l = rs ++ [(n, c)]) : n ≤ l.length := by
 have hu := unrun_runs l
 rw [h, unrun_snoc] at hu
 have := congrArg List.length hu
 simp at this
 omega
def RunsPost (l : List Cel) (w : World) (e : Ending) (w' : World) : Prop := ∃ v, e = .returned v ∧ HasRuns w' w.heap.size v (runsOf l) ∧ Below w.heap.size w w'
theorem sq_take {w : World} {B n : Nat} {A : Option Addr} {l : List Cel} (h : Sq w B 3 n A (flat l)) {k : Nat} (hk : k ≤ n) : Sq w B 3 k A (flat (l.take k)) := by
 have hl : l.length = n := by have := h.len; rw [flat_length] at this; omega
 refine ⟨by rw [flat_length, List.length_take]; omega, fun h0 => ?_⟩
 obtain ⟨b, off, e, hb, hc⟩ := h.spot (by omega)
 refine ⟨b, off, e, hb, fun j u hu => hc j u ?_⟩
 have e2 : flat l = flat (l.take k) ++ flat (l.drop k) := by rw [← flat_append, List.take_append_drop]
 rw [e2, List.getElem?_append_left (by obtain ⟨h1, _⟩ := List.getElem?_eq_some_iff.1 hu; exact h1)]
 exact hu
theorem runs_walk (A : Option Addr) (n c : Nat) (l : List Cel) (w : World) (hq : Sq w w.heap.size 3 n A (flat l)) (hc : n ≤ c) (hn : n ≤ 1000000) :
  Calls Tryz.prog 113 #[.slice A n c] w fun e w' => RunsPost l w e w' := by
 obtain ⟨i0, hi, hz0, hz1, hz2⟩ := info_parts infoRun
 have hln : l.length = n := by have := hq.len; rw [flat_length] at this; omega
 have LN := Lib.hid hln
 have Q := Lib.hid hq
 clear hln hq
 go_enter Tryz.func113, Tryz.ntmps113
 go_wp2_with fail
 go_loopw [3, 8] (fun u i wr => ∃ k : Nat, i = .int .i64 k ∧ k ≤ n ∧ HasRuns wr w.heap.size u (runsOf (l.take k)) ∧ Below w.heap.size w wr) (fun _ i _ => n - (intOf i).toNat)
 case atStart => exact ⟨0, rfl, Nat.zero_le _, HasRuns.nothing _ _, Below.refl _ _⟩
 case round =>
  obtain ⟨k, rfl, hk, hv, hb⟩ := hrel
  have hsz := hb.size
  by_cases hlt : k < n
  ·obtain ⟨b, off, rfl, hbb, ⟨r, m, a⟩, hcc, q0, q1, q2⟩ := (Q.out.below hb).three hlt
   have hkl : k < l.length := by have := LN.out; omega
   have hcx := List.getElem?_eq_some_iff.1 hcc
   have TN := Lib.hid (show l.take (k + 1) = l.take k ++ [(r, m, a)] by rw [List.take_succ_eq_append_getElem hkl, hcx.2])
   have QK := Lib.hid (fun w' (h : Below w.heap.size w w') => (sq_take (Q.out.below h) hk).up h.size)
   have HV := Lib.hid hv
   have HB := Lib.hid hb
   obtain ⟨B, hB⟩ : ∃ B, lastB (l.take k) (r, m, a) = B := ⟨_, rfl⟩
   have FW := Lib.hid (fun w' (h : Below w.heap.size w w') => follows_walk (some ⟨b, off, none⟩) k c (l.take k) r m a w' (QK.out w' h) (by omega))
   rw [hB] at FW
   have BH := Lib.hid hB
   have KC : k ≤ c := by omega
   clear hv hb hcc hcx hB hbb
   cases B
   ·have RO := Lib.hid (runs_other (l := l.take k) (c := (r, m, a)) (by have := BH.out; unfold lastB at this; simpa using this))
    have RL := Lib.hid (Nat.le_trans (runsOf_length_le (l.take k)) (List.length_take_le _ _))
    go_wp2_with fail
    go_region_with (go_at_call 118; refine (FW.out _ (by first | exact HB.out.alloc hsz _ | exact (HB.out.alloc hsz _).drew)).mono ?_; rintro e w2 ⟨rfl, b2⟩)
    have b12 : Below wr.heap.size wr w2 := ((Below.refl wr.heap.size wr).alloc (Nat.le_refl _) (.cells #[.int .i32 r, .int .i64 m, .int .i64 a] 33)).drew.trans (b2.mono (B' := wr.heap.size) (by simp))
    have c0 : w2.cell? ⟨wr.heap.size, 0, none⟩ = some (.int .i32 r) := (b2.cell (p := ⟨wr.heap.size, 0, none⟩) (by simp)).trans (by simp)
    have c1 : w2.cell? ⟨wr.heap.size, 1, none⟩ = some (.int .i64 m) := (b2.cell (p := ⟨wr.heap.size, 1, none⟩) (by simp)).trans (by simp)
    have c2 : w2.cell? ⟨wr.heap.size, 2, none⟩ = some (.int .i64 a) := (b2.cell (p := ⟨wr.heap.size, 2, none⟩) (by simp)).trans (by simp)
    have V2 := Lib.hid (HV.out.below b12 HV.out.lt)
    have B2 := Lib.hid (HB.out.trans (b12.mono hsz))
    have hsz2 := B2.out.size
    clear b12 b2
    obtain ⟨q, hq⟩ : ∃ q, (runsOf (l.take k)).length = q := ⟨_, rfl⟩
    have QL := Lib.hid hq
    have hq6 : q ≤ 1000000 := by have := RL.out; omega
    clear hq
    go_wp2_with (
      at_builtin
      refine wpList_append_own_at _ rfl _ _ 130 rfl w.heap.size 134 i0 (.agg #[.int .i64 0, .int .i32 0, .int .i64 0, .int .i64 0]) 4 32 Tryz.underlying130 hi hz0 hz1 hz2 rfl (by decide) u3 (runsOf (l.take k)).length _ rfl (V2.out.alloc _) ⟨w2.heap.size, 0, none⟩ 1 1 [.int .i64 0, .int .i32 r, .int .i64 m, .int .i64 a] rfl rfl (run_new_at rfl _ _ _ _ _) (run_cells _ _ _ _) (fitr1 (by have := QL.out; omega)) (fitr2 (by have := QL.out; omega)) (by simp; omega) ?_
      intro v' w4 hown hgrow _ _
      have V4 : HasRuns w4 w.heap.size v' (runsOf (l.take k) ++ [(0, (r, m, a))]) := by
       unfold HasRuns
       rw [List.length_append, flatR_append]
       exact hown
      have B4 := Lib.hid ((B2.out.alloc hsz2 (.cells #[.int .i64 0, .int .i32 r, .int .i64 m, .int .i64 a] 134)).grown hgrow (by simp; omega) (fun j e => (World.ownsRow.lt V2.out j e).1))
      have V4H := Lib.hid V4
      obtain ⟨g, cap, hv'⟩ := ownsRow_succ hown
      obtain ⟨p, hp⟩ : ∃ p, (runsOf (l.take k)).length + 1 = p := ⟨_, rfl⟩
      rw [hp] at hv'
      subst hv'
      obtain ⟨t0, t1, t2, t3⟩ := HasRuns.last hp V4H.out
      have hp0 : 0 < p := by omega
      have hp1 : p ≤ 1000001 := by have := QL.out; omega
      have T2 := Lib.hid t2
      have B5 := Lib.hid (B4.out.setCell (p := ⟨g, (p - 1) * 4, none⟩) t3 (.int .i64 ((0 + 1 : Nat) : Int)))
      have t0' : w4.cell? ⟨g, (p - 1) * 4, none⟩ = some (.int .i64 0) := t0
      clear hown hgrow V4 t2 t0 t3 hp)
    go_roundw
    case rel => exact ⟨k + 1, by go_num, by omega, by rw [TN.out, RO.out]; exact T2.out, B5.out⟩
    case measure => simp [intOf]; omega
   ·obtain ⟨rs, cnt, r1, r2⟩ := runs_same (l := l.take k) (c := (r, m, a)) (by have := BH.out; unfold lastB at this; simpa using this)
    have R1 := Lib.hid r1
    have R2 := Lib.hid r2
    have RL := Lib.hid (Nat.le_trans (runsOf_length_le (l.take k)) (List.length_take_le _ _))
    have CL := runsOf_count r1
    have hcnt : cnt ≤ 1000000 := by have := List.length_take_le k l; omega
    obtain ⟨q, hq⟩ : ∃ q, rs.length = q := ⟨_, rfl⟩
    have QL := Lib.hid hq
    have hq6 : q ≤ 1000000 := by have h1 := RL.out; rw [R1.out, List.length_append] at h1; simp at h1; omega
    have V1 : HasRuns wr w.heap.size u3 (rs ++ [(cnt, (r, m, a))]) := by rw [← R1.out]; exact HV.out
    have V1' := V1
    unfold HasRuns at V1'
    rw [List.length_append] at V1'
    obtain ⟨g, cap, hu⟩ := ownsRow_succ V1'
    obtain ⟨p, hp⟩ : ∃ p, rs.length + 1 = p := ⟨_, rfl⟩
    have PL := Lib.hid hp
    have hp0 : 0 < p := by omega
    have hp1 : p ≤ 1000001 := by have := QL.out; omega
    rw [hp] at hu
    subst hu
    have V1H := Lib.hid V1
    have hgl := HV.out.lt g rfl
    clear hq r1 r2 CL V1 V1' hp
    go_wp2_with fail
    go_region_with (go_at_call 118; refine (FW.out _ (by first | exact HB.out.alloc hsz _ | exact (HB.out.alloc hsz _).drew)).mono ?_; rintro e w2 ⟨rfl, b2⟩)
    have b12 : Below wr.heap.size wr w2 := ((Below.refl wr.heap.size wr).alloc (Nat.le_refl _) (.cells #[.int .i32 r, .int .i64 m, .int .i64 a] 33)).drew.trans (b2.mono (B' := wr.heap.size) (by simp))
    have V2 := Lib.hid (V1H.out.below b12 V1H.out.lt)
    have B2 := Lib.hid (HB.out.trans (b12.mono hsz))
    clear b12 b2
    obtain ⟨t0, t1, t2, t3⟩ := HasRuns.last PL.out V2.out
    have T2 := Lib.hid t2
    have B5 := Lib.hid (B2.out.setCell (p := ⟨g, (p - 1) * 4, none⟩) t3 (.int .i64 ((cnt + 1 : Nat) : Int)))
    clear t2 t3
    go_wp2
    go_roundw
    case rel => exact ⟨k + 1, by go_num, by omega, by rw [TN.out, R2.out]; exact T2.out, B5.out⟩
    case measure => simp [intOf]; omega
  ·have E : l.take k = l := take_all _ (by have := LN.out; omega)
   rw [E] at hv
   have sh := hv
   obtain ⟨A3, c3, rfl⟩ := sh.shape
   have HV := Lib.hid hv
   have HB := Lib.hid hb
   clear hv hb E sh
   go_wp2
   go_ret
   exact ⟨_, rfl, HV.out, HB.out⟩
theorem Sq.four {w : World} {B n : Nat} {A : Option Addr} {l : List (Nat × Cel)} (h : Sq w B 4 n A (flatR l)) {i : Nat} (hi : i < n) :
    ∃ b off, A = some ⟨b, off, none⟩ ∧ b < B ∧ ∃ x, l[i]? = some x ∧ w.cell? ⟨b, off + i * 4, none⟩ = some (.int .i64 x.1) ∧ w.cell? ⟨b, off + i * 4 + 1, none⟩ = some (.int .i32 x.2.1) ∧ w.cell? ⟨b, off + i * 4 + 2, none⟩ = some (.int .i64 x.2.2.1) ∧ w.cell? ⟨b, off + i * 4 + 3, none⟩ = some (.int .i64 x.2.2.2) := by
  obtain ⟨b, off, e, hb, hc⟩ := h.spot (by omega)
  have hl : i < l.length := by have := h.len; rw [flatR_length] at this; omega
  have key : ∀ (l : List (Nat × Cel)) (i : Nat) (hl : i < l.length), (flatR l)[i * 4]? = some (.int .i64 (l[i]'hl).1) ∧ (flatR l)[i * 4 + 1]? = some (.int .i32 (l[i]'hl).2.1) ∧ (flatR l)[i * 4 + 2]? = some (.int .i64 (l[i]'hl).2.2.1) ∧ (flatR l)[i * 4 + 3]? = some (.int .i64 (l[i]'hl).2.2.2) := by
    intro l
    induction l with
    | nil => intro i hl; simp at hl
    | cons c l ih =>
      intro i hl
      cases i with
      | zero => exact ⟨rfl, rfl, rfl, rfl⟩
      | succ i =>
        have := ih i (by simpa using hl)
        have e : (i + 1) * 4 = i * 4 + 1 + 1 + 1 + 1 := by omega
        rw [e]
        simpa [flatR] using this
  obtain ⟨k0, k1, k2, k3⟩ := key l i hl
  exact ⟨b, off, e, hb, l[i], List.getElem?_eq_getElem hl, hc _ _ k0, hc _ _ k1, hc _ _ k2, hc _ _ k3⟩
def RunAt (w : World) (g : Nat) (x : Nat × Cel) : Prop := w.heap[g]? = some (.cells #[.int .i64 x.1, .int .i32 x.2.1, .int .i64 x.2.2.1, .int .i64 x.2.2.2] 134 (0, 0))
theorem RunAt.get {w : World} {g : Nat} {x : Nat × Cel} (h : RunAt w g x) (j : Nat) : w.cell? ⟨g, j, none⟩ = #[Value.int .i64 x.1, .int .i32 x.2.1, .int .i64 x.2.2.1, .int .i64 x.2.2.2][j]? := cell_of_row w g j _ _ (0, 0) h
theorem HasB.mono' {w : World} {base base' : Nat} {v : Value} {xs : List Int} (h : HasB w base v xs) (hb : base' ≤ base) : HasB w base' v xs := by
  refine ⟨h.1, ?_⟩
  rcases h.2 with e | ⟨g, cap, cur, rfl, e2, r⟩
  · exact .inl e
  · exact .inr ⟨g, cap, cur, rfl, Nat.le_trans hb e2, r⟩
theorem Grew.keeps {v v' : Value} {w w' : World} (h : Grew v v' w w') {g : Nat} (hg : g < w.heap.size) (hne : ∀ k, v.ownBlock = some k → k < g) : w'.heap[g]? = w.heap[g]? :=
  h.by'.block g hg (fun e => by have := hne g e.symm; omega)
theorem runBytes_len {x : Nat × Cel} (h : x.1 ≤ 1000000) (hs : Small x.2) : (runBytes x).length ≤ 40 := by
  obtain ⟨⟨r0, r1⟩, ⟨w0, w1⟩, a0, a1⟩ := hs
  unfold runBytes
  simp only [List.length_append]
  have h1 := uintL_len (n := x.1) (by omega)
  have h2 := uintL_len (n := x.2.1.toNat) (by omega)
  have h3 := uintL_len (n := x.2.2.1.toNat) (by omega)
  have h4 := uintL_len (n := x.2.2.2.toNat) (by omega)
  omega
theorem flatRun_len : ∀ (rs : List (Nat × Cel)), (∀ x ∈ rs, x.1 ≤ 1000000 ∧ Small x.2) → (rs.flatMap runBytes).length ≤ 40 * rs.length
  | [], _ => by simp
  | x :: rs, h => by
    have h1 := runBytes_len (h x (by simp)).1 (h x (by simp)).2
    have h2 := flatRun_len rs (fun y hy => h y (by simp [hy]))
    simp only [List.flatMap_cons, List.length_append, List.length_cons]
    omega
theorem runs_small {l : List Cel} (hl : l.length ≤ 300) (hs : ∀ c ∈ l, Small c) : ∀ x ∈ runsOf l, x.1 ≤ 300 ∧ Small x.2 := by
  intro x hx
  have ha := runsOf_alt l
  have hu := unrun_runs l
  refine ⟨?_, hs _ (by rw [← hu]; exact mem_unrun ha hx)⟩
  have key : ∀ (rs : List (Nat × Cel)), x ∈ rs → x.1 ≤ (unrun rs).length := by
    intro rs
    induction rs with
    | nil => intro h; cases h
    | cons y rs ih =>
      intro h
      rw [unrun_cons, List.length_append, List.length_replicate]
      rcases List.mem_cons.1 h with rfl | h
      · omega
      · have := ih h; omega
  have := key _ hx
  rw [hu] at this
  omega
def putV (wrap : Bool) (l : List Cel) : List Int := if mayL l then putL wrap l else []
def PutPost (wrap : Bool) (l : List Cel) (w : World) (e : Ending) (w' : World) : Prop := ∃ v, e = .returned (.tuple #[v, .bool (mayL l)]) ∧ HasB w' w.heap.size v (putV wrap l) ∧ Below w.heap.size w w'
theorem putL_len {wrap : Bool} {l : List Cel} (hl : l.length ≤ 300) (hs : ∀ c ∈ l, Small c) : (putL wrap l).length ≤ 12010 := by
  have h1 := flatRun_len (runsOf l) (fun x hx => ⟨by have := (runs_small hl hs x hx).1; omega, (runs_small hl hs x hx).2⟩)
  have h2 := runs_length l
  have h3 : headOf wrap (runsOf l).length ≤ 601 := by unfold headOf; split <;> omega
  have h4 := uintL_len (n := headOf wrap (runsOf l).length) (by omega)
  unfold putL
  rw [List.length_append]
  omega
theorem put_walk (A : Option Addr) (n c : Nat) (wrap : Bool) (l : List Cel) (w : World) (hs : Spans w) (hl : ∀ c ∈ l, -2147483648 ≤ c.1 ∧ c.1 ≤ 2147483647) (hq : Sq w w.heap.size 3 n A (flat l)) (hc : n ≤ c) (hn : n ≤ 1000000) :
    Calls Tryz.prog 88 #[rowV A n c wrap] w fun e w' => PutPost wrap l w e w' := by
  have hln : l.length = n := by have := hq.len; rw [flat_length] at this; omega
  have LN := Lib.hid hln
  have w1b : Below w.heap.size w (w.alloc (.cells #[.slice A n c, .bool wrap] 24)) := (Below.refl _ _).alloc (Nat.le_refl _) _
  have MW := Lib.hid (packMay_walk A n c wrap l (w.alloc (.cells #[.slice A n c, .bool wrap] 24)) (hs.below w1b hs.size) hl ((hq.below w1b).up (by simp)) hn)
  have HL := Lib.hid hl
  have Q := Lib.hid hq
  have W1B := Lib.hid w1b
  obtain ⟨B, hB⟩ : ∃ B, mayL l = B := ⟨_, rfl⟩
  rw [hB] at MW
  have BH := Lib.hid hB
  clear hln hs hl hq w1b hB
  cases B
  · go_enter Tryz.func88, Tryz.ntmps88
    go_wp2_with fail
    refine MW.out.mono ?_
    rintro e w2 ⟨rfl, b2⟩
    have B2 := Lib.hid (W1B.out.trans (b2.mono (by simp)))
    clear b2
    go_wp2
    go_ret2
    exact ⟨.slice none 0 0, by rw [BH.out]; rfl, by unfold putV; rw [BH.out]; exact HasB.nothing _ _, B2.out⟩
  · have SM := Lib.hid (mayL_small (fun x hx => (HL.out x hx).2) BH.out)
    have RS := Lib.hid (runs_small SM.out.1 SM.out.2)
    have hn3 : n ≤ 300 := by have := SM.out.1; have := LN.out; omega
    go_enter Tryz.func88, Tryz.ntmps88
    go_wp2_with fail
    refine MW.out.mono ?_
    rintro e w2 ⟨rfl, b2⟩
    have c0 : w2.cell? ⟨w.heap.size, 0, none⟩ = some (.slice A n c) := (b2.cell (p := ⟨w.heap.size, 0, none⟩) (by simp)).trans (by simp)
    have c1 : w2.cell? ⟨w.heap.size, 1, none⟩ = some (.bool wrap) := (b2.cell (p := ⟨w.heap.size, 1, none⟩) (by simp)).trans (by simp)
    have hz2 : w.heap.size < w2.heap.size := by have := b2.size; simp at this; omega
    have B2 := Lib.hid (W1B.out.trans (b2.mono (by simp)))
    clear b2
    go_wp2_with fail
    refine (runs_walk A n c l w2 ((Q.out.below B2.out).up B2.out.size) hc hn).mono ?_
    rintro e w3 ⟨v3, rfl, h3, b3⟩
    have d1 : w3.cell? ⟨w.heap.size, 1, none⟩ = some (.bool wrap) := (b3.cell (p := ⟨w.heap.size, 1, none⟩) hz2).trans c1
    obtain ⟨p, hp⟩ : ∃ p, (runsOf l).length = p := ⟨_, rfl⟩
    have PL := Lib.hid hp
    have hp3 : p ≤ 300 := by have := runs_length l; have := SM.out.1; omega
    obtain ⟨A3, c3, e3⟩ := h3.shape
    rw [hp] at e3
    subst e3
    have R3 := Lib.hid h3
    have B3 := Lib.hid (B2.out.trans (b3.mono (by omega)))
    have hz3 := b3.size
    clear b3 h3 hp c0 c1
    have HE : Hid (headOf wrap p = 2 * p + if wrap then 1 else 0) := rfl
    obtain ⟨hd, hhd⟩ : ∃ hd, headOf wrap p = hd := ⟨_, rfl⟩
    have HH := Lib.hid hhd
    have hd6 : hd ≤ 601 := by have := HE.out; rw [HH.out] at this; split at this <;> omega
    clear hhd
    have AU := Lib.hid (appendUint_walk hd (by omega) [] (by simp) w3.heap.size (.slice none 0 0) w3 (HasB.nothing _ _) (Nat.le_refl _))
    have Q3 := Lib.hid (show Sq w3 w3.heap.size 4 p A3 (flatR (runsOf l)) by have h := R3.out; unfold HasRuns at h; rw [PL.out] at h; exact Sq.own h)
    have TL := Lib.hid (show uintL hd ++ (runsOf l).flatMap runBytes = putV wrap l by unfold putV putL; rw [BH.out, PL.out, HH.out]; rfl)
    have LB := Lib.hid (fun (k : Nat) (hk : k ≤ p) => (show (uintL hd ++ ((runsOf l).take k).flatMap runBytes).length ≤ 20000 by
      have h1 := flatRun_len ((runsOf l).take k) (fun x hx => ⟨by have := (RS.out x (List.mem_of_mem_take hx)).1; omega, (RS.out x (List.mem_of_mem_take hx)).2⟩)
      have h2 := List.length_take_le k (runsOf l)
      have h4 := uintL_len (n := hd) (by omega)
      rw [List.length_append]
      omega))
    cases wrap
    all_goals
      first
        | (have e2 : (2 : Int) * (p : Int) = (hd : Int) := by have := HE.out; rw [HH.out] at this; simp at this; omega)
        | (obtain ⟨h0, hh0⟩ : ∃ h0 : Nat, 2 * p = h0 := ⟨_, rfl⟩
           have e2 : (2 : Int) * (p : Int) = (h0 : Int) := by omega
           have e3 : (h0 : Int) + 1 = (hd : Int) := by have := HE.out; rw [HH.out] at this; simp at this; omega
           have hh6 : h0 ≤ 600 := by omega
           clear hh0)
      go_wp2_with fail
      refine AU.out.mono ?_
      rintro e w4 ⟨v4, rfl, h4, g4⟩
      have H4 := Lib.hid h4
      have B4 := Lib.hid (g4.below (Nat.le_refl _) (fun k e => by cases e))
      clear h4 g4 d1
      clear e2
      try clear e3
      go_wp2_with fail
      go_loopw [6, 27] (fun u i wr => ∃ k : Nat, i = .int .i64 k ∧ k ≤ p ∧ HasB wr w3.heap.size u (uintL hd ++ ((runsOf l).take k).flatMap runBytes) ∧ Below w3.heap.size w3 wr) (fun _ i _ => p - (intOf i).toNat)
      case atStart => exact ⟨0, rfl, Nat.zero_le _, by simpa using H4.out, B4.out⟩
      case round =>
        obtain ⟨k, rfl, hk, hv, hb⟩ := hrel
        have hsz := hb.size
        by_cases hlt : k < p
        · obtain ⟨b, off, rfl, hbb, ⟨cnt, r, m, a⟩, hcc, q0, q1, q2, q3⟩ := (Q3.out.below hb).four hlt
          have hx := RS.out _ (List.mem_of_getElem? hcc)
          obtain ⟨hx1, ⟨r0, r1⟩, ⟨m0, m1⟩, a0, a1⟩ := hx
          simp only at hx1 r0 r1 m0 m1 a0 a1 q0 q1 q2 q3
          obtain ⟨r, rfl⟩ := Int.eq_ofNat_of_zero_le r0
          obtain ⟨m, rfl⟩ := Int.eq_ofNat_of_zero_le m0
          obtain ⟨a, rfl⟩ := Int.eq_ofNat_of_zero_le a0
          have TN := Lib.hid (show ((runsOf l).take k).flatMap runBytes ++ (uintL cnt ++ (uintL r ++ (uintL m ++ uintL a))) = ((runsOf l).take (k + 1)).flatMap runBytes by
            rw [take_one hcc, List.flatMap_append]
            simp [runBytes])
          have L0 := LB.out k (by omega)
          have L1 := uintL_len (n := cnt) (by omega)
          have L2 := uintL_len (n := r) (by omega)
          have L3 := uintL_len (n := m) (by omega)
          obtain ⟨got, hgot⟩ : ∃ got, uintL hd ++ ((runsOf l).take k).flatMap runBytes = got := ⟨_, rfl⟩
          rw [hgot] at hv L0
          have GH := Lib.hid hgot
          have HV := Lib.hid hv
          have HB := Lib.hid hb
          have hun := hv.lt
          have R5 := Lib.hid (show RunAt (wr.alloc (.cells #[.int .i64 cnt, .int .i32 r, .int .i64 m, .int .i64 a] 134)) wr.heap.size (cnt, r, m, a) from heap_alloc_new wr _)
          have HUN := Lib.hid hun
          have b5 : Below w3.heap.size w3 (wr.alloc (.cells #[.int .i64 cnt, .int .i32 r, .int .i64 m, .int .i64 a] 134)) := hb.alloc hsz _
          have B5 := Lib.hid b5
          have U5 := Lib.hid (show HasB (wr.alloc (.cells #[.int .i64 cnt, .int .i32 r, .int .i64 m, .int .i64 a] 134)) w3.heap.size u6 got from World.ownsRow.alloc hv _)
          have hz5 : (wr.alloc (.cells #[.int .i64 cnt, .int .i32 r, .int .i64 m, .int .i64 a] 134)).heap.size = wr.heap.size + 1 := by simp
          have Z5 := Lib.hid hz5
          clear hcc hv hb hgot hun b5 hz5 hbb
          go_wp2_with fail
          refine (appendUint_walk cnt (by omega) got (by omega) w3.heap.size u6 _ U5.out (by rw [Z5.out]; omega)).mono ?_
          rintro e w6 ⟨v6, rfl, h6, g6⟩
          have H6 := Lib.hid h6
          have G6 := Lib.hid g6
          have R6 := Lib.hid (show RunAt w6 wr.heap.size (cnt, r, m, a) from (g6.keeps (by rw [Z5.out]; omega) HUN.out).trans R5.out)
          have k1 : w6.cell? ⟨wr.heap.size, 1, none⟩ = some (.int .i32 r) := R6.out.get 1
          have S6 := Lib.hid (Nat.le_trans (by rw [Z5.out]; omega) g6.by'.size : w3.heap.size ≤ w6.heap.size)
          clear h6 g6
          go_wp2_with fail
          refine (appendUint_walk r (by omega) _ (by rw [List.length_append]; omega) w3.heap.size v6 w6 H6.out S6.out).mono ?_
          rintro e w7 ⟨v7, rfl, h7, g7⟩
          have g57 := G6.out.trans g7
          have H7 := Lib.hid h7
          have G7 := Lib.hid g57
          have R7 := Lib.hid (show RunAt w7 wr.heap.size (cnt, r, m, a) from (g57.keeps (by rw [Z5.out]; omega) HUN.out).trans R5.out)
          have k2 : w7.cell? ⟨wr.heap.size, 2, none⟩ = some (.int .i64 m) := R7.out.get 2
          have S7 := Lib.hid (Nat.le_trans S6.out g7.by'.size)
          clear h7 g7 g57 k1
          go_wp2_with fail
          refine (appendUint_walk m (by omega) _ (by rw [List.length_append, List.length_append]; omega) w3.heap.size v7 w7 H7.out S7.out).mono ?_
          rintro e w8 ⟨v8, rfl, h8, g8⟩
          have g58 := G7.out.trans g8
          have H8 := Lib.hid h8
          have G8 := Lib.hid g58
          have R8 := Lib.hid (show RunAt w8 wr.heap.size (cnt, r, m, a) from (g58.keeps (by rw [Z5.out]; omega) HUN.out).trans R5.out)
          have k3 : w8.cell? ⟨wr.heap.size, 3, none⟩ = some (.int .i64 a) := R8.out.get 3
          have S8 := Lib.hid (Nat.le_trans S7.out g8.by'.size)
          clear h8 g8 g58 k2
          go_wp2_with fail
          refine (appendUint_walk a (by omega) _ (by rw [List.length_append, List.length_append, List.length_append]; omega) w3.heap.size v8 w8 H8.out S8.out).mono ?_
          rintro e w9 ⟨v9, rfl, h9, g9⟩
          have G9 := Lib.hid (G8.out.trans g9)
          have H9 := Lib.hid (show HasB w9 w3.heap.size v9 (uintL hd ++ ((runsOf l).take (k + 1)).flatMap runBytes) by
            rw [← TN.out, ← List.append_assoc, GH.out, ← List.append_assoc, ← List.append_assoc, ← List.append_assoc]
            exact h9)
          have B9 := Lib.hid (B5.out.trans (G9.out.below (B := w3.heap.size) (by rw [Z5.out]; omega) (fun j e => (World.ownsRow.lt U5.out j e).1)))
          clear h9 g9 k3
          go_wp2
          go_roundw
          case rel => exact ⟨k + 1, by go_num, by omega, H9.out, B9.out⟩
          case measure => simp [intOf]; omega
        · have E : (runsOf l).take k = runsOf l := take_all _ (by have := PL.out; omega)
          rw [E, TL.out] at hv
          obtain ⟨A6, c6, rfl⟩ := hv.shape
          have HV := Lib.hid hv
          have HB := Lib.hid (B3.out.trans (hb.mono (Nat.le_trans B2.out.size hz3)))
          clear hv hb E
          go_wp2
          go_ret2
          exact ⟨_, by rw [BH.out]; rfl, HV.out.mono' (by omega), HB.out⟩
theorem wrap_u64 {x : Nat} (h : x < 2 ^ 64) : IntKind.u64.wrap (x : Int) = (x : Int) := by
 have e : IntKind.u64.wrap (x : Int) = (x : Int) % 18446744073709551616 := by simp [IntKind.wrap, IntKind.signed, IntKind.bits]
 rw [e]
 omega
theorem bits_nat (op : BinOp) (x y : Int) : ∃ a : Nat, bits op .u64 x y = (a : Int) := by
 have e : ∀ z : Int, 0 ≤ IntKind.u64.wrap z := fun z => by
  have e : IntKind.u64.wrap z = z % 18446744073709551616 := by simp [IntKind.wrap, IntKind.signed, IntKind.bits]
  rw [e]; omega
 have h : 0 ≤ bits op .u64 x y := by unfold bits; split <;> first | exact e _ | (simp; done)
 exact ⟨(bits op .u64 x y).toNat, by omega⟩
theorem andNot128 {x : Int} (h0 : 0 ≤ x) (h1 : x ≤ 255) : bits .andNot .u8 x 128 = ((x.toNat % 128 : Nat) : Int) := by
 have key : ∀ z : Fin 256, bits .andNot .u8 (z.val : Int) 128 = ((z.val % 128 : Nat) : Int) := by decide +kernel
 obtain ⟨n, rfl⟩ := Int.eq_ofNat_of_zero_le h0
 exact key ⟨n, by omega⟩
theorem and128 {x : Int} (h0 : 0 ≤ x) (h1 : x ≤ 255) : bits .and .u8 x 128 = if 128 ≤ x then 128 else 0 := by
 have key : ∀ z : Fin 256, bits .and .u8 (z.val : Int) 128 = if 128 ≤ (z.val : Int) then 128 else 0 := by decide +kernel
 obtain ⟨n, rfl⟩ := Int.eq_ofNat_of_zero_le h0
 exact key ⟨n, by omega⟩
theorem or_shift {acc k y : Nat} (h1 : acc < 128 ^ k) (h2 : acc + y * 128 ^ k < 2 ^ 64) (hy : y < 128) : bits .or .u64 (acc : Int) (IntKind.u64.wrap (IntKind.u64.wrap (y : Int) * 2 ^ (7 * k))) = ((acc + y * 128 ^ k : Nat) : Int) := by
 have ep : (128 : Nat) ^ k = 2 ^ (7 * k) := by rw [show (128 : Nat) = 2 ^ 7 by decide, ← Nat.pow_mul]
 rw [wrap_u64 (show y < 2 ^ 64 by omega)]
 have e2 : (y : Int) * 2 ^ (7 * k) = ((y * 128 ^ k : Nat) : Int) := by rw [ep]; simp
 rw [e2, wrap_u64 (show y * 128 ^ k < 2 ^ 64 by omega)]
 have e3 : bits .or .u64 (acc : Int) ((y * 128 ^ k : Nat) : Int) = IntKind.u64.wrap ((BitVec.ofInt 64 (acc : Int) ||| BitVec.ofInt 64 ((y * 128 ^ k : Nat) : Int)).toNat : Int) := rfl
 rw [e3, BitVec.toNat_or]
 have t1 : (BitVec.ofInt 64 (acc : Int)).toNat = acc := by simp; omega
 have t2 : (BitVec.ofInt 64 ((y * 128 ^ k : Nat) : Int)).toNat = y * 128 ^ k := by
  have : y * 128 ^ k < 2 ^ 64 := by omega
  rw [BitVec.ofInt_natCast, BitVec.toNat_ofNat, Nat.mod_eq_of_lt this]
 rw [t1, t2]
 have e4 : acc ||| y * 128 ^ k = acc + y * 128 ^ k := by
  rw [Nat.or_comm, ep, Nat.mul_comm y, ← Nat.two_pow_add_eq_or_of_lt (by rw [← ep]; exact h1), Nat.add_comm]
 rw [e4]
 exact wrap_u64 h2
theorem or_shift' {acc k y : Nat} (h1 : acc < 128 ^ k) (h2 : acc + y % 128 * 128 ^ k < 2 ^ 64) : bits .or .u64 (acc : Int) (IntKind.u64.wrap ((y : Int) % 128 * 2 ^ (7 * k))) = ((acc + y % 128 * 128 ^ k : Nat) : Int) := by
 rw [← or_shift (y := y % 128) h1 h2 (by omega), wrap_u64 (show y % 128 < 2 ^ 64 by omega), show ((y % 128 : Nat) : Int) = (y : Int) % 128 by omega]
theorem Sq.byte_at {w : World} {B n : Nat} {A : Option Addr} {l : List Int} (h : Sq w B 1 n A (l.map (Value.int .u8))) {i : Nat} (hi : i < n) : ∃ b off, A = some ⟨b, off, none⟩ ∧ b < B ∧ w.cell? ⟨b, off + i, none⟩ = some (.int .u8 (nth l i)) := h.int_at hi
theorem go_more {l : List Int} {k acc : Nat} {y : Nat} (hk : k < l.length) (hx : nth l k = (y : Int)) (h10 : k < 10) (h128 : 128 ≤ y) (g : getGo k acc (l.drop k) = getL l ∧ acc < 128 ^ k) :
  (k + 1 < 10 → getGo (k + 1) (acc + y % 128 * 128 ^ k) (l.drop (k + 1)) = getL l ∧ acc + y % 128 * 128 ^ k < 128 ^ (k + 1)) ∧ (k + 1 = 10 → getL l = (0, 0)) := by
 have hd : l.drop k = (y : Int) :: l.drop (k + 1) := by rw [List.drop_eq_getElem_cons hk, ← nth_get hk, hx]
 have e : getGo (k + 1) (acc + y % 128 * 128 ^ k) (l.drop (k + 1)) = getL l := by
  rw [← g.1, hd]
  conv => rhs; unfold getGo
  rw [if_neg (by omega), if_pos (by omega), Int.toNat_natCast]
 have hp : (128 : Nat) ^ (k + 1) = 128 * 128 ^ k := by rw [Nat.pow_succ, Nat.mul_comm]
 refine ⟨fun _ => ⟨e, ?_⟩, fun h => ?_⟩
 ·have := Nat.mul_le_mul_right (128 ^ k) (show y % 128 ≤ 127 by omega)
  have := g.2
  omega
 ·rw [← e, h]
  cases l.drop 10 with
  | nil => rfl
  | cons a b => unfold getGo; rw [if_pos (by omega)]
theorem go_last {l : List Int} {k acc : Nat} {y : Nat} (hk : k < l.length) (hx : nth l k = (y : Int)) (h10 : k < 10) (h128 : y < 128) (g : getGo k acc (l.drop k) = getL l ∧ acc < 128 ^ k) :
  ((0 < k ∧ y = 0 ∨ k = 9 ∧ 1 < y) → getL l = (0, 0)) ∧ (¬ (0 < k ∧ y = 0 ∨ k = 9 ∧ 1 < y) → getL l = (acc + y * 128 ^ k, k + 1) ∧ acc + y * 128 ^ k < 2 ^ 64) := by
 have hd : l.drop k = (y : Int) :: l.drop (k + 1) := by rw [List.drop_eq_getElem_cons hk, ← nth_get hk, hx]
 have e := g.1
 rw [hd] at e
 unfold getGo at e
 rw [if_neg (by omega), if_neg (by omega), Int.toNat_natCast] at e
 refine ⟨fun h => ?_, fun h => ?_⟩
 ·rw [if_pos (by omega)] at e; exact e.symm
 ·rw [if_neg (by omega)] at e
  refine ⟨e.symm, ?_⟩
  have h9 : (128 : Nat) ^ 9 = 9223372036854775808 := by decide
  have h8 : (128 : Nat) ^ 8 = 72057594037927936 := by decide
  have h64 : (2 : Nat) ^ 64 = 18446744073709551616 := by decide
  by_cases hk9 : k = 9
  ·subst hk9
   have := g.2
   have := Nat.mul_le_mul_right (128 ^ 9) (show y ≤ 1 by omega)
   omega
  ·have hp : (128 : Nat) ^ k ≤ 128 ^ 8 := Nat.pow_le_pow_right (by omega) (by omega)
   have := Nat.mul_le_mul (show y ≤ 127 by omega) hp
   have := g.2
   omega
theorem go_end {l : List Int} {k acc : Nat} (hk : k = l.length ∨ k = 10) (hk10 : k ≤ 10) (G1 : k < 10 → getGo k acc (l.drop k) = getL l ∧ acc < 128 ^ k) (G2 : k = 10 → getL l = (0, 0)) : getL l = (0, 0) := by
 by_cases h : k = 10
 ·exact G2 h
 ·have e : l.drop k = [] := List.drop_eq_nil_of_le (by omega)
  have g := G1 (by omega)
  rw [e] at g
  exact g.1.symm
theorem ret_two {p : Nat × Nat} {a b : Nat} (h : p = (a, b)) : Ending.returned (.tuple #[.int .u64 a, .int .i64 b]) = .returned (.tuple #[.int .u64 p.1, .int .i64 p.2]) := by rw [h]
theorem ret_two' {p : Nat × Nat} {a : Nat} {b : Int} {k : Nat} (h : p = (a, k)) (hb : b = (k : Int)) : Ending.returned (.tuple #[.int .u64 a, .int .i64 b]) = .returned (.tuple #[.int .u64 p.1, .int .i64 p.2]) := by rw [h, hb]
theorem getUint_walk (A : Option Addr) (n c : Nat) (l : List Int) (w : World) {B : Nat} (hq : Sq w B 1 n A (l.map (Value.int .u8))) (hl : ∀ x ∈ l, 0 ≤ x ∧ x ≤ 255) (hn : n ≤ 1000000) :
  Calls Tryz.prog 90 #[.slice A n c] w fun e w' => e = .returned (.tuple #[.int .u64 (getL l).1, .int .i64 (getL l).2]) ∧ w = w' := by
 have hln := hq.size_ints
 have LN := Lib.hid hln
 have Q := Lib.hid hq
 have HL := Lib.hid hl
 clear hln hq hl
 by_cases h10 : n ≤ 10
 ·go_enter Tryz.func90, Tryz.ntmps90
  go_wp2_with fail
  go_loop [4, 11] (fun a i => ∃ (k acc : Nat), a = .int .u64 acc ∧ i = .int .i64 k ∧ k ≤ n ∧ Hid (k < 10 → getGo k acc (l.drop k) = getL l ∧ acc < 128 ^ k) ∧ Hid (k = 10 → getL l = (0, 0))) (fun _ i => n - (intOf i).toNat)
  case atStart => exact ⟨0, 0, rfl, rfl, Nat.zero_le _, Lib.hid (fun _ => ⟨rfl, by simp⟩), Lib.hid (fun h => by omega)⟩
  case round =>
   obtain ⟨k, acc, rfl, rfl, hk, G1, G2⟩ := hrel
   by_cases hlt : k < n
   ·obtain ⟨b, off, rfl, _, hc⟩ := Q.out.byte_at (show k < n by omega)
    have hkl : k < l.length := by have := LN.out; omega
    have hx := HL.out (nth l k) (by rw [nth_get hkl]; exact List.getElem_mem _)
    obtain ⟨y, hy⟩ := Int.eq_ofNat_of_zero_le hx.1
    have G := Lib.hid (G1.out (by omega))
    have AN := andNot128 hx.1 hx.2
    have AD := and128 hx.1 hx.2
    rw [hy] at hc AN AD hx
    rw [Int.toNat_natCast] at AN
    have HY := Lib.hid hy
    have hy255 : y ≤ 255 := by omega
    clear hy hx
    obtain ⟨a2, ha2⟩ := bits_nat .or (acc : Int) (IntKind.u64.wrap ((y : Int) % 128 * 2 ^ (7 * k)))
    have A2 := Lib.hid ha2
    by_cases h128 : 128 ≤ y
    ·rw [if_pos (by omega)] at AD
     have GM := Lib.hid (go_more hkl HY.out (by omega) h128 G.out)
     go_wp2
     go_round
     case rel =>
      refine ⟨k + 1, a2, rfl, by go_num, by omega, Lib.hid fun h => ?_, Lib.hid GM.out.2⟩
      have g := GM.out.1 h
      have e : (a2 : Int) = ((acc + y % 128 * 128 ^ k : Nat) : Int) := A2.out.symm.trans (or_shift' G.out.2 (by have h9 : (128 : Nat) ^ (k + 1) ≤ 128 ^ 9 := Nat.pow_le_pow_right (by omega) (by omega); have h99 : (128 : Nat) ^ 9 = 9223372036854775808 := (by decide); have h64 : (2 : Nat) ^ 64 = 18446744073709551616 := (by decide); have := g.2; omega))
      have e2 : a2 = acc + y % 128 * 128 ^ k := by omega
      rw [e2]
      exact g
     case measure => simp [intOf]; omega
    ·rw [if_neg (by omega)] at AD
     have GL := Lib.hid (go_last hkl HY.out (by omega) (by omega) G.out)
     have hym : y % 128 = y := Nat.mod_eq_of_lt (by omega)
     have YM := Lib.hid hym
     clear hym
     rcases Nat.eq_zero_or_pos k with k0 | k0
     ·have KH := Lib.hid k0
      have YH := Lib.hid hy255
      have d1 : ¬ 0 < k := by omega
      have d2 : ((k : Int) == 9) = false := by simp; omega
      clear k0
      have GY := GL.out.2 (by have := KH.out; have := YH.out; omega)
      have e : (a2 : Int) = ((acc + y % 128 * 128 ^ k : Nat) : Int) := A2.out.symm.trans (or_shift' G.out.2 (by rw [YM.out]; exact GY.2))
      have e2 : a2 = acc + y * 128 ^ k := by rw [YM.out] at e; omega
      have GZ := Lib.hid (show getL l = (a2, k + 1) by rw [e2]; exact GY.1)
      clear GY e e2
      go_wp2
      go_ret2
      exact ⟨ret_two' GZ.out (by omega), rfl⟩
     ·by_cases y0 : y = 0
      ·have YH := Lib.hid y0
       have d1 : ((y : Int) == 0) = true := by simp; omega
       by_cases k9 : k = 9
       ·have KH := Lib.hid k9
        have KP := Lib.hid k0
        have d2 : ((k : Int) == 9) = true := by simp; omega
        have d3 : ¬ 1 < y := by omega
        clear y0 k9
        go_wp2
        go_ret2
        exact ⟨ret_two (a := 0) (b := 0) (GL.out.1 (by have := KH.out; have := YH.out; omega)), rfl⟩
       ·have KH := Lib.hid k9
        have d2 : ((k : Int) == 9) = false := by simp; omega
        clear y0 k9
        go_wp2
        go_ret2
        exact ⟨ret_two (a := 0) (b := 0) (GL.out.1 (by have := KH.out; have := YH.out; omega)), rfl⟩
      ·have d1 : ((y : Int) == 0) = false := by simp; omega
       by_cases k9 : k = 9
       ·have KH := Lib.hid k9
        have d2 : ((k : Int) == 9) = true := by simp; omega
        by_cases y1 : 1 < y
        ·have YH := Lib.hid y1
         clear k9 y0
         go_wp2
         go_ret2
         exact ⟨ret_two (a := 0) (b := 0) (GL.out.1 (by have := KH.out; have := YH.out; omega)), rfl⟩
        ·have YH := Lib.hid (And.intro y0 y1)
         have d3 : ¬ 1 < y := by omega
         clear k9 y0
         have GY := GL.out.2 (by have := KH.out; have := YH.out; omega)
         have e : (a2 : Int) = ((acc + y % 128 * 128 ^ k : Nat) : Int) := A2.out.symm.trans (or_shift' G.out.2 (by rw [YM.out]; exact GY.2))
         have e2 : a2 = acc + y * 128 ^ k := by rw [YM.out] at e; omega
         have GZ := Lib.hid (show getL l = (a2, k + 1) by rw [e2]; exact GY.1)
         clear GY e e2
         go_wp2
         go_ret2
         exact ⟨ret_two' GZ.out (by omega), rfl⟩
       ·have KH := Lib.hid k9
        have YH := Lib.hid y0
        have d2 : ((k : Int) == 9) = false := by simp; omega
        clear k9 y0
        have GY := GL.out.2 (by have := KH.out; have := YH.out; omega)
        have e : (a2 : Int) = ((acc + y % 128 * 128 ^ k : Nat) : Int) := A2.out.symm.trans (or_shift' G.out.2 (by rw [YM.out]; exact GY.2))
        have e2 : a2 = acc + y * 128 ^ k := by rw [YM.out] at e; omega
        have GZ := Lib.hid (show getL l = (a2, k + 1) by rw [e2]; exact GY.1)
        clear GY e e2
        go_wp2
        go_ret2
        exact ⟨ret_two' GZ.out (by omega), rfl⟩
   ·have hkm : k = n := by omega
    have E := Lib.hid (go_end (l := l) (k := k) (acc := acc) (by have := LN.out; omega) (by omega) G1.out G2.out)
    clear hkm
    go_wp2
    go_ret2
    exact ⟨ret_two (a := 0) (b := 0) E.out, rfl⟩
 ·go_enter Tryz.func90, Tryz.ntmps90
  go_wp2_with fail
  go_loop [4, 11] (fun a i => ∃ (k acc : Nat), a = .int .u64 acc ∧ i = .int .i64 k ∧ k ≤ 10 ∧ Hid (k < 10 → getGo k acc (l.drop k) = getL l ∧ acc < 128 ^ k) ∧ Hid (k = 10 → getL l = (0, 0))) (fun _ i => 10 - (intOf i).toNat)
  case atStart => exact ⟨0, 0, rfl, rfl, Nat.zero_le _, Lib.hid (fun _ => ⟨rfl, by simp⟩), Lib.hid (fun h => by omega)⟩
  case round =>
   obtain ⟨k, acc, rfl, rfl, hk, G1, G2⟩ := hrel
   by_cases hlt : k < 10
   ·obtain ⟨b, off, rfl, _, hc⟩ := Q.out.byte_at (show k < n by omega)
    have hkl : k < l.length := by have := LN.out; omega
    have hx := HL.out (nth l k) (by rw [nth_get hkl]; exact List.getElem_mem _)
    obtain ⟨y, hy⟩ := Int.eq_ofNat_of_zero_le hx.1
    have G := Lib.hid (G1.out (by omega))
    have AN := andNot128 hx.1 hx.2
    have AD := and128 hx.1 hx.2
    rw [hy] at hc AN AD hx
    rw [Int.toNat_natCast] at AN
    have HY := Lib.hid hy
    have hy255 : y ≤ 255 := by omega
    clear hy hx
    obtain ⟨a2, ha2⟩ := bits_nat .or (acc : Int) (IntKind.u64.wrap ((y : Int) % 128 * 2 ^ (7 * k)))
    have A2 := Lib.hid ha2
    by_cases h128 : 128 ≤ y
    ·rw [if_pos (by omega)] at AD
     have GM := Lib.hid (go_more hkl HY.out (by omega) h128 G.out)
     go_wp2
     go_round
     case rel =>
      refine ⟨k + 1, a2, rfl, by go_num, by omega, Lib.hid fun h => ?_, Lib.hid GM.out.2⟩
      have g := GM.out.1 h
      have e : (a2 : Int) = ((acc + y % 128 * 128 ^ k : Nat) : Int) := A2.out.symm.trans (or_shift' G.out.2 (by have h9 : (128 : Nat) ^ (k + 1) ≤ 128 ^ 9 := Nat.pow_le_pow_right (by omega) (by omega); have h99 : (128 : Nat) ^ 9 = 9223372036854775808 := (by decide); have h64 : (2 : Nat) ^ 64 = 18446744073709551616 := (by decide); have := g.2; omega))
      have e2 : a2 = acc + y % 128 * 128 ^ k := by omega
      rw [e2]
      exact g
     case measure => simp [intOf]; omega
    ·rw [if_neg (by omega)] at AD
     have GL := Lib.hid (go_last hkl HY.out (by omega) (by omega) G.out)
     have hym : y % 128 = y := Nat.mod_eq_of_lt (by omega)
     have YM := Lib.hid hym
     clear hym
     rcases Nat.eq_zero_or_pos k with k0 | k0
     ·have KH := Lib.hid k0
      have YH := Lib.hid hy255
      have d1 : ¬ 0 < k := by omega
      have d2 : ((k : Int) == 9) = false := by simp; omega
      clear k0
      have GY := GL.out.2 (by have := KH.out; have := YH.out; omega)
      have e : (a2 : Int) = ((acc + y % 128 * 128 ^ k : Nat) : Int) := A2.out.symm.trans (or_shift' G.out.2 (by rw [YM.out]; exact GY.2))
      have e2 : a2 = acc + y * 128 ^ k := by rw [YM.out] at e; omega
      have GZ := Lib.hid (show getL l = (a2, k + 1) by rw [e2]; exact GY.1)
      clear GY e e2
      go_wp2
      go_ret2
      exact ⟨ret_two' GZ.out (by omega), rfl⟩
     ·by_cases y0 : y = 0
      ·have YH := Lib.hid y0
       have d1 : ((y : Int) == 0) = true := by simp; omega
       by_cases k9 : k = 9
       ·have KH := Lib.hid k9
        have KP := Lib.hid k0
        have d2 : ((k : Int) == 9) = true := by simp; omega
        have d3 : ¬ 1 < y := by omega
        clear y0 k9
        go_wp2
        go_ret2
        exact ⟨ret_two (a := 0) (b := 0) (GL.out.1 (by have := KH.out; have := YH.out; omega)), rfl⟩
       ·have KH := Lib.hid k9
        have d2 : ((k : Int) == 9) = false := by simp; omega
        clear y0 k9
        go_wp2
        go_ret2
        exact ⟨ret_two (a := 0) (b := 0) (GL.out.1 (by have := KH.out; have := YH.out; omega)), rfl⟩
      ·have d1 : ((y : Int) == 0) = false := by simp; omega
       by_cases k9 : k = 9
       ·have KH := Lib.hid k9
        have d2 : ((k : Int) == 9) = true := by simp; omega
        by_cases y1 : 1 < y
        ·have YH := Lib.hid y1
         clear k9 y0
         go_wp2
         go_ret2
         exact ⟨ret_two (a := 0) (b := 0) (GL.out.1 (by have := KH.out; have := YH.out; omega)), rfl⟩
        ·have YH := Lib.hid (And.intro y0 y1)
         have d3 : ¬ 1 < y := by omega
         clear k9 y0
         have GY := GL.out.2 (by have := KH.out; have := YH.out; omega)
         have e : (a2 : Int) = ((acc + y % 128 * 128 ^ k : Nat) : Int) := A2.out.symm.trans (or_shift' G.out.2 (by rw [YM.out]; exact GY.2))
         have e2 : a2 = acc + y * 128 ^ k := by rw [YM.out] at e; omega
         have GZ := Lib.hid (show getL l = (a2, k + 1) by rw [e2]; exact GY.1)
         clear GY e e2
         go_wp2
         go_ret2
         exact ⟨ret_two' GZ.out (by omega), rfl⟩
       ·have KH := Lib.hid k9
        have YH := Lib.hid y0
        have d2 : ((k : Int) == 9) = false := by simp; omega
        clear k9 y0
        have GY := GL.out.2 (by have := KH.out; have := YH.out; omega)
        have e : (a2 : Int) = ((acc + y % 128 * 128 ^ k : Nat) : Int) := A2.out.symm.trans (or_shift' G.out.2 (by rw [YM.out]; exact GY.2))
        have e2 : a2 = acc + y * 128 ^ k := by rw [YM.out] at e; omega
        have GZ := Lib.hid (show getL l = (a2, k + 1) by rw [e2]; exact GY.1)
        clear GY e e2
        go_wp2
        go_ret2
        exact ⟨ret_two' GZ.out (by omega), rfl⟩
   ·have hkm : k = 10 := by omega
    have E := Lib.hid (go_end (l := l) (k := k) (acc := acc) (by have := LN.out; omega) (by omega) G1.out G2.out)
    clear hkm
    go_wp2
    go_ret2
    exact ⟨ret_two (a := 0) (b := 0) E.out, rfl⟩
theorem add_mul {acc k y M : Nat} (hM : M = 128 ^ k) (h : acc + y % 128 * 128 ^ k < 2 ^ 64) : IntKind.u64.wrap ((acc : Int) + IntKind.u64.wrap ((y : Int) % 128 * (M : Int))) = ((acc + y % 128 * 128 ^ k : Nat) : Int) := by
 subst hM
 have e : (y : Int) % 128 * ((128 ^ k : Nat) : Int) = ((y % 128 * 128 ^ k : Nat) : Int) := by rw [show (y : Int) % 128 = ((y % 128 : Nat) : Int) by omega, ← Int.natCast_mul]
 rw [e, wrap_u64 (show y % 128 * 128 ^ k < 2 ^ 64 by omega), show (acc : Int) + ((y % 128 * 128 ^ k : Nat) : Int) = ((acc + y % 128 * 128 ^ k : Nat) : Int) by omega]
 exact wrap_u64 h
