/-
  What store.All's function reads, and that it tells the rows one behind the other.
-/
import Derived.Test.YtalhlgiklochdaaDoorStoreCopy
import Derived.Test.YtalhlgiklochdaaDoorOver
import Derived.RangeFuncBox
import Derived.Shelf.Abstract
import Derived.Shelf.RegionOpen
import Derived.OwnWalkIn
import Derived.TacticsInMore
import Derived.LoopNIn
import Derived.LoopIn
namespace Go.Proofs.YtalhlgiklochdaaDoor
open Go.ChangeShapes Go.WideShapes Go.ChangeAt Go.RowKit Go.Shelf
attribute [local go_sem] Oper.semAt_some

/-- What the function of All reads: the box with the copies, the copies, the rows' bytes, the table of widths. -/
structure Src2 (Bx : Nat) (u : Value) (ps : List Pg) (W : World) : Prop where
  sp : Spans W
  box : W.heap[Bx]? = some (.cells #[u] 99 (0, 0))
  own : W.ownsRow 0 90 17 u ps.length (flatP ps)
  pg : ∀ p ∈ ps, p.vs.length = p.rows.length ∧ p.rows.length ≤ 16 ∧ (∀ (i : Nat) (v : Value) (r : PRow), p.vs[i]? = some v → p.rows[i]? = some r → HasB W 0 v (putL r.1 r.2)) ∧ ∀ r ∈ p.rows, mayL r.2 = true ∧ ∀ c ∈ r.2, -2147483648 ≤ c.1 ∧ c.1 ≤ 2147483647
namespace Src2
variable {Bx : Nat} {u : Value} {ps : List Pg} {W W' : World}
theorem turned {M : Nat → Prop} (h : Src2 Bx u ps W) (ht : Turned M W W') (hs : Spans W') (h1 : ∀ j, M j → ¬ Typed W 99 j) (h2 : ∀ j, M j → ¬ Typed W 90 j) (h3 : ∀ j, M j → ¬ Typed W 5 j) : Src2 Bx u ps W' := by
  refine ⟨hs, (ht.block Bx (Array.getElem?_eq_some_iff.1 h.box).1 (fun m => h1 _ m ⟨_, _, h.box⟩)).trans h.box, ⟨h.own.1, ?_⟩, fun p hp => ?_⟩
  · rcases h.own.2 with e | ⟨g, cap, cur, e, e2, e3, r⟩
    · exact .inl e
    · exact .inr ⟨g, cap, cur, e, e2, (ht.block g (Array.getElem?_eq_some_iff.1 e3).1 (fun m => h2 _ m ⟨_, _, e3⟩)).trans e3, r⟩
  · obtain ⟨a, b, c, d⟩ := h.pg p hp
    exact ⟨a, b, fun i v r hv hr => (c i v r hv hr).turned ht h3, d⟩
theorem laid (h : Src2 Bx u ps W) (hb : Laid W W') : Src2 Bx u ps W' := h.turned (M := fun _ => False) (Turned.ofBelow hb _) (h.sp.below hb h.sp.size) (fun _ h => h.elim) (fun _ h => h.elim) (fun _ h => h.elim)
end Src2
theorem flatP_get : ∀ (ps : List Pg) (k : Nat) (p : Pg), (∀ q ∈ ps, (pageCells q.vs).length = 17) → ps[k]? = some p → ∀ j, j < 17 → (flatP ps)[k * 17 + j]? = (pageCells p.vs)[j]?
  | [], k, p, _, h, _, _ => by simp at h
  | q :: ps, 0, p, hl, h, j, hj => by
    simp at h
    subst h
    unfold flatP
    rw [List.flatMap_cons, Nat.zero_mul, Nat.zero_add, List.getElem?_append_left (by rw [hl q (by simp)]; exact hj)]
  | q :: ps, k + 1, p, hl, h, j, hj => by
    have ih := flatP_get ps k p (fun q' hq => hl q' (by simp [hq])) (by simpa using h) j hj
    unfold flatP at ih ⊢
    rw [List.flatMap_cons, List.getElem?_append_right (by rw [hl q (by simp)]; omega), hl q (by simp), show (k + 1) * 17 + j - 17 = k * 17 + j by omega]
    exact ih
namespace Src2
variable {Bx : Nat} {u : Value} {ps : List Pg} {W W' : World}
/-- One of the copies. -/
theorem page (h : Src2 Bx u ps W) {k : Nat} {p : Pg} (hp : ps[k]? = some p) : ∃ b cap, u = .slice (some ⟨b, 0, none⟩) ps.length cap ∧ PageRd W 0 b (k * 17) p.vs p.rows := by
  have hk := (List.getElem?_eq_some_iff.1 hp).1
  have h17 : ∀ q ∈ ps, (pageCells q.vs).length = 17 := fun q hq => by
    obtain ⟨a, b, _⟩ := h.pg q hq
    exact pageCells_len (by omega)
  rcases h.own.2 with ⟨_, e⟩ | ⟨b, cap, cur, e, _, e3, hc, _, hsz, htake⟩
  · omega
  · obtain ⟨a1, a2, a3, a4⟩ := h.pg p (List.mem_of_getElem? hp)
    refine ⟨b, cap, e, fun j hj => ?_, (Array.getElem?_eq_some_iff.1 e3).1, a1, a2, a3, a4⟩
    rw [cell_of_row W b _ _ _ (0, 0) e3, ← flatP_get ps k p h17 hp j hj, ← htake, List.getElem?_take, if_pos (by
      have : k + 1 ≤ ps.length := hk
      have := Nat.mul_le_mul_right 17 this
      omega)]
    simp
/-- Out of what All leaves. -/
theorem of_all {base g : Nat} {v : Value} {lim many bytes gone : Int} {w w' : World} {B : Nat} {u : Value} (hs : Spans w) (h : StR w base g v ps lim many bytes gone) (hbox : w'.heap[B]? = some (.cells #[u] 99 (0, 0))) (ho : w'.ownsRow w.heap.size 90 17 u ps.length (flatP ps)) (hb : Below w.heap.size w w') : Src2 B u ps w' :=
  ⟨hs.below hb hs.size, hbox, ⟨ho.1, ho.2.imp id fun ⟨g, cap, cur, e, _, r⟩ => ⟨g, cap, cur, e, Nat.zero_le _, r⟩⟩, fun p hp => by
    have hp' := (h.page p hp).below hb
    exact ⟨hp'.many, hp'.few, fun i v r hv hr => (hp'.row i v r hv hr).1.mono' (Nat.zero_le _), hp'.may⟩⟩
end Src2
/-- What is told as the k-th: its number, and the row in memory of its own. -/
def FitR (S : Nat) (R : List PRow) (k : Nat) (x : Array Value) (W : World) : Prop := ∃ v r, x = #[.int .i64 (k : Int), .agg #[v, .bool r.1]] ∧ R[k]? = some r ∧ HasC W S v r.2
/-- Between two rounds, so many rows having been told. -/
structure ItAt (Bx : Nat) (u : Value) (ps : List Pg) (S : Nat) (J : Nat → World → Prop) (c : Nat) (W : World) : Prop where
  src : Src2 Bx u ps W
  inv : J c W
  big : S ≤ W.heap.size
theorem allRows_at {ps : List Pg} {k i : Nat} {p : Pg} {r : PRow} (hp : ps[k]? = some p) (hr : p.rows[i]? = some r) : (allRows ps)[(allRows (ps.take k)).length + i]? = some r := by
  have h1 := (List.getElem?_eq_some_iff.1 hp).1
  have h2 : ps = ps.take k ++ p :: ps.drop (k + 1) := by
    conv => lhs; rw [← List.take_append_drop k ps]
    rw [List.drop_eq_getElem_cons h1, (List.getElem?_eq_some_iff.1 hp).2]
  have h3 : allRows ps = allRows (ps.take k) ++ (p.rows ++ allRows (ps.drop (k + 1))) := by
    conv => lhs; rw [h2]
    rw [allRows_append, allRows_cons]
  rw [h3, List.getElem?_append_right (by omega), Nat.add_sub_cancel_left, List.getElem?_append_left (List.getElem?_eq_some_iff.1 hr).1]
  exact hr
theorem allRows_take_next {ps : List Pg} {k : Nat} {p : Pg} (hp : ps[k]? = some p) : (allRows (ps.take (k + 1))).length = (allRows (ps.take k)).length + p.rows.length := by
  obtain ⟨h1, h2⟩ := List.getElem?_eq_some_iff.1 hp
  rw [List.take_succ_eq_append_getElem h1, h2, allRows_append, allRows_cons, allRows_nil, List.append_nil, List.length_append]
set_option maxRecDepth 100000 in
theorem yield_not_nil (l : Nat) (w : World) : (binOp .eql 101 (.func (.yield l) #[] #[]) .nilFunc).run Tryd.prog w = .ok (.bool false) w := by first | rfl | kernel_rfl
set_option maxRecDepth 100000 in
set_option maxHeartbeats 6400000 in
theorem all1_tells {Bx : Nat} {u : Value} {ps : List Pg} {Kp : World → World → Prop} {S : Nat} {w : World} (h : Src2 Bx u ps w) (hS : S ≤ w.heap.size) (hKp : ∀ A B, Kp A B → Src2 Bx u ps A → Src2 Bx u ps B ∧ A.heap.size ≤ B.heap.size) (hn : ps.length ≤ 1000001) (hN : (allRows ps).length ≤ 1000001) :
    Tells Tryd.prog 69 #[.pointer (some ⟨Bx, 0, none⟩)] (allRows ps).length (FitR S (allRows ps)) Kp w := by
  intro l J Jx W hL hJ hJx hY h0
  obtain ⟨n, hnn⟩ : ∃ n, ps.length = n := ⟨_, rfl⟩
  obtain ⟨A, c, hu⟩ : ∃ A c, u = .slice A n c := by
    rcases h.own.2 with ⟨e, e2⟩ | ⟨b, cap, cur, e, _⟩
    · exact ⟨_, _, by rw [e, ← hnn, e2]⟩
    · exact ⟨_, _, by rw [e, ← hnn]⟩
  have I0 := Lib.hid (ItAt.mk (J := J) (c := 0) (h.laid hL) h0 (Nat.le_trans hS hL.size))
  have c0 : W.cell? ⟨Bx, 0, none⟩ = some (.slice A n c) := by rw [← hu]; exact cell_of_row _ _ 0 _ _ (0, 0) (h.laid hL).box
  have YH := Lib.hid hY
  have JH := Lib.hid (And.intro hJ hJx)
  have UH := Lib.hid hu
  have NH := Lib.hid hnn
  have KH := Lib.hid hKp
  have TH := Lib.hid hN
  rw [hnn] at hn
  clear hY hJ hJx hu hnn hKp hN h hL h0
  refine callsIn_of_wp Tryd.func69 rfl trivial ?_ rfl
  simp only [Tryd.ntmps69, List.size_toArray, List.length_cons, List.length_nil, Nat.reduceAdd, Nat.reduceSub, Array.replicate_succ, Array.replicate_zero, List.push_toArray, List.append_toArray, List.nil_append, List.cons_append]
  have yn := yield_not_nil l
  gi_wp2
  gi_loopw [3, 12] (fun t i wr => ∃ k c : Nat, t = .int .i64 c ∧ i = .int .i64 k ∧ k ≤ n ∧ Hid (c = (allRows (ps.take k)).length) ∧ Hid (ItAt Bx u ps S J c wr)) (fun _ i _ => n - (intOf i).toNat)
  case atStart => exact ⟨0, 0, rfl, rfl, Nat.zero_le _, Lib.hid rfl, I0⟩
  case round =>
    obtain ⟨k, c1, rfl, rfl, hk, C, I⟩ := hrel
    clear I0 c0
    have c0 : wr.cell? ⟨Bx, 0, none⟩ = some (.slice A n c) := by rw [← UH.out]; exact cell_of_row _ _ 0 _ _ (0, 0) I.out.src.box
    by_cases hlt : k < n
    · obtain ⟨p, hp⟩ : ∃ p, ps[k]? = some p := ⟨_, List.getElem?_eq_getElem (by rw [NH.out]; exact hlt)⟩
      obtain ⟨b, cap, e', hrd⟩ := I.out.src.page hp
      rw [UH.out] at e'
      injection e' with e1 e3 e4
      subst e1
      clear e3 e4
      obtain ⟨m, hm⟩ : ∃ m, p.rows.length = m := ⟨_, rfl⟩
      have LW := Lib.hid (pageLen_rd hrd)
      rw [hm] at LW
      have hm16 : m ≤ 16 := by rw [← hm]; exact hrd.few
      have PH := Lib.hid hp
      have MH := Lib.hid hm
      have CT := Lib.hid (show c1 + m ≤ (allRows ps).length by
        rw [C.out, ← hm, ← allRows_take_next hp]
        have h1 := congrArg List.length (allRows_append (ps.take (k + 1)) (ps.drop (k + 1)))
        rw [List.take_append_drop, List.length_append] at h1
        omega)
      have hcm : c1 + m ≤ 1000001 := Nat.le_trans CT.out TH.out
      clear hp hm hrd
      gi_wp2_with (refine ⟨trivial, ?_⟩; gi_at_call 37; refine (callsIn_wide.2 LW.out).mono ?_; rintro e w2 ⟨rfl, rfl⟩)
      gi_loopw [3, 19] (fun t i wx => ∃ j : Nat, t = .int .i64 (c1 + j : Nat) ∧ i = .int .i64 j ∧ j ≤ m ∧ Hid (ItAt Bx u ps S J (c1 + j) wx)) (fun _ i _ => m - (intOf i).toNat)
      case atStart => exact ⟨0, rfl, rfl, Nat.zero_le _, I⟩
      case round =>
        obtain ⟨j, rfl, rfl, hj, I2⟩ := hrel
        clear LW I c0
        have c0 : wr.cell? ⟨Bx, 0, none⟩ = some (.slice (some ⟨b, 0, none⟩) n c) := by rw [← UH.out]; exact cell_of_row _ _ 0 _ _ (0, 0) I2.out.src.box
        by_cases hjm : j < m
        · obtain ⟨r, hr⟩ : ∃ r, p.rows[j]? = some r := ⟨_, List.getElem?_eq_getElem (by rw [MH.out]; exact hjm)⟩
          obtain ⟨b', cap', e', hrd⟩ := I2.out.src.page PH.out
          rw [UH.out] at e'
          injection e' with e1 e3 e4
          injection e1 with e1
          injection e1 with e1 _ _
          subst e1
          clear e3 e4
          have AW := Lib.hid (pageAt_rd 0 b (k * 17) p.vs p.rows j r wr I2.out.src.sp hrd hr)
          have RH := Lib.hid (show (allRows ps)[c1 + j]? = some r by rw [C.out]; exact allRows_at PH.out hr)
          have LT := Lib.hid (show c1 + j < (allRows ps).length by have := CT.out; omega)
          have GO := Lib.hid (show ∀ w3 v3, HasC w3 wr.heap.size v3 r.2 → Below wr.heap.size wr w3 → ItAt Bx u ps S J (c1 + j) (w3.alloc (.cells #[v3, .bool r.1] 31)) ∧ FitR S (allRows ps) (c1 + j) #[.int .i64 ((c1 : Int) + (j : Int)), .agg #[v3, .bool r.1]] (w3.alloc (.cells #[v3, .bool r.1] 31)) from fun w3 v3 h3 b3 => by
            have bb : Laid wr (w3.alloc (.cells #[v3, .bool r.1] 31)) := b3.alloc b3.size _
            exact ⟨⟨I2.out.src.laid bb, JH.out.1 _ _ _ I2.out.inv bb, Nat.le_trans I2.out.big bb.size⟩, v3, r, by rw [Int.natCast_add], RH.out, World.ownsRow.alloc (HasC.mono h3 I2.out.big) _⟩)
          clear hr hrd I2
          gi_wp2_with (refine ⟨trivial, ?_⟩; gi_at_call 36; refine (callsIn_wide.2 AW.out).mono ?_; rintro e w3 ⟨v3, rfl, h3, b3⟩; simp only [Option.elim_some, Option.isSome_some] at h3 ⊢; obtain ⟨g4, f4⟩ := GO.out w3 v3 h3 b3; (obtain ⟨A3, d3, rfl, _⟩ := HasC.shape h3); (obtain ⟨fn, tmps, assign, body, hy, hR⟩ := YH.out _ _ _ LT.out g4.inv f4); (have G4 := Lib.hid g4); (have R4 := Lib.hid hR); clear h3 b3 g4 f4 hR AW GO)
          refine R4.out.mono ?_
          rintro e W5 (⟨rfl, hJ5, hk5⟩ | ⟨rfl, hJx5⟩)
          · have I5 := Lib.hid (ItAt.mk (S := S) (KH.out _ _ hk5 G4.out.src).1 hJ5 (Nat.le_trans G4.out.big (KH.out _ _ hk5 G4.out.src).2))
            clear hJ5 hk5 hy R4 G4
            gi_wp2
            go_roundw
            case rel => exact ⟨j + 1, by go_num, by go_num, by omega, I5⟩
            case measure => simp [intOf]; omega
          · have DX := Lib.hid hJx5
            clear hJx5 hy R4 G4
            gi_wp2
            refine bodyPost_ret (results_none rfl _ _ _) rfl ?_
            exact ⟨⟨_, rfl⟩, .inr ⟨_, LT.out, DX.out⟩⟩
        · obtain rfl : j = m := by omega
          have CN := Lib.hid (show c1 + j = (allRows (ps.take (k + 1))).length by rw [C.out, allRows_take_next PH.out, MH.out])
          gi_wp2
          go_roundw
          case rel => exact ⟨k + 1, c1 + j, by go_num, by go_num, by omega, CN, I2⟩
          case measure => simp [intOf]; omega
    · obtain rfl : k = n := by omega
      have DN := Lib.hid (show J (allRows ps).length wr by
        have h := I.out.inv
        rw [C.out, List.take_of_length_le (by rw [NH.out]; exact Nat.le_refl _)] at h
        exact h)
      gi_wp2
      go_end0
      exact ⟨⟨_, rfl⟩, .inl DN.out⟩
end Go.Proofs.YtalhlgiklochdaaDoor
