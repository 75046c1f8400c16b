/-
  begun: the closed checks that each statement of layers 1 to 3 begins with: they hold.
  What the rows of layers 1 to 3 share: a world that holds the table, for their witnesses.
-/
import Derived.Test.YtalhlgiklochdaaDoorBegunR
import Derived.Test.YtalhlgiklochdaaDoorCards
import Derived.Test.YtalhlgiklochdaaDoorTie
namespace Go.Proofs.YtalhlgiklochdaaDoor
open Go.ChangeShapes Go.WideShapes Go.ChangeAt Go.RowKit

set_option maxRecDepth 100000 in
set_option maxHeartbeats 1600000 in
theorem begun_walk (w : World) (hs : Spans w) : Calls Tryd.prog 70 #[] w fun e w' => e = .returned (.bool true) ∧ Below w.heap.size w w' := by
  have RD1 : Rd (w.alloc (.cells #[.int .i32 0, .int .i64 0, .int .i64 0, .int .u8 0, .int .u8 0] 108)) w.heap.size st0 := ⟨heap_alloc_new w _, st0_ok⟩
  have B1 := (Below.refl w.heap.size w).alloc (Nat.le_refl _) (.cells #[.int .i32 0, .int .i64 0, .int .i64 0, .int .u8 0, .int .u8 0] 108)
  have R := Lib.hid (And.intro RD1 B1)
  have S := Lib.hid hs
  clear RD1 B1 hs
  go_enter Tryd.func70, Tryd.ntmps70
  go_wp2_with fail
  refine (put_any w.heap.size 195 (by omega) (by omega) _ st0 R.out.1).mono ?_
  rintro e w2 ⟨va, rfl, ha, rd2, kp2, _⟩
  rw [st_195.1] at rd2
  rw [st_195.2] at ha
  obtain ⟨Aa, ca, rfl⟩ := ha.shape
  have R2 := Lib.hid (And.intro rd2 (R.out.2.trans (kp2.below (B := w.heap.size) (by simp) (fun k e => by injection e with e; omega) (fun k e => by simp [Value.ownBlock] at e))))
  clear rd2 kp2 ha R
  go_wp2_with fail
  refine (put_any w.heap.size 169 (by omega) (by omega) _ _ R2.out.1).mono ?_
  rintro e w3 ⟨vb, rfl, hb, rd3, kp3, _⟩
  rw [st_169.1] at rd3
  rw [st_169.2] at hb
  obtain ⟨gb, cb, rfl, _, _, hgb, hcb⟩ := own_at hb (by simp)
  have hb0 := hcb 0 _ rfl
  have R3 := Lib.hid (And.intro rd3 (And.intro (R2.out.2.trans (kp3.below (B := w.heap.size) R2.out.2.size (fun k e => by injection e with e; omega) (fun k e => by simp [Value.ownBlock] at e))) (And.intro hb0 hgb)))
  clear rd3 kp3 hb hcb R2 hb0 hgb
  go_wp2_with fail
  refine (all_walk _ (by decide) _).mono ?_
  rintro e w4 ⟨vl, rfl, hl, bl4⟩
  rw [theL_all] at hl
  obtain ⟨gl, cl, rfl, _, _, hgl, hcl⟩ := own_at (show w4.ownsRow w3.heap.size 21 1 vl 3 (theL.map (Value.int .i32)) from hl) (by omega)
  have R4 := Lib.hid (And.intro bl4 (And.intro hgl hcl))
  clear bl4 hl hgl hcl
  go_wp2_with fail
  have S4 := S.out.below (R3.out.2.1.trans (R4.out.1.mono R3.out.2.1.size)) S.out.size
  refine (cellOf_walk 20013 3 (by omega) (by omega) _ S4).mono ?_
  rintro e w5 ⟨vc, rfl, hc, bl5⟩
  rw [theC_of] at hc
  obtain ⟨gc, cc, rfl, hcc, _, hgc, hcells⟩ := own_at (show w5.ownsRow w4.heap.size 45 3 vc 2 (flat theC) from hc) (by omega)
  have BG : Beg w.heap.size gb gl gc w5 := by
    have b3 := R3.out
    have b4 := R4.out
    exact ⟨S4.below bl5 S4.size, ⟨(bl5.block _ (Nat.lt_of_lt_of_le b3.1.lt b4.1.size)).trans ((b4.1.block _ b3.1.lt).trans b3.1.row), st0_ok⟩,
      (bl5.cell (p := ⟨gb, 0, none⟩) (Nat.lt_of_lt_of_le b3.2.2.2 b4.1.size)).trans ((b4.1.cell (p := ⟨gb, 0, none⟩) b3.2.2.2).trans b3.2.2.1),
      fun j u hu => (bl5.cell (p := ⟨gl, j, none⟩) b4.2.1).trans (b4.2.2 j u hu), hcells, Nat.lt_of_lt_of_le b3.2.2.2 (Nat.le_trans b4.1.size bl5.size), Nat.lt_of_lt_of_le b4.2.1 bl5.size, hgc⟩
  have B5 : Below w.heap.size w w5 := by
    have h3 := R3.out.2.1
    have h4 := h3.trans (R4.out.1.mono h3.size)
    exact h4.trans (bl5.mono h4.size)
  have R5 := Lib.hid (BB.mk BG B5)
  clear R3 R4 S S4 hc bl5 hgc hcells BG B5
  go_wp2_with fail
  refine begun_region (ca := ca) (cb := cb) (cl := cl) (cc := cc) (Aa := Aa) ⟨by kernel_rfl, by kernel_rfl⟩ (by kernel_rfl) (fun k hk => by rcases hk with rfl | rfl | rfl <;> kernel_rfl) (fun _ _ _ _ _ h => h) hcc _ _ ⟨rfl, rfl, rfl, rfl, rfl, rfl, rfl⟩ R5.out ?_
  intro a6 w6 h0 hd h6
  have R6 := Lib.hid h6.old
  have H0 := Lib.hid h0
  clear h6 h0 R5
  go_wp2
  refine bodyPost_ret (v := .bool true) ?_ hd ⟨rfl, R6.out⟩
  have e := H0.out
  unfold Chain.At at e
  simp [results, Tryd.results70, go_sem, e]
end Go.Proofs.YtalhlgiklochdaaDoor
namespace Go.Proofs.YtalhlgiklochdaaDoor
open Go.ChangeShapes Go.WideShapes Go.ChangeAt Go.RowKit

theorem ownNone : ownKnob Tryd.prog.godebug = none := by kernel_rfl
def spanCells : Array Value := #[.int .i32 (-2147483648), .int .i32 31, .int .i64 0, .int .i32 127, .int .i32 159, .int .i64 0, .int .i32 768, .int .i32 879, .int .i64 0, .int .i32 4352, .int .i32 4447, .int .i64 2, .int .i32 8203, .int .i32 8207, .int .i64 0, .int .i32 11904, .int .i32 12350, .int .i64 2, .int .i32 12353, .int .i32 13311, .int .i64 2, .int .i32 13312, .int .i32 19903, .int .i64 2, .int .i32 19968, .int .i32 40959, .int .i64 2, .int .i32 40960, .int .i32 42191, .int .i64 2, .int .i32 44032, .int .i32 55203, .int .i64 2, .int .i32 55296, .int .i32 57343, .int .i64 0, .int .i32 63744, .int .i32 64255, .int .i64 2, .int .i32 65024, .int .i32 65039, .int .i64 0, .int .i32 65072, .int .i32 65135, .int .i64 2, .int .i32 65280, .int .i32 65376, .int .i64 2, .int .i32 65504, .int .i32 65510, .int .i64 2, .int .i32 127744, .int .i32 128591, .int .i64 2, .int .i32 129280, .int .i32 129535, .int .i64 2, .int .i32 131072, .int .i32 262141, .int .i64 2, .int .i32 1114112, .int .i32 2147483647, .int .i64 0]
/-- The settled world, the table as its initialiser lays it. -/
noncomputable def laidWorld (os : Os) : World :=
  { World.holding Tryd.prog os ⟨#[], #[], []⟩ with heap := (World.holding Tryd.prog os ⟨#[], #[], []⟩).heap.modify 0 fun
      | .cells _ t frozen => .cells spanCells t frozen
      | o => o }
end Go.Proofs.YtalhlgiklochdaaDoor
