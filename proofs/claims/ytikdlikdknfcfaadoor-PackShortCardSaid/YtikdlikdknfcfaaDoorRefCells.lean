/-
  The reference's cells of one sign.
-/
import Derived.Test.YtikdlikdknfcfaaDoorCellb
import Derived.Test.YtikdlikdknfcfaaDoorRefWidth
namespace Go.Proofs.YtikdlikdknfcfaaDoor
open Go.ChangeShapes Go.WideShapes Go.ChangeAt Go.RowKit

theorem ofL_one {r a : Int} (h0 : 0 ≤ a) (h1 : a ≤ 255) (hw : wof r = 1) : ofL r a = [(r, 1, a)] := by simp [ofL, mayA, h0, h1, hw]
theorem ofL_two {r a : Int} (h0 : 0 ≤ a) (h1 : a ≤ 255) (hw : wof r = 2) : ofL r a = [(r, 2, a), (0, 0, a)] := by simp [ofL, mayA, h0, h1, hw]
theorem ofL_no {r a : Int} (hw : wof r = 0) : ofL r a = [] := by simp [ofL, hw]
theorem own_down {w : World} {base base' : Nat} {e : TypeId} {size n : Nat} {v : Value} {xs : List Value} (h : w.ownsRow base e size v n xs) (hb : base' ≤ base) : w.ownsRow base' e size v n xs := by
  refine ⟨h.1, ?_⟩
  rcases h.2 with e | ⟨g, cap, cur, rfl, e2, r⟩
  · exact .inl e
  · exact .inr ⟨g, cap, cur, rfl, Nat.le_trans hb e2, r⟩
theorem own_keep {w w' : World} {base : Nat} {e : TypeId} {size n : Nat} {v : Value} {xs : List Value} (h : w.ownsRow base e size v n xs) (hk : ∀ k, v.ownBlock = some k → w'.heap[k]? = w.heap[k]?) : w'.ownsRow base e size v n xs := by
  refine ⟨h.1, ?_⟩
  rcases h.2 with e | ⟨g, cap, cur, rfl, e2, e3, r⟩
  · exact .inl e
  · exact .inr ⟨g, cap, cur, rfl, e2, (hk g rfl).trans e3, r⟩
theorem own_cap {w : World} {B : Nat} {e : TypeId} {s n : Nat} {v : Value} {xs : List Value} (h : w.ownsRow B e s v n xs) : ∃ A c, v = .slice A n c ∧ n ≤ c := by
  rcases h.2 with ⟨rfl, h0⟩ | ⟨g, cap, cur, rfl, _, _, hc, _⟩
  · rw [h0]; exact ⟨_, _, rfl, Nat.le_refl _⟩
  · exact ⟨_, _, rfl, hc⟩
set_option maxRecDepth 100000 in
set_option maxHeartbeats 800000 in
theorem refCells_walk (r a : Int) (hr0 : -2147483648 ≤ r) (hr1 : r ≤ 2147483647) (h0 : 0 ≤ a) (h1 : a ≤ 255) (w : World) :
    Calls Tryd.prog 32 #[.int .i32 r, .int .i64 a] w fun e w' => OfPost (ofL r a) w e w' := by
  have F := refWidth_walk r hr0 hr1 w
  have hwr := wof_range r
  have hw : wof r = 0 ∨ wof r = 1 ∨ wof r = 2 := by omega
  clear hwr
  rcases hw with hw | hw | hw
  · rw [ofL_no hw]
    rw [hw] at F
    have FH := Lib.hid F
    clear F hw
    go_enter Tryd.func32, Tryd.ntmps32
    go_wp2_with fail
    refine FH.out.mono ?_
    rintro e w2 ⟨rfl, b2⟩
    have B2 := Lib.hid b2
    clear b2
    go_wp2
    go_ret
    exact ⟨_, rfl, World.ownsRow_nil _ _ _ _, B2.out⟩
  · rw [ofL_one h0 h1 hw]
    rw [hw] at F
    have FH := Lib.hid F
    clear F hw
    go_enter Tryd.func32, Tryd.ntmps32
    go_wp2_with fail
    refine FH.out.mono ?_
    rintro e w2 ⟨rfl, b2⟩
    have B2 := Lib.hid b2
    clear b2
    go_wp2
    go_ret
    exact ⟨_, rfl, own_down (own_new w2 _ 3 1 #[.int .i32 r, .int .i64 1, .int .i64 a] rfl (by omega)) B2.out.size, B2.out.alloc B2.out.size _⟩
  · rw [ofL_two h0 h1 hw]
    rw [hw] at F
    have FH := Lib.hid F
    clear F hw
    go_enter Tryd.func32, Tryd.ntmps32
    go_wp2_with fail
    refine FH.out.mono ?_
    rintro e w2 ⟨rfl, b2⟩
    have B2 := Lib.hid b2
    clear b2
    go_wp2
    go_ret
    exact ⟨_, rfl, own_down (own_new w2 _ 3 2 #[.int .i32 r, .int .i64 2, .int .i64 a, .int .i32 0, .int .i64 0, .int .i64 a] rfl (by omega)) B2.out.size, B2.out.alloc B2.out.size _⟩
end Go.Proofs.YtikdlikdknfcfaaDoor
