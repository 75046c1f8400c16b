import Derived.Test.YtmpoboffdfcpiaaGreatDoorQBase5
set_option maxRecDepth 100000
set_option maxHeartbeats 12800000
namespace Go.Proofs.YtmpoboffdfcpiaaGreatDoor
open Go.ChangeShapes Go.WideShapes Go.ChangeAt Go.RowKit
theorem ofL_one {r a : Int} (h0 : 0 ≤ a) (h1 : a ≤ 255) (hw : wof r = 1) : ofL r a = [(r, 1, a)] := by simp [ofL, mayA, h0, h1, hw]
theorem ofL_two {r a : Int} (h0 : 0 ≤ a) (h1 : a ≤ 255) (hw : wof r = 2) : ofL r a = [(r, 2, a), (0, 0, a)] := by simp [ofL, mayA, h0, h1, hw]
theorem ofL_no {r a : Int} (hw : wof r = 0) : ofL r a = [] := by simp [ofL, hw]
theorem own_down {w : World} {base base' : Nat} {e : TypeId} {size n : Nat} {v : Value} {xs : List Value} (h : w.ownsRow base e size v n xs) (hb : base' ≤ base) : w.ownsRow base' e size v n xs := by
 refine ⟨h.1, ?_⟩
 rcases h.2 with e | ⟨g, cap, cur, rfl, e2, r⟩
 ·exact .inl e
 ·exact .inr ⟨g, cap, cur, rfl, Nat.le_trans hb e2, r⟩
theorem own_keep {w w' : World} {base : Nat} {e : TypeId} {size n : Nat} {v : Value} {xs : List Value} (h : w.ownsRow base e size v n xs) (hk : ∀ k, v.ownBlock = some k → w'.heap[k]? = w.heap[k]?) : w'.ownsRow base e size v n xs := by
 refine ⟨h.1, ?_⟩
 rcases h.2 with e | ⟨g, cap, cur, rfl, e2, e3, r⟩
 ·exact .inl e
 ·exact .inr ⟨g, cap, cur, rfl, e2, (hk g rfl).trans e3, r⟩
theorem refCells_walk (r a : Int) (hr0 : -2147483648 ≤ r) (hr1 : r ≤ 2147483647) (h0 : 0 ≤ a) (h1 : a ≤ 255) (w : World) :
  Calls Tryz.prog 123 #[.int .i32 r, .int .i64 a] w fun e w' => OfPost (ofL r a) w e w' := by
 have F := refWidth_walk r hr0 hr1 w
 have hwr := wof_range r
 have hw : wof r = 0 ∨ wof r = 1 ∨ wof r = 2 := by omega
 clear hwr
 rcases hw with hw | hw | hw
 ·rw [ofL_no hw]
  rw [hw] at F
  have FH := Lib.hid F
  clear F hw
  go_enter Tryz.func123, Tryz.ntmps123
  go_wp2_with fail
  refine FH.out.mono ?_
  rintro e w2 ⟨rfl, b2⟩
  have B2 := Lib.hid b2
  clear b2
  go_wp2
  go_ret
  exact ⟨_, rfl, World.ownsRow_nil _ _ _ _, B2.out⟩
 ·rw [ofL_one h0 h1 hw]
  rw [hw] at F
  have FH := Lib.hid F
  clear F hw
  go_enter Tryz.func123, Tryz.ntmps123
  go_wp2_with fail
  refine FH.out.mono ?_
  rintro e w2 ⟨rfl, b2⟩
  have B2 := Lib.hid b2
  clear b2
  go_wp2
  go_ret
  exact ⟨_, rfl, own_down (own_new w2 _ 3 1 #[.int .i32 r, .int .i64 1, .int .i64 a] rfl (by omega)) B2.out.size, B2.out.alloc B2.out.size _⟩
 ·rw [ofL_two h0 h1 hw]
  rw [hw] at F
  have FH := Lib.hid F
  clear F hw
  go_enter Tryz.func123, Tryz.ntmps123
  go_wp2_with fail
  refine FH.out.mono ?_
  rintro e w2 ⟨rfl, b2⟩
  have B2 := Lib.hid b2
  clear b2
  go_wp2
  go_ret
  exact ⟨_, rfl, own_down (own_new w2 _ 3 2 #[.int .i32 r, .int .i64 2, .int .i64 a, .int .i32 0, .int .i64 0, .int .i64 a] rfl (by omega)) B2.out.size, B2.out.alloc B2.out.size _⟩
namespace Rw
theorem refBlank_walk (w : World) : Calls Tryz.prog 61 #[] w fun e w' => e = .returned (cellV 32 1 0) ∧ Below w.heap.size w w' := by
 go_enter Tryz.func61, Tryz.ntmps61
 go_wp2
 exact bodyPost_ret (v := cellV 32 1 0) (by simp [results, Tryz.results61, go_sem]) rfl ⟨rfl, (Below.refl _ _).alloc (Nat.le_refl _) _⟩
theorem eql_cell (x y z r m a : Int) (w : World) : (binOp .eql 62 (cellV x y z) (cellV r m a)).run Tryz.prog w = .ok (.bool (x == r && y == m && z == a)) w := by
 have hw := w
 cases h1 : (x == r) <;> cases h2 : (y == m) <;> cases h3 : (z == a) <;> go_simp
end Rw
def RCopyPost (wrap : Bool) (l : List Cel) (w : World) (e : Ending) (w' : World) : Prop := ∃ v, e = .returned (.agg #[v, .bool wrap]) ∧ HasC w' w.heap.size v l ∧ Below w.heap.size w w'
theorem refCopy_walk (A : Option Addr) (n c : Nat) (wrap : Bool) (l : List Cel) (w : World) (hq : Sq w w.heap.size 3 n A (flat l)) (hn : n ≤ 1000000) :
  Calls Tryz.prog 60 #[rowV A n c wrap] w fun e w' => RCopyPost wrap l w e w' := by
 obtain ⟨i0, hi, hz0, hz1, hz2⟩ := info_parts infoCell
 have hln : l.length = n := by have := hq.len; rw [flat_length] at this; omega
 have QM := Lib.hid hq
 have ML := Lib.hid hln
 clear hln hq
 go_enter Tryz.func60, Tryz.ntmps60
 have B2 := Lib.hid (((Below.refl w.heap.size w).alloc (Nat.le_refl _) (.cells #[.slice A n c, .bool wrap] 58)).alloc (by simp) (.cells #[.slice none 0 0, .bool false] 58))
 have hb0 : ((w.alloc (.cells #[.slice A n c, .bool wrap] 58)).alloc (.cells #[.slice none 0 0, .bool false] 58)).heap[w.heap.size]? = some (.cells #[.slice A n c, .bool wrap] 58 (0, 0)) := (Below.heap_alloc _ _ _ (by simp)).trans (heap_alloc_new w _)
 have hb1 : ((w.alloc (.cells #[.slice A n c, .bool wrap] 58)).alloc (.cells #[.slice none 0 0, .bool false] 58)).heap[w.heap.size + 1]? = some (.cells #[.slice none 0 0, .bool false] 58 (0, 0)) := by
  have h := heap_alloc_new (w.alloc (.cells #[.slice A n c, .bool wrap] 58)) (.cells #[.slice none 0 0, .bool false] 58)
  rw [World.size_alloc] at h
  exact h
 have H0 := Lib.hid hb0
 have H1 := Lib.hid hb1
 have HS := Lib.hid (show ((w.alloc (.cells #[.slice A n c, .bool wrap] 58)).alloc (.cells #[.slice none 0 0, .bool false] 58)).heap.size = w.heap.size + 2 by simp)
 clear hb0 hb1
 go_wp2_with fail
 go_region_law (
  refine step_app rfl _ _ 51 rfl (w.heap.size + 2) 62 i0 (.agg #[.int .i32 0, .int .i64 0, .int .i64 0]) 3 24 Tryz.underlying51 hi hz0 hz1 hz2 rfl (by decide) (.slice none 0 0) 0 [] rfl (World.ownsRow_nil _ _ _ _) A n c (flat l) rfl w.heap.size (QM.out.below (by first | exact B2.out | exact B2.out.drew | exact B2.out.drew.drew)) (flat_one _) (by unfold maxLen; omega) (by omega) (by first | exact Nat.le_of_eq HS.out.symm | simp) ?_
  intro A' c' w3 hown hg
  intro _
  have B3 := Lib.hid ((show Below w.heap.size w w3 from ⟨hg.os.trans B2.out.os, hg.tape.trans B2.out.tape, hg.output.trans B2.out.output, Nat.le_trans B2.out.size hg.size, fun k hk => (hg.block k (by simp; omega) (by simp [Value.ownBlock])).trans (B2.out.block k hk)⟩))
  have k0 : w3.cell? ⟨w.heap.size, 1, none⟩ = some (.bool wrap) := by rw [cell_of_row _ _ _ _ _ (0, 0) ((hg.block _ (by simp; omega) (by simp [Value.ownBlock])).trans H0.out)]; rfl
  have T0 := Lib.hid (show RowAt w3 (w.heap.size + 1) (.slice none 0 0) false from (hg.block _ (by simp) (by simp [Value.ownBlock])).trans H1.out)
  have t0 : w3.cell? ⟨w.heap.size + 1, 0, none⟩ = some (.slice none 0 0) := T0.out.get 0
  have t1 : w3.cell? ⟨w.heap.size + 1, 1, none⟩ = some (.bool false) := T0.out.get 1
  have f0 := T0.out.free 0
  have f1 := T0.out.free 1
  have OW := Lib.hid (show HasC w3 (w.heap.size + 2) (.slice A' (0 + n) c') l by unfold HasC; rw [ML.out]; simpa using hown)
  rw [Nat.zero_add] at OW
  rw [Nat.zero_add]
  clear hown hg)
 all_goals
  have RF := RowAt.put2 T0.out (.slice A' n c') wrap
  have BF := (B3.out.setCell (p := ⟨w.heap.size + 1, 0, none⟩) (Nat.le_succ _) (.slice A' n c')).setCell (p := ⟨w.heap.size + 1, 1, none⟩) (Nat.le_succ _) (.bool wrap)
  have OF := HasC.keep (w' := (w3.setCell ⟨w.heap.size + 1, 0, none⟩ (.slice A' n c')).setCell ⟨w.heap.size + 1, 1, none⟩ (.bool wrap)) OW.out (fun j e => by
   have h := (HasC.lt OW.out j e).1
   rw [Below.heap_setCell _ _ _ _ (by show j ≠ w.heap.size + 1; omega), Below.heap_setCell _ _ _ _ (by show j ≠ w.heap.size + 1; omega)])
  go_wp2
  generalize (w3.setCell ⟨w.heap.size + 1, 0, none⟩ (.slice A' n c')).setCell ⟨w.heap.size + 1, 1, none⟩ (.bool wrap) = wz at RF BF OF ⊢
  have e0 := RF.get 0
  have e1 := RF.get 1
  exact bodyPost_ret (v := .agg #[.slice A' n c', .bool wrap]) (by simp [results, Tryz.results60, go_sem, e0, e1]) rfl ⟨.slice A' n c', rfl, HasC.mono OF (by omega), BF⟩
namespace Rw
structure OA (w0 : World) (gg g8 g1 n c3 : Nat) (wrap : Bool) (tail : List Value) (o : List Cel) (W : World) : Prop where
 r8 : RowAt W g8 (.slice (some ⟨gg, 0, none⟩) n c3) wrap
 z : RowAt W g1 (.slice none 0 0) false
 row : RowIn' W gg o tail
 bel : Below w0.heap.size w0 W
theorem OA.below {w0 W W' : World} {gg g8 g1 n c3 : Nat} {wrap : Bool} {tail : List Value} {o : List Cel} (h : OA w0 gg g8 g1 n c3 wrap tail o W) (b : Below W.heap.size W W') : OA w0 gg g8 g1 n c3 wrap tail o W' :=
 ⟨(b.block g8 h.r8.lt).trans h.r8, (b.block g1 h.z.lt).trans h.z, h.row.below b, h.bel.trans (b.mono h.bel.size)⟩
theorem OA.set {w0 W : World} {gg g8 g1 n c3 : Nat} {wrap : Bool} {tail : List Value} {o : List Cel} (h : OA w0 gg g8 g1 n c3 wrap tail o W) (h8 : gg ≠ g8) (h1 : gg ≠ g1) (h0 : w0.heap.size ≤ gg) {k : Nat} (hk : k < o.length) (r m a : Int) :
  OA w0 gg g8 g1 n c3 wrap tail (o.set k (r, m, a)) (((W.setCell ⟨gg, k * 3, none⟩ (.int .i32 r)).setCell ⟨gg, k * 3 + 1, none⟩ (.int .i64 m)).setCell ⟨gg, k * 3 + 2, none⟩ (.int .i64 a)) := by
 have O := RowIn'.only W gg k (.int .i32 r) (.int .i64 m) (.int .i64 a)
 exact ⟨(O.block g8 (Ne.symm h8)).trans h.r8, (O.block g1 (Ne.symm h1)).trans h.z, h.row.set hk r m a, h.bel.trans ((Turned.ofOnly O).toBelow h.bel.size (fun k hk e => by omega))⟩
def OverPost (wrap : Bool) (l : List Cel) (w : World) (e : Ending) (w' : World) : Prop := ∃ A n c, e = .returned (.agg #[.slice A n c, .bool wrap]) ∧ HasC w' w.heap.size (.slice A n c) l ∧ Below w.heap.size w w'
theorem refOver_walk (A : Option Addr) (n c : Nat) (wrap : Bool) (l : List Cel) (k : Nat) (A2 : Option Addr) (m c2 : Nat) (L : List Cel) (w : World) (hn0 : 0 < n) (hn : n ≤ 1000000) (hq : Sq w w.heap.size 3 n A (flat l)) (hq2 : Sq w w.heap.size 3 m A2 (flat L)) (hk : k + m ≤ n) :
  Calls Tryz.prog 62 #[rowV A n c wrap, .int .i64 (k : Int), .slice A2 m c2] w fun e w' => OverPost wrap (scanK (putO l k L) n) w e w' := by
 have hln : l.length = n := by have := hq.len; rw [flat_length] at this; omega
 have hLm : L.length = m := by have := hq2.len; rw [flat_length] at this; omega
 have Q := Lib.hid hq
 have Q2 := Lib.hid hq2
 have LN := Lib.hid hln
 have LM := Lib.hid hLm
 clear hq hq2 hln hLm
 go_enter Tryz.func62, Tryz.ntmps62
 go_wp2_with fail
 have ba := ((Below.refl w.heap.size w).alloc (Nat.le_refl _) (.cells #[.slice A n c, .bool wrap] 58)).alloc (by simp) (.cells #[.slice none 0 0, .bool false] 58)
 have z0 : RowAt ((w.alloc (.cells #[.slice A n c, .bool wrap] 58)).alloc (.cells #[.slice none 0 0, .bool false] 58)) (w.heap.size + 1) (.slice none 0 0) false := by
  have h := heap_alloc_new (w.alloc (.cells #[.slice A n c, .bool wrap] 58)) (.cells #[.slice none 0 0, .bool false] 58)
  rw [World.size_alloc] at h
  exact h
 have sa : ((w.alloc (.cells #[.slice A n c, .bool wrap] 58)).alloc (.cells #[.slice none 0 0, .bool false] 58)).heap.size = w.heap.size + 2 := by simp
 generalize (w.alloc (.cells #[.slice A n c, .bool wrap] 58)).alloc (.cells #[.slice none 0 0, .bool false] 58) = wa at ba z0 sa ⊢
 obtain ⟨g1, hg1⟩ : ∃ g1, w.heap.size + 1 = g1 := ⟨_, rfl⟩
 rw [hg1] at z0
 have HGW := Lib.hid (show w.heap.size + 2 = wa.heap.size by omega)
 have HG1 := Lib.hid (show w.heap.size ≤ g1 by omega)
 rw [hg1]
 refine (refCopy_walk A n c wrap l wa ((Q.out.below ba).up ba.size) hn).mono ?_
 rintro e w3 ⟨v3, rfl, hv3, b3⟩
 obtain ⟨A3, c3, rfl, hc3⟩ := HasC.shape hv3
 rw [LN.out] at hv3 hc3 ⊢
 have bw3 := ba.trans (b3.mono ba.size)
 have b4 := (Below.refl w3.heap.size w3).alloc (Nat.le_refl _) (.cells #[.slice A3 n c3, .bool wrap] 58)
 obtain ⟨g8, hg8⟩ : ∃ g8, w3.heap.size = g8 := ⟨_, rfl⟩
 have R8 := Lib.hid (show RowAt (w3.alloc (.cells #[.slice A3 n c3, .bool wrap] 58)) g8 (.slice A3 n c3) wrap by rw [← hg8]; exact heap_alloc_new w3 _)
 have z03 : RowAt w3 g1 (.slice none 0 0) false := (b3.block g1 z0.lt).trans z0
 have Z0 := Lib.hid (show RowAt (w3.alloc (.cells #[.slice A3 n c3, .bool wrap] 58)) g1 (.slice none 0 0) false from (b4.block g1 z03.lt).trans z03)
 have hv4 := HasC.keep (w' := w3.alloc (.cells #[.slice A3 n c3, .bool wrap] 58)) hv3 (fun j e => b4.block j (HasC.lt hv3 j e).2)
 have B4 := Lib.hid (bw3.trans (b4.mono bw3.size))
 obtain ⟨gg, tail, rfl, hgb, hnc, ri, cv⟩ := rowIn_of hv4 hn0
 have RI := Lib.hid ri
 have CV := Lib.hid cv
 have hne8 : g8 ≠ g1 := by have := z03.lt; omega
 have hgg8 : gg ≠ g8 := by have := (HasC.lt hv3 gg rfl).2; omega
 have hgg1 : gg ≠ g1 := by omega
 have hgw : w.heap.size ≤ gg := by omega
 have HG8 := Lib.hid hg8
 clear ba z0 sa b3 hv3 hv4 bw3 b4 z03 hg1 hg8 ri cv
 go_wp2_with fail
 rw [HG8.out]
 generalize w3.alloc (.cells #[.slice (some ⟨gg, 0, none⟩) n c3, .bool wrap] 58) = w4 at R8 Z0 B4 RI ⊢
 have hj8 : w4.cell? ⟨g8, 0, none⟩ = some (.slice (some ⟨gg, 0, none⟩) n c3) := R8.out.get 0
 have OA0 : Hid (OA w gg g8 g1 n c3 wrap tail (putO l k (L.take 0)) w4) := Lib.hid ⟨R8.out, Z0.out, by rw [List.take_zero, putO_none]; exact RI.out, B4.out⟩
 clear R8 Z0 RI B4 hj8
 go_loopw [8] (fun i wr => ∃ j : Nat, i = .int .i64 j ∧ j ≤ m ∧ Hid (OA w gg g8 g1 n c3 wrap tail (putO l k (L.take j)) wr)) (fun i _ => m - (intOf i).toNat)
 case atStart => exact ⟨0, rfl, Nat.zero_le _, OA0⟩
 case round =>
  obtain ⟨j, rfl, hj, O⟩ := hrel
  have k8 : wr.cell? ⟨g8, 0, none⟩ = some (.slice (some ⟨gg, 0, none⟩) n c3) := O.out.r8.get 0
  have hsz := O.out.bel.size
  by_cases hjm : j < m
  ·obtain ⟨b2, o2, rfl, hb2, ⟨r, mm, a⟩, hcc, q0, q1, q2⟩ := Q2.out.three hjm
   have HC := Lib.hid hcc
   have q0' : wr.cell? ⟨b2, o2 + j * 3, none⟩ = some (.int .i32 r) := (O.out.bel.cell (p := ⟨b2, o2 + j * 3, none⟩) hb2).trans q0
   have q1' : wr.cell? ⟨b2, o2 + j * 3 + 1, none⟩ = some (.int .i64 mm) := (O.out.bel.cell (p := ⟨b2, o2 + j * 3 + 1, none⟩) hb2).trans q1
   have q2' : wr.cell? ⟨b2, o2 + j * 3 + 2, none⟩ = some (.int .i64 a) := (O.out.bel.cell (p := ⟨b2, o2 + j * 3 + 2, none⟩) hb2).trans q2
   have hol : (putO l k (L.take j)).length = n := by rw [putO_length (by rw [List.length_take, LM.out, LN.out]; omega)]; exact LN.out
   have hsum : IntKind.i64.wrap ((k : Int) + (j : Int)) = ((k + j : Nat) : Int) := by rw [IntWalk.i64_in _ (by omega)]; omega
   have O5 := Lib.hid (O.out.below (Below.refl wr.heap.size wr).drew)
   have hkj : k + j < n := by omega
   have hkj0 : ((k + j : Nat) : Int) < (n : Int) := by omega
   have hkj1 : (0 : Int) ≤ ((k + j : Nat) : Int) := by omega
   have SET := Lib.hid (fun W (h : OA w gg g8 g1 n c3 wrap tail (putO l k (L.take j)) W) => (show OA w gg g8 g1 n c3 wrap tail (putO l k (L.take (j + 1))) _ by
    have e := putO_next (l := l) (k := k) (j := j) (L := L) (by rw [LM.out, LN.out]; exact hk) (by rw [LM.out]; exact hjm)
    have ec : cAt L j = (r, mm, a) := by unfold cAt; rw [List.getD_eq_getElem?_getD, HC.out]; rfl
    rw [ec] at e
    rw [← e]
    exact h.set hgg8 hgg1 hgw (by rw [hol]; exact hkj) r mm a))
   obtain ⟨z, hz⟩ : ∃ z, k + j = z := ⟨_, rfl⟩
   rw [hz] at SET hkj hkj0 hkj1 hsum
   have i0' := O.out.row.cell (k := z) (by rw [hol]; exact hkj)
   obtain ⟨x0, x1, x2⟩ := i0'
   have f0 := O.out.row.free (z * 3)
   have f1 := O.out.row.free (z * 3 + 1)
   have f2 := O.out.row.free (z * 3 + 2)
   clear hcc q0 q1 q2 O
   go_wp2_with fail
   refine wp_region_still_tail 9 (by kernel_rfl) (by kernel_rfl) ?_
   rw [show ({ wr with drawn := wr.drawn + 1 } : World) = wr.drew from rfl]
   have k8' : wr.drew.cell? ⟨g8, 0, none⟩ = some (.slice (some ⟨gg, 0, none⟩) n c3) := k8
   have q0'' : wr.drew.cell? ⟨b2, o2 + j * 3, none⟩ = some (.int .i32 r) := q0'
   have q1'' : wr.drew.cell? ⟨b2, o2 + j * 3 + 1, none⟩ = some (.int .i64 mm) := q1'
   have q2'' : wr.drew.cell? ⟨b2, o2 + j * 3 + 2, none⟩ = some (.int .i64 a) := q2'
   have x0' : wr.drew.cell? ⟨gg, z * 3, none⟩ = some (.int .i32 (cAt (putO l k (L.take j)) z).1) := x0
   have x1' : wr.drew.cell? ⟨gg, z * 3 + 1, none⟩ = some (.int .i64 (cAt (putO l k (L.take j)) z).2.1) := x1
   have x2' : wr.drew.cell? ⟨gg, z * 3 + 2, none⟩ = some (.int .i64 (cAt (putO l k (L.take j)) z).2.2) := x2
   have f0' : wr.drew.frozen? ⟨gg, z * 3, none⟩ = false := f0
   have f1' : wr.drew.frozen? ⟨gg, z * 3 + 1, none⟩ = false := f1
   have f2' : wr.drew.frozen? ⟨gg, z * 3 + 2, none⟩ = false := f2
   clear k8 q0' q1' q2' x0 x1 x2 f0 f1 f2
   generalize wr.drew = w5 at O5 k8' q0'' q1'' q2'' x0' x1' x2' f0' f1' f2' ⊢
   simp only [List.take_succ_cons, List.take_zero, List.drop_succ_cons, List.drop_zero]
   repeat still_step
   refine wpStill_nil ?_
   go_wp2_with fail
   go_roundw
   case rel => exact ⟨j + 1, by go_num, by omega, Lib.hid (SET.out _ O5.out)⟩
   case measure => first | (simp [intOf]; done) | (simp [intOf]; omega)
  ·have hje : j = m := by omega
   subst hje
   rw [show L.take j = L by rw [← LM.out]; exact List.take_length] at O
   obtain ⟨o, ho⟩ : ∃ o, putO l k L = o := ⟨_, rfl⟩
   have hon : o.length = n := by rw [← ho, putO_length (by rw [LM.out, LN.out]; exact hk)]; exact LN.out
   have ON := Lib.hid hon
   have HO := Lib.hid ho
   rw [ho] at O
   clear ho hon k8
   go_wp2_with fail
   go_loopw [9] (fun i wx => ∃ i' : Nat, i = .int .i64 i' ∧ i' ≤ n ∧ Hid (OA w gg g8 g1 n c3 wrap tail (scanK o i') wx)) (fun i _ => n - (intOf i).toNat)
   case atStart => exact ⟨0, rfl, Nat.zero_le _, O⟩
   case round =>
    rename_i w6
    clear O
    obtain ⟨i', rfl, hi', O⟩ := hrel
    have k8 := O.out.r8.get 0
    by_cases hin : i' < n
    ·obtain ⟨o6, ho6⟩ : ∃ o6, scanK o i' = o6 := ⟨_, rfl⟩
     have O6 := Lib.hid ho6
     have hol : o6.length = n := by rw [← ho6, scanK_length]; exact ON.out
     rw [ho6] at O
     obtain ⟨⟨r, mm, a⟩, hc⟩ : ∃ c, cAt o6 i' = c := ⟨_, rfl⟩
     obtain ⟨c0, c1, c2⟩ := O.out.row.cell (k := i') (by rw [hol]; exact hin)
     rw [hc] at c0 c1 c2
     replace c0 : wr.cell? ⟨gg, i' * 3, none⟩ = some (.int .i32 r) := c0
     replace c1 : wr.cell? ⟨gg, i' * 3 + 1, none⟩ = some (.int .i64 mm) := c1
     replace c2 : wr.cell? ⟨gg, i' * 3 + 2, none⟩ = some (.int .i64 a) := c2
     replace k8 : wr.cell? ⟨g8, 0, none⟩ = some (.slice (some ⟨gg, 0, none⟩) n c3) := k8
     have HC := Lib.hid hc
     have HL := Lib.hid hol
     clear hc ho6 hol
     go_upto_region 10 with fail
     have O' := Lib.hid (O.out.below ((Below.refl wr.heap.size wr).alloc (Nat.le_refl _) (.cells #[.int .i32 r, .int .i64 mm, .int .i64 a] 62)))
     have BX := Lib.hid (heap_alloc_new wr (.cells #[.int .i32 r, .int .i64 mm, .int .i64 a] 62))
     obtain ⟨g10, hg10⟩ : ∃ g, wr.heap.size = g := ⟨_, rfl⟩
     rw [hg10] at BX ⊢
     clear c0 c1 c2 k8 hg10 O
     generalize wr.alloc (.cells #[.int .i32 r, .int .i64 mm, .int .i64 a] 62) = w7 at O' BX ⊢
     have k8 : w7.cell? ⟨g8, 0, none⟩ = some (.slice (some ⟨gg, 0, none⟩) n c3) := O'.out.r8.get 0
     have d1 : w7.cell? ⟨g10, 1, none⟩ = some (.int .i64 mm) := by rw [cell_of_row _ _ _ _ _ (0, 0) BX.out]; rfl
     go_cut [11] from 30 to 87 (fun s11 wx => s11 = .bool (lone o6 i') ∧ Hid (OA w gg g8 g1 n c3 wrap tail o6 wx))
     case first =>
      by_cases h2 : mm = 2
      ·subst h2
       obtain ⟨z, hz⟩ : ∃ z, i' + 1 = z := ⟨_, rfl⟩
       have hs1 : IntKind.i64.wrap ((i' : Int) + 1) = (z : Int) := by rw [IntWalk.i64_in _ (by omega)]; omega
       by_cases hl : z = n
       ·have E := Lib.hid (show lone o6 i' = true by unfold lone; rw [HC.out, cAt_none (l := o6) (i := i' + 1) (by rw [HL.out]; omega)]; rfl)
        subst hl
        go_wp2_with fail
        go_meet
        exact ⟨by rw [E.out], O'⟩
       ·obtain ⟨⟨r', y, a'⟩, hy⟩ : ∃ c, cAt o6 z = c := ⟨_, rfl⟩
        have y1 : w7.cell? ⟨gg, z * 3 + 1, none⟩ = some (.int .i64 y) := by
         have h := (O'.out.row.cell (k := z) (by rw [HL.out]; omega)).2.1
         rwa [hy] at h
        have hzn : ((z : Int) == (n : Int)) = false := by simp; omega
        have hz0 : (0 : Int) ≤ (z : Int) := by omega
        have hzl : (z : Int) < (n : Int) := by omega
        have HY := Lib.hid (show cAt o6 (i' + 1) = (r', y, a') by rw [hz]; exact hy)
        clear hy
        by_cases hy0 : y = 0
        ·subst hy0
         have E := Lib.hid (show lone o6 i' = false by unfold lone; rw [HC.out, HY.out]; rfl)
         go_wp2_with fail
         go_meet
         exact ⟨by rw [E.out], O'⟩
        ·have hyb : (y == 0) = false := by simp; omega
         have E := Lib.hid (show lone o6 i' = true by unfold lone; rw [HC.out, HY.out]; show ((true && !(y == 0)) || _) = true; rw [hyb]; rfl)
         go_wp2_with fail
         go_meet
         exact ⟨by first | (rw [E.out]; done) | (show Value.bool (!(y == 0)) = _; rw [E.out, hyb]; rfl), O'⟩
      ·have hb2 : (mm == 2) = false := by simp; omega
       by_cases h0 : mm = 0
       ·subst h0
        by_cases hz : i' = 0
        ·have E := Lib.hid (show lone o6 i' = true by unfold lone cPrev; rw [HC.out, if_pos hz]; rfl)
         have hzb : ((i' : Int) == 0) = true := by simp; omega
         go_wp2_with fail
         go_meet
         exact ⟨by rw [E.out], O'⟩
        ·have hzb : ((i' : Int) == 0) = false := by simp; omega
         obtain ⟨z, hz1⟩ : ∃ z, i' - 1 = z := ⟨_, rfl⟩
         have hs1 : IntKind.i64.wrap ((i' : Int) - 1) = (z : Int) := by rw [IntWalk.i64_in _ (by omega)]; omega
         obtain ⟨⟨r', y, a'⟩, hy⟩ : ∃ c, cAt o6 z = c := ⟨_, rfl⟩
         have y1 : w7.cell? ⟨gg, z * 3 + 1, none⟩ = some (.int .i64 y) := by
          have h := (O'.out.row.cell (k := z) (by rw [HL.out]; omega)).2.1
          rwa [hy] at h
         have hz0 : (0 : Int) ≤ (z : Int) := by omega
         have hzl : (z : Int) < (n : Int) := by omega
         have HY := Lib.hid (show cPrev o6 i' = (r', y, a') by unfold cPrev; rw [if_neg hz, hz1]; exact hy)
         clear hy
         by_cases hy2 : y = 2
         ·subst hy2
          have E := Lib.hid (show lone o6 i' = false by unfold lone; rw [HC.out, HY.out]; rfl)
          go_wp2_with fail
          go_meet
          exact ⟨by rw [E.out], O'⟩
         ·have hyb : (y == 2) = false := by simp; omega
          have E := Lib.hid (show lone o6 i' = true by unfold lone; rw [HC.out, HY.out]; show (_ || (true && !(y == 2))) = true; rw [hyb]; simp)
          go_wp2_with fail
          go_meet
          exact ⟨by first | (rw [E.out]; done) | (show Value.bool (!(y == 2)) = _; rw [E.out, hyb]; rfl), O'⟩
       ·have hb0 : (mm == 0) = false := by simp; omega
        have E := Lib.hid (show lone o6 i' = false by unfold lone; rw [HC.out]; show ((mm == 2 && _) || (mm == 0 && _)) = false; rw [hb2, hb0]; rfl)
        go_wp2_with fail
        go_meet
        exact ⟨by rw [E.out], O'⟩
     case rest =>
      obtain ⟨rfl, O7⟩ := hcut
      clear O' BX k8 d1
      have k8 : wc.cell? ⟨g8, 0, none⟩ = some (.slice (some ⟨gg, 0, none⟩) n c3) := O7.out.r8.get 0
      obtain ⟨lo, hlo⟩ : ∃ lo, lone o6 i' = lo := ⟨_, rfl⟩
      have NX := Lib.hid (show scanK o (i' + 1) = if lo then o6.set i' (32, 1, 0) else o6 by rw [← hlo, ← O6.out]; rfl)
      rw [hlo]
      have hi0 : (0 : Int) ≤ (i' : Int) := by omega
      have hin1 : (i' : Int) < (n : Int) := by omega
      clear hlo
      cases lo with
      | false =>
       go_wp2_with fail
       go_roundw
       case rel => exact ⟨i' + 1, by go_num, by omega, by rw [NX.out]; exact O7⟩
       case measure => first | (simp [intOf]; done) | (simp [intOf]; omega)
      | true =>
       go_upto_region 12 with fail
       go_region_with (go_at_call 61; refine (refBlank_walk _).mono ?_; rintro e w8 ⟨rfl, b8⟩; (have O8 := Lib.hid (O7.out.below (((Below.refl wc.heap.size wc).drew).trans b8))); (have k8' : w8.cell? ⟨g8, 0, none⟩ = some (.slice (some ⟨gg, 0, none⟩) n c3) := O8.out.r8.get 0); obtain ⟨x0, x1, x2⟩ := O8.out.row.cell (k := i') (by rw [HL.out]; exact hin); (have f0 := O8.out.row.free (i' * 3)); (have f1 := O8.out.row.free (i' * 3 + 1)); (have f2 := O8.out.row.free (i' * 3 + 2)); clear b8)
       all_goals
        go_wp2_with fail
        go_roundw
        case rel => exact ⟨i' + 1, by go_num, by omega, by rw [NX.out]; exact Lib.hid (O8.out.set hgg8 hgg1 hgw (by rw [HL.out]; exact hin) 32 1 0)⟩
        case measure => first | (simp [intOf]; done) | (simp [intOf]; omega)
    ·have hie : i' = n := by omega
     subst hie
     replace k8 : wr.cell? ⟨g8, 0, none⟩ = some (.slice (some ⟨gg, 0, none⟩) i' c3) := k8
     have k81 : wr.cell? ⟨g8, 1, none⟩ = some (.bool wrap) := O.out.r8.get 1
     have z0 : wr.cell? ⟨g1, 0, none⟩ = some (.slice none 0 0) := O.out.z.get 0
     have z1 : wr.cell? ⟨g1, 1, none⟩ = some (.bool false) := O.out.z.get 1
     have zf0 := O.out.z.free 0
     have zf1 := O.out.z.free 1
     have RF := Lib.hid (RowAt.put2 O.out.z (.slice (some ⟨gg, 0, none⟩) i' c3) wrap)
     have OF := (OnlyRow.cell g1 0 wr (.slice (some ⟨gg, 0, none⟩) i' c3)).trans (OnlyRow.cell g1 1 _ (.bool wrap))
     have HF := Lib.hid (HasC.keep (CV.out wr _ (by rw [scanK_length]; exact ON.out) O.out.row) (fun j e => OF.block j (by cases e; exact hgg1)))
     have BF := Lib.hid (O.out.bel.trans ((Turned.ofOnly OF).toBelow O.out.bel.size (fun k hk e => by have := HG1.out; omega)))
     clear OF
     go_wp2
     generalize (wr.setCell ⟨g1, 0, none⟩ (.slice (some ⟨gg, 0, none⟩) i' c3)).setCell ⟨g1, 1, none⟩ (.bool wrap) = wz at RF HF BF ⊢
     have e0 : wz.cell? ⟨g1, 0, none⟩ = some (.slice (some ⟨gg, 0, none⟩) i' c3) := RF.out.get 0
     have e1 : wz.cell? ⟨g1, 1, none⟩ = some (.bool wrap) := RF.out.get 1
     refine bodyPost_ret (v := .agg #[.slice (some ⟨gg, 0, none⟩) i' c3, .bool wrap]) (by simp [results, Tryz.results62, go_sem, e0, e1]) rfl ?_
     rw [HO.out]
     exact ⟨_, _, _, rfl, HasC.mono HF.out (by have := HGW.out; omega), BF.out⟩
end Rw
namespace Rw
theorem blanksL_snoc (j : Nat) : blanksL (j + 1) = blanksL j ++ [(32, 1, 0)] := by unfold blanksL; exact List.replicate_succ' ..
theorem refMark_walk (A : Option Addr) (n c : Nat) (wrap : Bool) (l : List Cel) (k q : Nat) (w : World) (hn0 : 0 < n) (hn : n ≤ 1000000) (hq : Sq w w.heap.size 3 n A (flat l)) (hk : k + q ≤ n) :
  Calls Tryz.prog 171 #[rowV A n c wrap, .int .i64 (k : Int), .int .i64 (q : Int)] w fun e w' => OverPost wrap (scanK (putO l k (blanksL q)) n) w e w' := by
 obtain ⟨i0, hi0, hz0, hz1, hz2⟩ := info_parts infoCell
 have Q := Lib.hid hq
 clear hq
 go_enter Tryz.func171, Tryz.ntmps171
 go_wp2_with fail
 have ba := ((Below.refl w.heap.size w).alloc (Nat.le_refl _) (.cells #[.slice A n c, .bool wrap] 58)).alloc (by simp) (.cells #[.slice none 0 0, .bool false] 58)
 have r0 : RowAt ((w.alloc (.cells #[.slice A n c, .bool wrap] 58)).alloc (.cells #[.slice none 0 0, .bool false] 58)) w.heap.size (.slice A n c) wrap := (Below.heap_alloc _ _ _ (by simp)).trans (heap_alloc_new w _)
 have z0 : RowAt ((w.alloc (.cells #[.slice A n c, .bool wrap] 58)).alloc (.cells #[.slice none 0 0, .bool false] 58)) (w.heap.size + 1) (.slice none 0 0) false := by
  have h := heap_alloc_new (w.alloc (.cells #[.slice A n c, .bool wrap] 58)) (.cells #[.slice none 0 0, .bool false] 58)
  rw [World.size_alloc] at h
  exact h
 have sa : ((w.alloc (.cells #[.slice A n c, .bool wrap] 58)).alloc (.cells #[.slice none 0 0, .bool false] 58)).heap.size = w.heap.size + 2 := by simp
 generalize (w.alloc (.cells #[.slice A n c, .bool wrap] 58)).alloc (.cells #[.slice none 0 0, .bool false] 58) = wa at ba r0 z0 sa ⊢
 obtain ⟨g0, hg0⟩ : ∃ g0, w.heap.size = g0 := ⟨_, rfl⟩
 obtain ⟨g1, hg1⟩ : ∃ g1, g0 + 1 = g1 := ⟨_, rfl⟩
 rw [hg0, hg1] at z0
 rw [hg0] at r0 sa
 have HGW := Lib.hid (show wa.heap.size = g1 + 1 by omega)
 have HG1 := Lib.hid (show w.heap.size ≤ g1 by omega)
 have HG0 := Lib.hid hg0
 have HG01 := Lib.hid hg1
 have R0 := Lib.hid r0
 have Z0 := Lib.hid z0
 have BA := Lib.hid ba
 rw [hg0, hg1]
 clear hg0 hg1 ba r0 z0 sa
 go_loopw [7, 8] (fun v i wr => ∃ j : Nat, i = .int .i64 j ∧ j ≤ q ∧ Hid (HasC wr wa.heap.size v (blanksL j)) ∧ Hid (Below wa.heap.size wa wr)) (fun _ i _ => q - (intOf i).toNat)
 case atStart => exact ⟨0, rfl, Nat.zero_le _, Lib.hid (HasC.nothing _ _), Lib.hid (Below.refl _ _)⟩
 case round =>
  obtain ⟨j, rfl, hj, H, B⟩ := hrel
  have hsz := B.out.size
  by_cases hlt : j < q
  ·go_wp2_with fail
   refine (refBlank_walk wr).mono ?_
   rintro e w3 ⟨rfl, b3⟩
   have H3 := Lib.hid (HasC.keep (w' := w3) H.out (fun i e => b3.block i (HasC.lt H.out i e).2))
   have B3 := Lib.hid (B.out.trans (b3.mono hsz))
   have hsz3 := B3.out.size
   clear b3 H B
   obtain ⟨Av, cv, rfl, hcv⟩ := HasC.shape H3.out
   rw [blanksL_length] at hcv ⊢
   have OL := Lib.hid (fun j e => (HasC.lt H3.out j e))
   have ba := (Below.refl w3.heap.size w3).alloc (Nat.le_refl _) (.cells #[.int .i32 32, .int .i64 1, .int .i64 0] 62)
   have H4 := Lib.hid (HasC.keep (w' := w3.alloc (.cells #[.int .i32 32, .int .i64 1, .int .i64 0] 62)) H3.out (fun i e => ba.block i (HasC.lt H3.out i e).2))
   have B4 := Lib.hid (B3.out.trans (ba.mono hsz3))
   have SQ := Lib.hid (show Sq (w3.alloc (.cells #[.int .i32 32, .int .i64 1, .int .i64 0] 62)) (w3.alloc (.cells #[.int .i32 32, .int .i64 1, .int .i64 0] 62)).heap.size 3 1 (some ⟨w3.heap.size, 0, none⟩) (flat [(32, 1, 0)]) from ⟨rfl, fun _ => ⟨w3.heap.size, 0, rfl, by simp, fun j u hu => (cell_of_row _ _ _ _ _ (0, 0) (heap_alloc_new w3 _)).trans (by rw [Nat.zero_add, List.getElem?_toArray]; exact hu)⟩⟩)
   have hsz4 := B4.out.size
   clear ba
   have OWN := Lib.hid (show World.ownsRow (w3.alloc (.cells #[.int .i32 32, .int .i64 1, .int .i64 0] 62)) wa.heap.size 62 3 (.slice Av j cv) j (flat (blanksL j)) from by have h := H4.out; unfold HasC at h; rwa [blanksL_length] at h)
   clear H3 B3 H4
   have F24 : j + 1 ≤ maxLen ∧ (j + 1) * 24 ≤ 140737488355328 := by unfold maxLen; omega
   go_wp2_with (at_builtin; refine wpl_app rfl _ _ 51 rfl wa.heap.size 62 i0 (.agg #[.int .i32 0, .int .i64 0, .int .i64 0]) 3 24 Tryz.underlying51 hi0 hz0 hz1 hz2 rfl (by decide) (.slice Av j cv) j (flat (blanksL j)) rfl OWN.out (some ⟨w3.heap.size, 0, none⟩) 1 1 (flat [(32, 1, 0)]) rfl (w3.alloc (.cells #[.int .i32 32, .int .i64 1, .int .i64 0] 62)).heap.size SQ.out (flat_one _) F24.1 F24.2 hsz4 ?_; intro v' w4 hown hg _)
   have H5 := Lib.hid (show HasC w4 wa.heap.size v' (blanksL (j + 1)) from by unfold HasC; rw [blanksL_length, blanksL_snoc, flat_append]; exact hown)
   have B5 := Lib.hid (B4.out.grown hg hsz4 (fun i e => (World.ownsRow.lt OWN.out i e).1))
   clear hown hg OWN B4 SQ
   go_roundw
   case rel => exact ⟨j + 1, by go_num, by omega, H5, B5⟩
   case measure => first | (simp [intOf]; done) | (simp [intOf]; omega)
  ·obtain rfl : j = q := by omega
   obtain ⟨Av, cv, rfl, hcv⟩ := HasC.shape H.out
   rw [blanksL_length] at hcv ⊢
   have R0' := Lib.hid (show RowAt wr g0 (.slice A n c) wrap from (B.out.block g0 R0.out.lt).trans R0.out)
   have Z0' := Lib.hid (show RowAt wr g1 (.slice none 0 0) false from (B.out.block g1 Z0.out.lt).trans Z0.out)
   have y0 := R0'.out.get 0
   have y1 := R0'.out.get 1
   have BW := Lib.hid (BA.out.trans (B.out.mono BA.out.size))
   have SQ := Lib.hid (show Sq wr wr.heap.size 3 j Av (flat (blanksL j)) from by have h := HasC.sq H.out; rwa [blanksL_length] at h)
   clear R0 Z0
   go_wp2_with fail
   refine (refOver_walk A n c wrap l k Av j cv (blanksL j) wr hn0 hn ((Q.out.below BW.out).up BW.out.size) SQ.out hk).mono ?_
   rintro e w5 ⟨A5, n5, c5, rfl, h5, b5⟩
   have Z5 := Lib.hid (show RowAt w5 g1 (.slice none 0 0) false from (b5.block g1 Z0'.out.lt).trans Z0'.out)
   have B5 := Lib.hid (BW.out.trans (b5.mono BW.out.size))
   have z0 : w5.cell? ⟨g1, 0, none⟩ = some (.slice none 0 0) := Z5.out.get 0
   have z1 : w5.cell? ⟨g1, 1, none⟩ = some (.bool false) := Z5.out.get 1
   have zf0 := Z5.out.free 0
   have zf1 := Z5.out.free 1
   have RF := Lib.hid (RowAt.put2 Z5.out (.slice A5 n5 c5) wrap)
   have OF := (OnlyRow.cell g1 0 w5 (.slice A5 n5 c5)).trans (OnlyRow.cell g1 1 _ (.bool wrap))
   have HF := Lib.hid (HasC.keep h5 (fun j e => OF.block j (by have h1 := (HasC.lt h5 j e).1; have h2 := Z0'.out.lt; omega)))
   have BF := Lib.hid (B5.out.trans ((Turned.ofOnly OF).toBelow B5.out.size (fun k hk e => by have := HG1.out; omega)))
   have HWR := Lib.hid BW.out.size
   clear OF h5 b5 y0 y1 H B
   go_wp2
   generalize (w5.setCell ⟨g1, 0, none⟩ (.slice A5 n5 c5)).setCell ⟨g1, 1, none⟩ (.bool wrap) = wz at RF HF BF ⊢
   have e0 : wz.cell? ⟨g1, 0, none⟩ = some (.slice A5 n5 c5) := RF.out.get 0
   have e1 : wz.cell? ⟨g1, 1, none⟩ = some (.bool wrap) := RF.out.get 1
   refine bodyPost_ret (v := .agg #[.slice A5 n5 c5, .bool wrap]) (by simp [results, Tryz.results171, go_sem, e0, e1]) rfl ?_
   exact ⟨_, _, _, rfl, HasC.mono HF.out HWR.out, BF.out⟩
end Rw
namespace Rw
theorem refOver_none (A : Option Addr) (c : Nat) (wrap : Bool) (w : World) (hq : Sq w w.heap.size 3 0 A (flat [])) :
  Calls Tryz.prog 62 #[rowV A 0 c wrap, .int .i64 0, .slice none 0 0] w fun e w' => OverPost wrap [] w e w' := by
 have Q := Lib.hid hq
 clear hq
 go_enter Tryz.func62, Tryz.ntmps62
 go_wp2_with fail
 have ba := ((Below.refl w.heap.size w).alloc (Nat.le_refl _) (.cells #[.slice A 0 c, .bool wrap] 58)).alloc (by simp) (.cells #[.slice none 0 0, .bool false] 58)
 have z0 : RowAt ((w.alloc (.cells #[.slice A 0 c, .bool wrap] 58)).alloc (.cells #[.slice none 0 0, .bool false] 58)) (w.heap.size + 1) (.slice none 0 0) false := by
  have h := heap_alloc_new (w.alloc (.cells #[.slice A 0 c, .bool wrap] 58)) (.cells #[.slice none 0 0, .bool false] 58)
  rw [World.size_alloc] at h
  exact h
 have sa : ((w.alloc (.cells #[.slice A 0 c, .bool wrap] 58)).alloc (.cells #[.slice none 0 0, .bool false] 58)).heap.size = w.heap.size + 2 := by simp
 generalize (w.alloc (.cells #[.slice A 0 c, .bool wrap] 58)).alloc (.cells #[.slice none 0 0, .bool false] 58) = wa at ba z0 sa ⊢
 obtain ⟨g1, hg1⟩ : ∃ g1, w.heap.size + 1 = g1 := ⟨_, rfl⟩
 rw [hg1] at z0
 have HGW := Lib.hid (show w.heap.size + 2 = wa.heap.size by omega)
 have HG1 := Lib.hid (show w.heap.size ≤ g1 by omega)
 rw [hg1]
 refine (refCopy_walk A 0 c wrap [] wa ((Q.out.below ba).up ba.size) (by omega)).mono ?_
 rintro e w3 ⟨v3, rfl, hv3, b3⟩
 obtain ⟨A3, c3, rfl, hc3⟩ := HasC.shape hv3
 rw [List.length_nil] at hv3 hc3 ⊢
 have bw3 := ba.trans (b3.mono ba.size)
 have b4 := (Below.refl w3.heap.size w3).alloc (Nat.le_refl _) (.cells #[.slice A3 0 c3, .bool wrap] 58)
 obtain ⟨g8, hg8⟩ : ∃ g8, w3.heap.size = g8 := ⟨_, rfl⟩
 have R8 := Lib.hid (show RowAt (w3.alloc (.cells #[.slice A3 0 c3, .bool wrap] 58)) g8 (.slice A3 0 c3) wrap by rw [← hg8]; exact heap_alloc_new w3 _)
 have z03 : RowAt w3 g1 (.slice none 0 0) false := (b3.block g1 z0.lt).trans z0
 have Z0 := Lib.hid (show RowAt (w3.alloc (.cells #[.slice A3 0 c3, .bool wrap] 58)) g1 (.slice none 0 0) false from (b4.block g1 z03.lt).trans z03)
 have HV := Lib.hid (HasC.keep (w' := w3.alloc (.cells #[.slice A3 0 c3, .bool wrap] 58)) hv3 (fun j e => b4.block j (HasC.lt hv3 j e).2))
 have B4 := Lib.hid (bw3.trans (b4.mono bw3.size))
 have hne8 : g8 ≠ g1 := by have := z03.lt; omega
 have NG1 := Lib.hid (show ∀ j, (Value.slice A3 0 c3).ownBlock = some j → j ≠ g1 from fun j e e2 => by have := (HasC.lt hv3 j e).1; omega)
 have HG8 := Lib.hid hg8
 clear ba z0 sa b3 hv3 bw3 b4 z03 hg1 hg8
 go_wp2_with fail
 rw [HG8.out]
 generalize w3.alloc (.cells #[.slice A3 0 c3, .bool wrap] 58) = w4 at R8 Z0 B4 HV ⊢
 go_loopw [8] (fun i wr => i = .int .i64 0 ∧ wr = w4) (fun i _ => 0)
 case atStart => exact ⟨rfl, rfl⟩
 case round =>
  obtain ⟨rfl, rfl⟩ := hrel
  have k8 := R8.out.get 0
  go_wp2_with fail
  go_loopw [9] (fun i wx => i = .int .i64 0 ∧ wx = wr) (fun i _ => 0)
  case atStart => exact ⟨rfl, rfl⟩
  case round =>
   obtain ⟨rfl, rfl⟩ := hrel
   replace k8 : wr.cell? ⟨g8, 0, none⟩ = some (.slice A3 0 c3) := R8.out.get 0
   have k81 : wr.cell? ⟨g8, 1, none⟩ = some (.bool wrap) := R8.out.get 1
   have z0 : wr.cell? ⟨g1, 0, none⟩ = some (.slice none 0 0) := Z0.out.get 0
   have z1 : wr.cell? ⟨g1, 1, none⟩ = some (.bool false) := Z0.out.get 1
   have zf0 := Z0.out.free 0
   have zf1 := Z0.out.free 1
   have RF := Lib.hid (RowAt.put2 Z0.out (.slice A3 0 c3) wrap)
   have OF := (OnlyRow.cell g1 0 wr (.slice A3 0 c3)).trans (OnlyRow.cell g1 1 _ (.bool wrap))
   have HF := Lib.hid (HasC.keep HV.out (fun j e => OF.block j (NG1.out j e)))
   have BF := Lib.hid (B4.out.trans ((Turned.ofOnly OF).toBelow B4.out.size (fun k hk e => by have := HG1.out; omega)))
   clear OF
   go_wp2
   generalize (wr.setCell ⟨g1, 0, none⟩ (.slice A3 0 c3)).setCell ⟨g1, 1, none⟩ (.bool wrap) = wz at RF HF BF ⊢
   have e0 : wz.cell? ⟨g1, 0, none⟩ = some (.slice A3 0 c3) := RF.out.get 0
   have e1 : wz.cell? ⟨g1, 1, none⟩ = some (.bool wrap) := RF.out.get 1
   refine bodyPost_ret (v := .agg #[.slice A3 0 c3, .bool wrap]) (by simp [results, Tryz.results62, go_sem, e0, e1]) rfl ?_
   exact ⟨_, _, _, rfl, HasC.mono HF.out (by have := HGW.out; omega), BF.out⟩
theorem refMark_none (A : Option Addr) (c : Nat) (wrap : Bool) (w : World) (hq : Sq w w.heap.size 3 0 A (flat [])) :
  Calls Tryz.prog 171 #[rowV A 0 c wrap, .int .i64 0, .int .i64 0] w fun e w' => OverPost wrap [] w e w' := by
 have Q := Lib.hid hq
 clear hq
 go_enter Tryz.func171, Tryz.ntmps171
 go_wp2_with fail
 have ba := ((Below.refl w.heap.size w).alloc (Nat.le_refl _) (.cells #[.slice A 0 c, .bool wrap] 58)).alloc (by simp) (.cells #[.slice none 0 0, .bool false] 58)
 have r0 : RowAt ((w.alloc (.cells #[.slice A 0 c, .bool wrap] 58)).alloc (.cells #[.slice none 0 0, .bool false] 58)) w.heap.size (.slice A 0 c) wrap := (Below.heap_alloc _ _ _ (by simp)).trans (heap_alloc_new w _)
 have z0 : RowAt ((w.alloc (.cells #[.slice A 0 c, .bool wrap] 58)).alloc (.cells #[.slice none 0 0, .bool false] 58)) (w.heap.size + 1) (.slice none 0 0) false := by
  have h := heap_alloc_new (w.alloc (.cells #[.slice A 0 c, .bool wrap] 58)) (.cells #[.slice none 0 0, .bool false] 58)
  rw [World.size_alloc] at h
  exact h
 generalize (w.alloc (.cells #[.slice A 0 c, .bool wrap] 58)).alloc (.cells #[.slice none 0 0, .bool false] 58) = wa at ba r0 z0 ⊢
 obtain ⟨g0, hg0⟩ : ∃ g0, w.heap.size = g0 := ⟨_, rfl⟩
 obtain ⟨g1, hg1⟩ : ∃ g1, g0 + 1 = g1 := ⟨_, rfl⟩
 rw [hg0, hg1] at z0
 rw [hg0] at r0
 have HG1 := Lib.hid (show w.heap.size ≤ g1 by omega)
 have R0 := Lib.hid r0
 have Z0 := Lib.hid z0
 have BA := Lib.hid ba
 rw [hg0, hg1]
 clear hg0 hg1 ba r0 z0
 go_loopw [7, 8] (fun v i wr => v = .slice none 0 0 ∧ i = .int .i64 0 ∧ wr = wa) (fun _ i _ => 0)
 case atStart => exact ⟨rfl, rfl, rfl⟩
 case round =>
  obtain ⟨rfl, rfl, rfl⟩ := hrel
  have y0 := R0.out.get 0
  have y1 := R0.out.get 1
  go_wp2_with fail
  refine (refOver_none A c wrap wr ((Q.out.below BA.out).up BA.out.size)).mono ?_
  rintro e w5 ⟨A5, n5, c5, rfl, h5, b5⟩
  have Z5 := Lib.hid (show RowAt w5 g1 (.slice none 0 0) false from (b5.block g1 Z0.out.lt).trans Z0.out)
  have B5 := Lib.hid (BA.out.trans (b5.mono BA.out.size))
  have z0 : w5.cell? ⟨g1, 0, none⟩ = some (.slice none 0 0) := Z5.out.get 0
  have z1 : w5.cell? ⟨g1, 1, none⟩ = some (.bool false) := Z5.out.get 1
  have zf0 := Z5.out.free 0
  have zf1 := Z5.out.free 1
  have RF := Lib.hid (RowAt.put2 Z5.out (.slice A5 n5 c5) wrap)
  have OF := (OnlyRow.cell g1 0 w5 (.slice A5 n5 c5)).trans (OnlyRow.cell g1 1 _ (.bool wrap))
  have HF := Lib.hid (HasC.keep h5 (fun j e => OF.block j (by have h1 := (HasC.lt h5 j e).1; have h2 := Z0.out.lt; omega)))
  have BF := Lib.hid (B5.out.trans ((Turned.ofOnly OF).toBelow B5.out.size (fun k hk e => by have := HG1.out; omega)))
  have HWR := Lib.hid BA.out.size
  clear OF h5 b5 y0 y1
  go_wp2
  generalize (w5.setCell ⟨g1, 0, none⟩ (.slice A5 n5 c5)).setCell ⟨g1, 1, none⟩ (.bool wrap) = wz at RF HF BF ⊢
  have e0 : wz.cell? ⟨g1, 0, none⟩ = some (.slice A5 n5 c5) := RF.out.get 0
  have e1 : wz.cell? ⟨g1, 1, none⟩ = some (.bool wrap) := RF.out.get 1
  refine bodyPost_ret (v := .agg #[.slice A5 n5 c5, .bool wrap]) (by simp [results, Tryz.results171, go_sem, e0, e1]) rfl ?_
  exact ⟨_, _, _, rfl, HasC.mono HF.out HWR.out, BF.out⟩
end Rw
theorem refPad_walk (w : World) : Calls Tryz.prog 43 #[] w fun e w' => e = .returned (cellV 0 1 0) ∧ Below w.heap.size w w' := by
 go_enter Tryz.func43, Tryz.ntmps43
 go_wp2
 exact bodyPost_ret (v := cellV 0 1 0) (by simp [results, Tryz.results43, go_sem]) rfl ⟨rfl, (Below.refl _ _).alloc (Nat.le_refl _) _⟩
structure RC (w0 : World) (r n a : Int) (w : World) : Prop where
 c0 : w.cell? ⟨w0.heap.size, 0, none⟩ = some (.int .i32 r)
 c1 : w.cell? ⟨w0.heap.size, 1, none⟩ = some (.int .i64 n)
 c2 : w.cell? ⟨w0.heap.size, 2, none⟩ = some (.int .i64 a)
 below : Below w0.heap.size w0 w
theorem RC.step {w0 w w' : World} {r n a : Int} (h : RC w0 r n a w) (hb : Below w.heap.size w w') : RC w0 r n a w' := by
 have hl : w0.heap.size < w.heap.size := World.block_lt_of_cell? w _ h.c0
 exact ⟨(hb.cell (p := ⟨w0.heap.size, 0, none⟩) hl).trans h.c0, (hb.cell (p := ⟨w0.heap.size, 1, none⟩) hl).trans h.c1, (hb.cell (p := ⟨w0.heap.size, 2, none⟩) hl).trans h.c2, h.below.trans (hb.mono h.below.size)⟩
theorem RC.drew {w0 w : World} {r n a : Int} (h : RC w0 r n a w) : RC w0 r n a w.drew := ⟨h.c0, h.c1, h.c2, h.below.drew⟩
theorem RC.new (w : World) (r n a : Int) : RC w r n a (w.alloc (.cells #[.int .i32 r, .int .i64 n, .int .i64 a] 62)) := by
 have hb := heap_alloc_new w (.cells #[.int .i32 r, .int .i64 n, .int .i64 a] 62)
 exact ⟨by rw [cell_of_row _ _ _ _ _ (0, 0) hb]; rfl, by rw [cell_of_row _ _ _ _ _ (0, 0) hb]; rfl, by rw [cell_of_row _ _ _ _ _ (0, 0) hb]; rfl, (Below.refl _ _).alloc (Nat.le_refl _) _⟩
