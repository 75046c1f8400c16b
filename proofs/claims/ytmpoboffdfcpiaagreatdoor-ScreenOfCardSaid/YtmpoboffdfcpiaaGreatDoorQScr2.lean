import Derived.Test.YtmpoboffdfcpiaaGreatDoorQScr1
import Derived.Test.YtmpoboffdfcpiaaGreatDoorQBase4
set_option maxRecDepth 100000
set_option maxHeartbeats 3200000
namespace Go.Proofs.YtmpoboffdfcpiaaGreatDoor
open Go.ChangeShapes Go.WideShapes Go.ChangeAt Go.RowKit
namespace Sc
theorem onlyBlock (g : Nat) (w : World) (cs : Array Value) : OnlyRow g w (w.setRow g cs) := ⟨rfl, rfl, rfl, by simp [World.setRow], fun k hk => setRow_other w g k cs hk⟩
theorem step_room {P : Program} {ops : Array Oper} {o : Oper} {a : Act} {w : World} {K : Act → World → Prop} {Q : Exit → Act → World → Prop} {E : Prop} (hgd : o.guard = none) (s x : Operand) (t : TypeId)
  (ho : o.op = .call { callee := .builtin .append, args := #[s, x], argTypes := #[t, t] }) (e : TypeId) (i : TypeInfo) (ht : P.underlying t = some (.slice e)) (hi : P.info? e = some i) (size : Nat) (hsize : i.size = size)
  (g n cap : Nat) (hs : a.eval s = .slice (some ⟨g, 0, none⟩) n cap) (ad : Addr) (m c2 : Nat) (hx : a.eval x = .slice (some ad) m c2) (news : List Value) (hl : news.length = m * size)
  (hnews : ∀ j u, news[j]? = some u → w.cell? (ad.add j) = some u) (h1 : ∀ u ∈ news, u.oneCell' = true) (hroom : n + m ≤ cap) (cur : List Value) (t' : TypeId) (hg : w.heap[g]? = some (.cells cur.toArray t' (0, 0))) (hfit : n * size + news.length ≤ cur.length)
  (h : ∀ w', Hid (w'.heap[g]? = some (.cells (splice cur (n * size) news).toArray t' (0, 0))) → Hid (OnlyRow g w w') → K (a.put o.dst (.slice (some ⟨g, 0, none⟩) (n + m) cap)) w') :
  if Region.wanted o (yielded ops a.tmps) = true then Oper.wp P o a w K Q else E := by
 have hw : Region.wanted o (yielded ops a.tmps) = true := by simp [Region.wanted, hgd]
 rw [if_pos hw]
 subst hsize
 have hc : (Builtin.firstCells i.size m (.slice (some ad) m c2)).run P w = .ok news.toArray w := run_firstCells_some w i.size m ad m c2 news hl hnews
 have hst := run_storeCells_at P g (n * i.size) t' news 0 cur.toArray w hg (by simpa using hfit) h1
 simp only [Nat.add_zero] at hst
 have hrun : (Builtin.append_ #[t, t] o.type #[.slice (some ⟨g, 0, none⟩) n cap, .slice (some ad) m c2]).run P w = .ok (.slice (some ⟨g, 0, none⟩) (n + m) cap) (w.setRow g (cur.toArray.toList.take (n * i.size) ++ news ++ cur.toArray.toList.drop (n * i.size + news.length)).toArray) := by
  simp [Builtin.append_, run_underlying ht, sizeOf, typeInfo, hi, Builtin.lenOf, hroom, hc, Addr.add_lit, hst]
 unfold Oper.wp
 simp only [execOp, ho, resolve, invoke, builtin, Sem.run_bind, Sem.run_pure, Result.andThen_ok, List.map_toArray, List.map_cons, List.map_nil, hs, hx, hrun]
 exact h _ (show _ = _ by simpa [splice] using setRow_heap w g _ _ t' _ hg) (onlyBlock g w _)
theorem wpl_clearRow {P : Program} {w : World} {ops : Array Oper} {rest : List Oper} {o : Oper} {a : Act} {Q : Exit → Act → World → Prop} (hgd : o.guard = none) (d : Operand) (dT : TypeId)
  (ho : o.op = .call { callee := .builtin .clear, args := #[d], argTypes := #[dT] }) (elem : TypeId) (hu : P.underlying dT = some (.slice elem)) (z : Value) (hv : ∀ w, (zeroValue elem).run P w = .ok z w) (zs : List Value) (hz : z.cells.toList = zs) (h1 : ∀ v ∈ zs, v.oneCell' = true)
  (c : Nat) (g off : Nat) (hd : a.eval d = .slice (some ⟨g, off, none⟩) 1 c)
  (cur : List Value) (t : TypeId) (hg : w.heap[g]? = some (.cells cur.toArray t (0, 0))) (hfit : off + zs.length ≤ cur.length)
  (h : ∀ w', Hid (w'.heap[g]? = some (.cells (splice cur off zs).toArray t (0, 0))) → Hid (OnlyRow g w w') → wpList P ops Q rest (a.put o.dst (.tuple #[])) w') : wpList P ops Q (o :: rest) a w := by
 have hzc : (Builtin.zeroCells z.cells 1).toList = zs := by
  rw [← hz]
  unfold Builtin.zeroCells
  apply List.ext_getElem
  ·simp
  ·intro i h1 h2
   simp at h1
   simp [Nat.mod_eq_of_lt h1]
   exact getElem!_pos _ _ _
 have hst := run_storeCells_at P g off t zs 0 cur.toArray w hg (by simpa using hfit) h1
 simp only [Nat.add_zero] at hst
 have hrun : (Builtin.clear_ #[dT] o.type #[.slice (some ⟨g, off, none⟩) 1 c]).run P w = .ok (.tuple #[]) (w.setRow g (cur.toArray.toList.take off ++ zs ++ cur.toArray.toList.drop (off + zs.length)).toArray) := by
  simp [Builtin.clear_, run_underlying hu, hv, hzc, hst]
 refine wpList_plain hgd fun K hK => ?_
 unfold Oper.wp
 simp only [execOp, ho, resolve, invoke, builtin, Sem.run_bind, Sem.run_pure, Result.andThen_ok, List.map_toArray, List.map_cons, List.map_nil, hd, hrun]
 exact hK _ _ (h _ (show _ = _ by simpa [splice] using setRow_heap w g _ _ t _ hg) (onlyBlock g w _))
theorem infoRow' : (Tryz.prog.info? 58).map (fun i => (i.zero, i.size, i.bytes)) = some (some (.agg #[.slice none 0 0, .bool false]), 2, 32) := by kernel_rfl
theorem splice_del (vs : List Value) (q : Nat) (h : vs.length = q * 2 + 2) (z : List Value) (hz : z.length = 2) : splice (splice vs 0 (vs.drop 2)) (q * 2) z = vs.drop 2 ++ z := by
 have hd : (vs.drop 2).length = q * 2 := by rw [List.length_drop]; omega
 have hb : (vs.drop (q * 2)).length = 2 := by rw [List.length_drop]; omega
 have e1 : splice vs 0 (vs.drop 2) = vs.drop 2 ++ vs.drop (q * 2) := by simp [splice, hd]
 rw [e1]
 generalize vs.drop (q * 2) = B at hb
 generalize vs.drop 2 = C at hd
 have t1 : (C ++ B).take (q * 2) = C := by rw [← hd]; exact List.take_left
 have t2 : (C ++ B).drop (q * 2 + z.length) = [] := List.drop_of_length_le (by rw [List.length_append]; omega)
 unfold splice
 rw [t1, t2, List.append_nil]
theorem del_one (g : Nat) (vs : List Value) (w : World) (hl : vs.length = 0 + 2) (one : ∀ v ∈ vs, v.oneCell' = true) (hg : w.heap[g]? = some (.cells vs.toArray 58 (0, 0))) :
  Calls Tryz.prog 167 #[.slice (some ⟨g, 0, none⟩) 1 1, .int .i64 0, .int .i64 1] w fun e w' => e = .returned (.slice (some ⟨g, 0, none⟩) 0 1) ∧ w'.heap[g]? = some (.cells (vs.drop 2 ++ [Value.slice none 0 0, Value.bool false]).toArray 58 (0, 0)) ∧ OnlyRow g w w' := by
 obtain ⟨i0, hi, hz0, hz1, hz2⟩ := info_parts infoRow'
 have HG := Lib.hid (show w.drew.heap[g]? = some (.cells vs.toArray 58 (0, 0)) from hg)
 have HL := Lib.hid hl
 have HN := Lib.hid (show ∀ j u, (vs.drop 2)[j]? = some u → w.drew.cell? ((⟨g, 0, none⟩ : Addr).add j) = some u from fun j u hj => by
  have hj2 := (List.getElem?_eq_some_iff.1 hj).1
  rw [List.length_drop] at hj2
  rw [List.getElem?_drop] at hj
  first
   | (exfalso; omega)
   | (rw [add_at', cell_of_row _ g _ _ _ (0, 0) HG.out, List.getElem?_toArray]; exact hj))
 have HO := Lib.hid (show ∀ v ∈ vs.drop 2, v.oneCell' = true from fun v hv => one v (List.mem_of_mem_drop hv))
 have LD := Lib.hid (show (vs.drop 2).length = 0 by rw [List.length_drop]; omega)
 clear hg hl one
 go_enter Tryz.func167, Tryz.ntmps167
 go_wp2_with fail
 go_region_law (refine step_room rfl (.tmp 22) (.tmp 25) 22 rfl 58 i0 Tryz.underlying22 hi 2 hz1 g 0 1 (by simp [Act.eval, Act.put]) ⟨g, 0, none⟩ 0 0 (by simp [Act.eval, Act.put]) (vs.drop 2) LD.out HN.out HO.out (by omega) vs 58 HG.out (by rw [LD.out, HL.out]; omega) ?_; intro w2 hg2 ho2)
 all_goals
  have G2 := Lib.hid (show w2.heap[g]? = some (.cells (splice vs 0 (vs.drop 2)).toArray 58 (0, 0)) by simpa using hg2.out)
  have O2 := Lib.hid (OnlyRow.ofDrew ho2.out)
  have L2 := Lib.hid (show (splice vs 0 (vs.drop 2)).length = vs.length from length_splice _ _ _ (by rw [LD.out, HL.out]; omega))
  clear hg2 ho2
  go_wp2_with (refine wpl_clearRow rfl (.tmp 31) 22 rfl 58 Tryz.underlying22 (.agg #[.slice none 0 0, .bool false]) (fun _ => rfl) [.slice none 0 0, .bool false] rfl (by simp [Value.oneCell']) 1 g 0 (by simp [Act.eval]) (splice vs 0 (vs.drop 2)) 58 G2.out (by rw [L2.out, HL.out]; simp) ?_; intro w3 hg3 ho3; have D := Lib.hid (And.intro hg3.out (O2.out.trans ho3.out)); clear hg3 ho3)
  go_ret
  refine ⟨rfl, ?_, D.out.2⟩
  rw [← splice_del vs 0 (by rw [HL.out]) [.slice none 0 0, .bool false] rfl]
  exact D.out.1
theorem del_more (g q : Nat) (vs : List Value) (w : World) (hl : vs.length = (q * 2) + 2) (hq : q ≤ 1000) (hq0 : ¬ q = 0) (one : ∀ v ∈ vs, v.oneCell' = true) (hg : w.heap[g]? = some (.cells vs.toArray 58 (0, 0))) :
  Calls Tryz.prog 167 #[.slice (some ⟨g, 0, none⟩) (q + 1) (q + 1), .int .i64 0, .int .i64 1] w fun e w' => e = .returned (.slice (some ⟨g, 0, none⟩) q (q + 1)) ∧ w'.heap[g]? = some (.cells (vs.drop 2 ++ [Value.slice none 0 0, Value.bool false]).toArray 58 (0, 0)) ∧ OnlyRow g w w' := by
 obtain ⟨i0, hi, hz0, hz1, hz2⟩ := info_parts infoRow'
 have HG := Lib.hid (show w.drew.heap[g]? = some (.cells vs.toArray 58 (0, 0)) from hg)
 have HL := Lib.hid hl
 have HN := Lib.hid (show ∀ j u, (vs.drop 2)[j]? = some u → w.drew.cell? ((⟨g, 2, none⟩ : Addr).add j) = some u from fun j u hj => by
  have hj2 := (List.getElem?_eq_some_iff.1 hj).1
  rw [List.length_drop] at hj2
  rw [List.getElem?_drop] at hj
  first
   | (exfalso; omega)
   | (rw [add_at', cell_of_row _ g _ _ _ (0, 0) HG.out, List.getElem?_toArray]; exact hj))
 have HO := Lib.hid (show ∀ v ∈ vs.drop 2, v.oneCell' = true from fun v hv => one v (List.mem_of_mem_drop hv))
 have LD := Lib.hid (show (vs.drop 2).length = (q * 2) by rw [List.length_drop]; omega)
 have d0 : (0 : Int) ≤ (q : Int) + 1 := by omega
 have d1 : (1 : Int) ≤ (q : Int) + 1 := by omega
 have d2 : (q : Int) ≤ (q : Int) + 1 := by omega
 have n1 : ((q : Int) + 1).toNat = q + 1 := by omega
 clear hg hl one
 go_enter Tryz.func167, Tryz.ntmps167
 go_wp2_with fail
 go_region_law (refine step_room rfl (.tmp 22) (.tmp 25) 22 rfl 58 i0 Tryz.underlying22 hi 2 hz1 g 0 (q + 1) (by simp [Act.eval, Act.put]) ⟨g, 2, none⟩ q q (by simp [Act.eval, Act.put]) (vs.drop 2) LD.out HN.out HO.out (by omega) vs 58 HG.out (by rw [LD.out, HL.out]; omega) ?_; intro w2 hg2 ho2)
 all_goals
  have G2 := Lib.hid (show w2.heap[g]? = some (.cells (splice vs 0 (vs.drop 2)).toArray 58 (0, 0)) by simpa using hg2.out)
  have O2 := Lib.hid (OnlyRow.ofDrew ho2.out)
  have L2 := Lib.hid (show (splice vs 0 (vs.drop 2)).length = vs.length from length_splice _ _ _ (by rw [LD.out, HL.out]; omega))
  clear hg2 ho2
  go_wp2_with (refine wpl_clearRow rfl (.tmp 31) 22 rfl 58 Tryz.underlying22 (.agg #[.slice none 0 0, .bool false]) (fun _ => rfl) [.slice none 0 0, .bool false] rfl (by simp [Value.oneCell']) 1 g (q * 2) (by simp [Act.eval]) (splice vs 0 (vs.drop 2)) 58 G2.out (by rw [L2.out, HL.out]; simp) ?_; intro w3 hg3 ho3; have D := Lib.hid (And.intro hg3.out (O2.out.trans ho3.out)); clear hg3 ho3)
  go_ret
  refine ⟨rfl, ?_, D.out.2⟩
  rw [← splice_del vs q (by rw [HL.out]) [.slice none 0 0, .bool false] rfl]
  exact D.out.1
theorem rowsDelete_walk (g q : Nat) (vs : List Value) (w : World) (hl : vs.length = q * 2 + 2) (hq : q ≤ 1000) (one : ∀ v ∈ vs, v.oneCell' = true) (hg : w.heap[g]? = some (.cells vs.toArray 58 (0, 0))) :
  Calls Tryz.prog 167 #[.slice (some ⟨g, 0, none⟩) (q + 1) (q + 1), .int .i64 0, .int .i64 1] w fun e w' => e = .returned (.slice (some ⟨g, 0, none⟩) q (q + 1)) ∧ w'.heap[g]? = some (.cells (vs.drop 2 ++ [Value.slice none 0 0, Value.bool false]).toArray 58 (0, 0)) ∧ OnlyRow g w w' := by
 by_cases hq0 : q = 0
 ·subst hq0
  exact del_one g vs w hl one hg
 ·exact del_more g q vs w hl hq hq0 one hg
end Sc
namespace Sc
open Rw
theorem moveTo_walk {p g : Nat} {s : Scr} {xs : List RowIn} (line col : Int) (w : World) (h : ScAt w p g s xs) : Calls Tryz.prog 118 #[ptrS p, .int .i64 line, .int .i64 col] w fun e w' => Done p g (moveS s line col) xs w e w' := by
 have hd := h.laid (Below.refl _ _).drew
 have hne := hd.ne
 obtain ⟨X, hX⟩ : ∃ X, min (max line 0) ((s.rows.length - 1 : Nat) : Int) = X := ⟨_, rfl⟩
 obtain ⟨Y, hY⟩ : ∃ Y, min (max col 0) ((s.w - 1 : Nat) : Int) = Y := ⟨_, rfl⟩
 have CL : ∀ w, Calls Tryz.prog 56 #[.int .i64 line, .int .i64 0, .int .i64 ((s.rows.length - 1 : Nat) : Int)] w fun e w' => e = .returned (.int .i64 X) ∧ w = w' := fun w => by rw [← hX]; exact clamp_walk _ _ _ w
 have CC : ∀ w, Calls Tryz.prog 56 #[.int .i64 col, .int .i64 0, .int .i64 ((s.w - 1 : Nat) : Int)] w fun e w' => e = .returned (.int .i64 Y) ∧ w = w' := fun w => by rw [← hY]; exact clamp_walk _ _ _ w
 have D := Lib.hid (show ScAt ((w.drew.setCell ⟨p, 2, none⟩ (.int .i64 X)).setCell ⟨p, 3, none⟩ (.int .i64 Y)) p g (moveS s line col) xs ∧ Went w ((w.drew.setCell ⟨p, 2, none⟩ (.int .i64 X)).setCell ⟨p, 3, none⟩ (.int .i64 Y)) p g xs xs from by
  have h1 := h.ok.h1
  have h2 := h.ok.w2
  have e1 : X = (((min (max line 0) ((s.rows.length : Int) - 1)).toNat : Nat) : Int) := by omega
  have e2 : Y = (((min (max col 0) ((s.w : Int) - 1)).toNat : Nat) : Int) := by omega
  rw [e1, e2]
  exact ⟨(hd.setRow (r := (min (max line 0) ((s.rows.length : Int) - 1)).toNat) (by omega)).setCol (c := (min (max col 0) ((s.w : Int) - 1)).toNat) (by show _ ≤ s.w; omega), ((Went.laid (Below.refl _ _).drew).trans (Went.cell 2 _)).trans (Went.cell 3 _)⟩)
 go_enter Tryz.func118, Tryz.ntmps118
 go_wp2_with fail
 refine Ord.start (S := fun W => W = w.drew ∨ W = (w.drew.setCell ⟨p, 2, none⟩ (.int .i64 X)).setCell ⟨p, 3, none⟩ (.int .i64 Y)) (n := 20) (by kernel_rfl) (by kernel_rfl) (.inl rfl) ?_
 apply move_region (w1 := w.drew) (p := p) (g := g) (sw := s.w) (sh := s.rows.length) (line := line) (col := col) (X := X) (Y := Y) (p3 := undef) (p4 := undef) (p5 := undef)
 case R => exact ⟨by kernel_rfl, by kernel_rfl⟩
 case hQ => exact fun _ _ _ _ _ h => h
 case k0 =>
  rintro W (rfl | rfl)
  ·exact hd.get 0
  ·exact (World.cell?_setCell_other _ _ _ _ (by simp)).trans ((World.cell?_setCell_other _ _ _ _ (by simp)).trans (hd.get 0))
 case k1 =>
  rintro W (rfl | rfl)
  ·exact hd.get 1
  ·exact (World.cell?_setCell_other _ _ _ _ (by simp)).trans ((World.cell?_setCell_other _ _ _ _ (by simp)).trans (hd.get 1))
 case k2 => exact ⟨_, hd.get 2⟩
 case k3 => exact ⟨_, hd.get 3⟩
 case f2 => exact hd.free 2
 case f3 => exact hd.free 3
 case hh => have := h.ok.h1; have := h.ok.h2; rw [IntWalk.i64_in _ (by omega)]; omega
 case hw => have := h.ok.w2; have := h.ok.w3; rw [IntWalk.i64_in _ (by omega)]; omega
 case CL => exact CL
 case CC => exact CC
 case F => exact ⟨rfl, rfl, rfl, rfl, rfl, rfl, rfl, rfl⟩
 intro a2 F2
 refine move_frame F2.size F2.defers F2.s0 F2.s1 F2.s2 F2.s3 F2.s4 F2.s5 ?_
 intros
 clear F2 CL CC hX hY
 try dsimp only
 go_wp2
 go_end0
 exact ⟨⟨_, rfl⟩, xs, D.out⟩
theorem ScAt.sq {W : World} {p g : Nat} {s : Scr} {xs : List RowIn} (h : ScAt W p g s xs) {i : Nat} {x : RowIn} (hx : xs[i]? = some x) : Sq W W.heap.size 3 x.n x.A (flat x.l) := HasC.sq (h.each x (List.mem_of_getElem? hx)).1
theorem putRow_done {p g : Nat} {s : Scr} {xs : List RowIn} {w W : World} {i n c : Nat} {A : Option Addr} {x : RowIn} {l : List Cel} {wr : Bool} {f : SR → SR} (h : ScAt w p g s xs) (hx : xs[i]? = some x) (hf : (l, wr) = f (sr x)) (hok : Ok { s with rows := s.rows.modify i f }) (hW : HasC W w.heap.size (.slice A n c) l) (hlen : l.length = s.w) (hb : Below w.heap.size w W) :
  ∃ xs', ScAt ((W.setCell ⟨g, i * 2, none⟩ (.slice A n c)).setCell ⟨g, i * 2 + 1, none⟩ (.bool wr)) p g { s with rows := s.rows.modify i f } xs' ∧ Went w ((W.setCell ⟨g, i * 2, none⟩ (.slice A n c)).setCell ⟨g, i * 2 + 1, none⟩ (.bool wr)) p g xs xs' := by
 have hn : n = s.w := by
  obtain ⟨_, _, e, _⟩ := HasC.shape hW
  injection e with _ e _
  rw [e, hlen]
 obtain ⟨k, hk, hk1, hk2⟩ := fresh_row hW (by rw [hn]; have := h.ok.w2; omega)
 have hA : ∀ z ∈ xs, z.A ≠ A := fun z hz e => by
  obtain ⟨k', hk', _, hlt⟩ := fresh_row (h.each z hz).1 (by rw [(h.each z hz).2]; have := h.ok.w2; omega)
  rw [hk', hk] at e
  injection e with e
  injection e with e
  omega
 have hp := (h.laid hb).putRow (x := ⟨A, n, c, wr, l⟩) (f := f) hx hf hok (HasC.mono hW (Nat.zero_le _)) hn (.inr hA)
 refine ⟨_, hp, ⟨?_, fun z hz => ?_⟩⟩
 ·exact (Turned.ofBelow hb _).trans ((Turned.ofOnly ((OnlyRow.cell g _ W _).trans (OnlyRow.cell g _ _ _))).mono (fun _ _ e => .inr e)) (fun _ _ h => h)
 ·rcases List.mem_or_eq_of_mem_set hz with hz | rfl
  ·exact .inl ⟨z, hz, rfl⟩
  ·exact .inr ⟨k, hk, hk1⟩
theorem set_walk {p g : Nat} {s : Scr} {xs : List RowIn} (lA : Option Addr) (lm lc : Nat) (L : List Cel) (w : World) (hs : Spans w) (h : ScAt w p g s xs) (hL : ∀ c ∈ L, -2147483648 ≤ c.1 ∧ c.1 ≤ 2147483647) (hm : lm ≤ 1000000) (hq : Sq w w.heap.size 3 lm lA (flat L)) : Calls Tryz.prog 112 #[ptrS p, .slice lA lm lc] w fun e w' => Done p g (setS s L) xs w e w' := by
 obtain ⟨x, hx, hsr, hc, hn, hg, hl, hsg⟩ := h.at' h.ok.row
 have hd := h.laid (Below.refl _ _).drew
 have SW := rowSet_walk x.A x.n x.c x.wrap x.l (s.c : Int) lA lm lc L w.drew (hs.below (Below.refl _ _).drew hs.size) hsg hL (hd.sq hx) (by rw [hn]; have := h.ok.w3; omega) hm (hq.below (Below.refl _ _).drew)
 go_enter Tryz.func112, Tryz.ntmps112
 go_wp2_with fail
 refine Ord.start (S := fun W => W.heap[p]? = w.drew.heap[p]?) (n := 32) (by kernel_rfl) (by kernel_rfl) rfl ?_
 have ofp : ∀ (W : World) (j : Nat), W.heap[p]? = w.drew.heap[p]? → W.cell? ⟨p, j, none⟩ = (scells s g)[j]? := fun W j e => cell_of_row W p j _ _ (0, 0) (e.trans hd.scr)
 apply set_region (w1 := w.drew) (p := p) (g := g) (sh := s.rows.length) (i := s.r) (c := s.c) (xA := x.A) (xn := x.n) (xc := x.c) (xw := x.wrap) (lA := lA) (lm := lm) (lc := lc) (p2 := undef) (p3 := undef) (K := fun W A n c => HasC W w.drew.heap.size (.slice A n c) (setRes x.l (s.c : Int) L) ∧ Below w.drew.heap.size w.drew W)
 case R => exact ⟨by kernel_rfl, by kernel_rfl⟩
 case hQ => exact fun _ _ _ _ _ h => h
 case k1 => exact fun W e => ofp W 1 e
 case k2 => exact fun W e => ofp W 2 e
 case k3 => exact fun W e => ofp W 3 e
 case hi0 => omega
 case hih => have := h.ok.row; omega
 case g0 => exact (hd.row hx).1
 case g1 => exact (hd.row hx).2
 case SW =>
  refine SW.mono ?_
  rintro e w' ⟨A, n, c, rfl, h1, h2⟩
  exact ⟨A, n, c, rfl, h1, h2⟩
 case KS => exact fun W A n c hK => hK.2.block p hd.ltp
 case KG => exact fun W A n c hK => ⟨⟨_, ((hd.laid hK.2).row hx).1⟩, ⟨_, ((hd.laid hK.2).row hx).2⟩, (hd.laid hK.2).freeg _, (hd.laid hK.2).freeg _⟩
 case KE => exact fun W A n c hK => (Below.heap_setCell _ _ _ _ (by exact hd.ne)).trans ((Below.heap_setCell _ _ _ _ (by exact hd.ne)).trans (hK.2.block p hd.ltp))
 case F => exact ⟨rfl, rfl, rfl, rfl, rfl, rfl⟩
 intro a2 W A n c hK F2
 have D : Done p g (setS s L) xs w (.returned (.tuple #[])) ((W.setCell ⟨g, s.r * 2, none⟩ (.slice A n c)).setCell ⟨g, s.r * 2 + 1, none⟩ (.bool x.wrap)) := by
  obtain ⟨xs', h1, h2⟩ := putRow_done (f := setR s.c L) hd hx rfl (h.ok.set hL) hK.1 (setRes_ok (x := sr x) ⟨hg, hl, hsg⟩ hL).2.1 hK.2
  exact ⟨⟨_, rfl⟩, xs', h1, (Went.laid (Below.refl _ _).drew).trans h2⟩
 have D' := Lib.hid D
 refine set_frame F2.size F2.defers F2.s0 F2.s1 F2.s2 F2.s3 ?_
 intros
 clear F2 D SW hK
 try dsimp only
 go_wp2
 go_end0
 exact D'.out
end Sc
namespace Sc
open Rw
def Told (p g : Nat) (s' : Scr) (out : List SR) (wd : Nat) (xs : List RowIn) (w : World) (e : Ending) (w' : World) : Prop :=
 ∃ v ys xs', e = .returned v ∧ ScAt w' p g s' xs' ∧ Went w w' p g xs xs' ∧ RowsIn w' w.heap.size v ys ∧ ys.map sr = out ∧ ∀ y ∈ ys, y.n = wd ∧ ((∃ z ∈ xs, z.A = y.A) ∨ ∃ k, y.A = some ⟨k, 0, none⟩ ∧ w.heap.size ≤ k) ∧ ∀ z ∈ xs', z.A ≠ y.A
theorem told_none {p g : Nat} {s' : Scr} {wd : Nat} {xs xs' : List RowIn} {w w' : World} (h : ScAt w' p g s' xs') (hw : Went w w' p g xs xs') : Told p g s' [] wd xs w (.returned (.slice none 0 0)) w' :=
 ⟨_, [], xs', rfl, h, hw, RowsIn.nothing _ _, rfl, fun _ h => by cases h⟩
theorem vals_length (xs : List RowIn) : (xs.flatMap RowIn.vals).length = xs.length * 2 := flatMap_len RowIn.vals 2 (fun _ => rfl) xs
theorem shifted {W W1 : World} {p g : Nat} {s : Scr} {x : RowIn} {xs : List RowIn} {y : RowIn} (h : ScAt W p g s (x :: xs)) (hr : ¬ s.r + 1 < s.rows.length) (hp : W1.heap[p]? = W.heap[p]?) (hg : W1.heap[g]? = some (.cells ((xs ++ [y]).flatMap RowIn.vals).toArray 58 (0, 0)))
  (ht : Turned (fun k => k = p ∨ k = g) W W1) (hy : HasC W1 W.heap.size (.slice y.A y.n y.c) y.l) (hl : sr y = (blanksL s.w, false)) : ScAt W1 p g (downS s) (xs ++ [y]) ∧ Went W W1 p g (x :: xs) (xs ++ [y]) ∧ ∀ z ∈ xs ++ [y], z.A ≠ x.A := by
 have hyl : y.l = blanksL s.w := congrArg Prod.fst hl
 have hyn : y.n = s.w := by
  obtain ⟨_, _, e, _⟩ := HasC.shape hy
  injection e with _ e _
  rw [e, hyl, blanksL_length]
 have w2 := h.ok.w2
 obtain ⟨k, hk, hk1, hk2⟩ := fresh_row hy (by rw [hyn]; omega)
 have old : ∀ z ∈ x :: xs, z.A ≠ y.A := fun z hz e => by
  obtain ⟨k', hk', _, hlt⟩ := fresh_row (h.each z hz).1 (by rw [(h.each z hz).2]; omega)
  rw [hk', hk] at e
  injection e with e
  injection e with e
  omega
 have hd : downS s = { s with rows := s.rows.drop 1 ++ [(blanksL s.w, false)] } := by unfold downS; rw [if_neg hr]
 have hap := h.apart
 rw [List.map_cons, List.nodup_cons] at hap
 refine ⟨⟨h.ok.down, ?_, ?_, hg, fun z hz => ?_, ?_⟩, ⟨ht, fun z hz => ?_⟩, fun z hz => ?_⟩
 ·rw [hd]
  show (xs ++ [y]).map sr = s.rows.drop 1 ++ [(blanksL s.w, false)]
  rw [List.map_append, ← h.same]
  simp [hl]
 ·rw [hp, h.scr, hd]
  unfold scells
  have e : (s.rows.drop 1 ++ [(blanksL s.w, false)]).length = s.rows.length := by
   have := h.ok.h1
   rw [List.length_append, List.length_drop, List.length_singleton]; omega
  simp only [e]
 ·rw [show (downS s).w = s.w from (downS_w s).1]
  rcases List.mem_append.1 hz with hz | hz
  ·have hz' := h.each z (List.mem_cons_of_mem _ hz)
   exact ⟨hasC_turned hz'.1 ht h.noC, hz'.2⟩
  ·rw [List.mem_singleton.1 hz]
   exact ⟨HasC.mono hy (Nat.zero_le _), hyn⟩
 ·rw [List.map_append, List.map_cons, List.map_nil]
  refine List.nodup_append.2 ⟨hap.2, by simp, fun a ha b hb => ?_⟩
  obtain ⟨z, hz, rfl⟩ := List.mem_map.1 ha
  rw [List.mem_singleton.1 hb]
  exact old z (List.mem_cons_of_mem _ hz)
 ·rcases List.mem_append.1 hz with hz | hz
  ·exact .inl ⟨z, List.mem_cons_of_mem _ hz, rfl⟩
  ·rw [List.mem_singleton.1 hz]
   exact .inr ⟨k, hk, hk1⟩
 ·rcases List.mem_append.1 hz with hz | hz
  ·exact fun e => hap.1 (by rw [← e]; exact List.mem_map_of_mem hz)
  ·rw [List.mem_singleton.1 hz]
   exact fun e => old x (List.mem_cons_self ..) e.symm
theorem down_more {p g : Nat} {s : Scr} {xs : List RowIn} (w : World) (h : ScAt w p g s xs) (hr : s.r + 1 < s.rows.length) : Calls Tryz.prog 115 #[ptrS p] w fun e w' => Told p g (downS s) (downO s) s.w xs w e w' := by
 have hd := h.laid (Below.refl _ _).drew
 have k1 : w.drew.cell? ⟨p, 1, none⟩ = some (.slice (some ⟨g, 0, none⟩) s.rows.length s.rows.length) := hd.get 1
 have k2 : w.drew.cell? ⟨p, 2, none⟩ = some (.int .i64 (s.r : Int)) := hd.get 2
 have f2 : w.drew.frozen? ⟨p, 2, none⟩ = false := hd.free 2
 have hh : IntKind.i64.wrap ((s.rows.length : Int) - 1) = (s.rows.length : Int) - 1 := by have := h.ok.h1; have := h.ok.h2; exact IntWalk.i64_in _ (by omega)
 have hr1 : IntKind.i64.wrap ((s.r : Int) + 1) = ((s.r + 1 : Nat) : Int) := by have := h.ok.h2; rw [IntWalk.i64_in _ (by omega)]; omega
 have hlt : (s.r : Int) < (s.rows.length : Int) - 1 := by omega
 have D := Lib.hid (show Told p g (downS s) (downO s) s.w xs w (.returned (.slice none 0 0)) (w.drew.setCell ⟨p, 2, none⟩ (.int .i64 ((s.r + 1 : Nat) : Int))) from by
  have e1 : downS s = { s with r := s.r + 1 } := by unfold downS; rw [if_pos hr]
  have e2 : downO s = [] := by unfold downO; rw [if_pos hr]
  rw [e1, e2]
  exact told_none (hd.setRow hr) ((Went.laid (Below.refl _ _).drew).trans (Went.cell 2 _)))
 generalize s.rows.length = sh at k1 hh hlt
 generalize ((s.r + 1 : Nat) : Int) = r1 at hr1 D
 clear hd hr
 go_enter Tryz.func115, Tryz.ntmps115
 go_wp2_with fail
 go_region
 all_goals go_wp2
 all_goals
  go_ret
  exact D.out
theorem down_last {p g : Nat} {s : Scr} {x : RowIn} {xs : List RowIn} (w : World) (h : ScAt w p g s (x :: xs)) (hr : ¬ s.r + 1 < s.rows.length) : Calls Tryz.prog 115 #[ptrS p] w fun e w' => Told p g (downS s) (downO s) s.w (x :: xs) w e w' := by
 have hd := h.laid (Below.refl _ _).drew
 have hlen : s.rows.length = xs.length + 1 := by rw [← h.len]; rfl
 obtain ⟨q, hq⟩ : ∃ q, xs.length = q := ⟨_, rfl⟩
 rw [hq] at hlen
 have k1 : w.drew.cell? ⟨p, 1, none⟩ = some (.slice (some ⟨g, 0, none⟩) (q + 1) (q + 1)) := by have := hd.get 1; rw [← hlen]; exact this
 have k2 : w.drew.cell? ⟨p, 2, none⟩ = some (.int .i64 (s.r : Int)) := hd.get 2
 have g0 : w.drew.cell? ⟨g, 0, none⟩ = some (.slice x.A x.n x.c) := by have := (hd.row (i := 0) (x := x) rfl).1; simpa using this
 have g1 : w.drew.cell? ⟨g, 1, none⟩ = some (.bool x.wrap) := by have := (hd.row (i := 0) (x := x) rfl).2; simpa using this
 have hh : IntKind.i64.wrap (q : Int) = (q : Int) := by have := h.ok.h2; exact IntWalk.i64_in _ (by omega)
 have hlt : ¬ (s.r : Int) < (q : Int) := by omega
 have q0 : (0 : Int) < (q : Int) + 1 := by omega
 have h100 : q + 1 ≤ 100 := by rw [← hlen]; exact h.ok.h2
 obtain ⟨b3, hb3⟩ : ∃ b3, w.heap.size = b3 := ⟨_, rfl⟩
 obtain ⟨w4, hw4⟩ : ∃ w4, w.drew.alloc (.cells #[.slice x.A x.n x.c, .bool x.wrap] 58) = w4 := ⟨_, rfl⟩
 have b4 : Below w.heap.size w w4 := by rw [← hw4]; exact (Below.refl _ _).drew.alloc (Nat.le_refl _) _
 have h4 : ScAt w4 p g s (x :: xs) := h.laid b4
 have r4 : RowAt w4 b3 (.slice x.A x.n x.c) x.wrap := by rw [← hw4, ← hb3]; exact heap_alloc_new w.drew _
 have z4 : w4.heap.size = b3 + 1 := by rw [← hw4, ← hb3]; simp
 have H := Lib.hid h
 have H4 := Lib.hid (h4.laid (Below.refl _ _).drew)
 have R4 := Lib.hid (show RowAt w4.drew b3 (.slice x.A x.n x.c) x.wrap from r4)
 have B4 := Lib.hid b4.drew
 have HW4 := Lib.hid hw4
 clear h hd hw4 b4 h4 r4
 go_enter Tryz.func115, Tryz.ntmps115
 go_wp2_with fail
 go_region
 all_goals go_wp2_with fail
 have hvs : ((x :: xs).flatMap RowIn.vals).length = q * 2 + 2 := by rw [vals_length, List.length_cons, hq]; omega
 have hvd : ((x :: xs).flatMap RowIn.vals).drop 2 = xs.flatMap RowIn.vals := rfl
 have hxl : (xs.flatMap RowIn.vals).length = q * 2 := by rw [vals_length, hq]
 have w23 := And.intro H.out.ok.w2 H.out.ok.w3
 have hbl : blankN (s.w : Int) = s.w := by unfold blankN; omega
 have hpg := H4.out.ne
 have S1 : (scells s g)[1]? = some (.slice (some ⟨g, 0, none⟩) (q + 1) (q + 1)) := by unfold scells; rw [hlen]; rfl
 have SE : (scells s g).setIfInBounds 1 (.slice (some ⟨g, 0, none⟩) (q + 1) (q + 1)) = scells s g := by unfold scells; rw [hlen]; simp
 have bpg : ∀ W, OnlyRow g w4.drew W → W.heap[p]? = w4.drew.heap[p]? := fun W o => o.block p hpg
 have KP : ∀ W A n c, (∃ w1 : World, (w1.heap[g]? = some (.cells (xs.flatMap RowIn.vals ++ [Value.slice none 0 0, Value.bool false]).toArray 58 (0, 0)) ∧ OnlyRow g w4.drew w1) ∧ HasC W w1.heap.size (.slice A n c) (blanksL s.w) ∧ Below w1.heap.size w1 W) →
   W.heap[g]? = some (.cells (xs.flatMap RowIn.vals ++ [Value.slice none 0 0, Value.bool false]).toArray 58 (0, 0)) ∧ W.heap[p]? = w4.drew.heap[p]? ∧ HasC W w4.drew.heap.size (.slice A n c) (blanksL s.w) ∧ Turned (· = g) w4.drew W ∧ g < W.heap.size ∧ p < W.heap.size := by
  rintro W A n c ⟨w1, ⟨hg1, o1⟩, hc, hb⟩
  have hgl := (Array.getElem?_eq_some_iff.1 hg1).1
  have hsz := o1.size
  have hpl := H4.out.ltp
  refine ⟨(hb.block g hgl).trans hg1, (hb.block p (by omega)).trans (bpg _ o1), by rw [← hsz]; exact hc, (Turned.ofOnly o1).trans (Turned.ofBelow hb (fun _ => False)) (fun _ _ f => f.elim), by have := hb.size; omega, by have := hb.size; omega⟩
 have GA : ∀ (W : World) (o : Obj), g < W.heap.size → (W.alloc o).heap[g]? = W.heap[g]? := fun W o hl => Below.heap_alloc _ _ _ hl
 have PA : ∀ (W : World) (o : Obj), p < W.heap.size → (W.alloc o).heap[p]? = W.heap[p]? := fun W o hl => Below.heap_alloc _ _ _ hl
 have KE' : ∀ W A n c, (∃ w1 : World, (w1.heap[g]? = some (.cells (xs.flatMap RowIn.vals ++ [Value.slice none 0 0, Value.bool false]).toArray 58 (0, 0)) ∧ OnlyRow g w4.drew w1) ∧ HasC W w1.heap.size (.slice A n c) (blanksL s.w) ∧ Below w1.heap.size w1 W) → ((((W.alloc (.cells #[.slice A n c, .bool false] 58)).setCell ⟨g, q * 2, none⟩ (.slice A n c)).setCell ⟨g, q * 2 + 1, none⟩ (.bool false)).setCell ⟨p, 1, none⟩ (.slice (some ⟨g, 0, none⟩) (q + 1) (q + 1))).heap[p]? = w4.drew.heap[p]? := by
  intro W A n c hK
  have e := (Below.heap_setCell _ ⟨g, q * 2 + 1, none⟩ (.bool false) p (by exact hpg)).trans ((Below.heap_setCell _ ⟨g, q * 2, none⟩ (.slice A n c) p (by exact hpg)).trans ((PA W (.cells #[.slice A n c, .bool false] 58) (KP W A n c hK).2.2.2.2.2).trans ((KP W A n c hK).2.1.trans H4.out.scr)))
  rw [heap_setCell_same _ p 1 _ _ _ e, H4.out.scr, SE]
 have DN : ∀ W A n c, (∃ w1 : World, (w1.heap[g]? = some (.cells (xs.flatMap RowIn.vals ++ [Value.slice none 0 0, Value.bool false]).toArray 58 (0, 0)) ∧ OnlyRow g w4.drew w1) ∧ HasC W w1.heap.size (.slice A n c) (blanksL s.w) ∧ Below w1.heap.size w1 W) → ∀ wz, ((((W.alloc (.cells #[.slice A n c, .bool false] 58)).setCell ⟨g, q * 2, none⟩ (.slice A n c)).setCell ⟨g, q * 2 + 1, none⟩ (.bool false)).setCell ⟨p, 1, none⟩ (.slice (some ⟨g, 0, none⟩) (q + 1) (q + 1))) = wz → RowAt wz b3 (.slice x.A x.n x.c) x.wrap ∧ Told p g (downS s) (downO s) s.w (x :: xs) w (.returned (.slice (some ⟨wz.heap.size, 0, none⟩) 1 1)) (wz.alloc (.cells #[.slice x.A x.n x.c, .bool x.wrap] 58)) := by
  intro W A n c hK wz hwz
  obtain ⟨k1', k2', k3', k4', k5', k6'⟩ := KP W A n c hK
  have hp : wz.heap[p]? = w4.drew.heap[p]? := by rw [← hwz]; exact KE' W A n c hK
  have hsz : w4.drew.heap.size = b3 + 1 := z4
  have hpl := H.out.ltp
  have hgl := H.out.ltg
  have hg : wz.heap[g]? = some (.cells ((xs ++ [(⟨A, n, c, false, blanksL s.w⟩ : RowIn)]).flatMap RowIn.vals).toArray 58 (0, 0)) := by
   rw [← hwz, Below.heap_setCell _ _ _ _ (by exact fun e => hpg e.symm), heap_setCell_same _ g _ _ _ _ (heap_setCell_same _ g _ _ _ _ ((GA W _ k5').trans k1'))]
   have e : (((xs.flatMap RowIn.vals ++ [Value.slice none 0 0, Value.bool false]).set (q * 2) (.slice A n c)).set (q * 2 + 1) (.bool false)) = (xs ++ [(⟨A, n, c, false, blanksL s.w⟩ : RowIn)]).flatMap RowIn.vals := by
    rw [List.set_append_right _ _ (by omega), hxl, Nat.sub_self, List.set_append_right _ _ (by omega), hxl, show q * 2 + 1 - q * 2 = 1 by omega, List.flatMap_append]
    rfl
   rw [← e]
   simp only [List.setIfInBounds_toArray]
  have ha := (Below.refl W.heap.size W).alloc (Nat.le_refl _) (.cells #[.slice A n c, .bool false] 58)
  have ht : Turned (fun k => k = p ∨ k = g) w4.drew wz := by
   rw [← hwz]
   exact ((((k4'.mono fun _ _ e => .inr e).trans (Turned.ofBelow ha _) (fun _ _ h => h)).trans ((Turned.ofCell g _ _ _).mono fun _ _ e => .inr e) (fun _ _ h => h)).trans ((Turned.ofCell g _ _ _).mono fun _ _ e => .inr e) (fun _ _ h => h)).trans ((Turned.ofCell p _ _ _).mono fun _ _ e => .inl e) (fun _ _ h => h)
  have hy : HasC wz w4.drew.heap.size (.slice A n c) (blanksL s.w) := by
   refine HasC.keep k3' (fun j e => ?_)
   obtain ⟨h1, h2⟩ := HasC.lt k3' j e
   rw [← hwz, Below.heap_setCell _ _ _ _ (by show j ≠ p; omega), Below.heap_setCell _ _ _ _ (by show j ≠ g; omega), Below.heap_setCell _ _ _ _ (by show j ≠ g; omega)]
   exact Below.heap_alloc _ _ _ h2
  obtain ⟨s1, s2, s3⟩ := shifted (y := ⟨A, n, c, false, blanksL s.w⟩) H4.out hr hp hg ht hy rfl
  have rz : RowAt wz b3 (.slice x.A x.n x.c) x.wrap := (ht.block b3 (by omega) (by omega)).trans R4.out
  have bz := (Below.refl wz.heap.size wz).alloc (Nat.le_refl _) (.cells #[.slice x.A x.n x.c, .bool x.wrap] 58)
  have eO : downO s = [sr x] := by unfold downO; rw [if_neg hr, ← H.out.same]; rfl
  have hx0 := H.out.each x (List.mem_cons_self ..)
  have hxs := (H.out.at' (i := 0) (by omega))
  refine ⟨rz, .slice (some ⟨wz.heap.size, 0, none⟩) 1 1, [x], _, rfl, s1.laid bz, ((Went.laid B4.out).trans s2).trans (Went.laid bz), ⟨⟨rfl, .inr ⟨wz.heap.size, 1, _, rfl, by have := ht.size; have := B4.out.size; omega, heap_alloc_new wz _, Nat.le_refl _, by unfold maxLen; omega, rfl, rfl⟩⟩, fun y hy' => ?_⟩, by rw [eO]; rfl, fun y hy' => ?_⟩
  ·rw [List.mem_singleton.1 hy']
   obtain ⟨x', hx', _, _, _, _, _, hsg⟩ := hxs
   obtain rfl : x = x' := by simpa using hx'
   refine ⟨hasC_turned (M := fun k => k = p ∨ k = g) hx0.1 ((((Turned.ofBelow B4.out _).trans ht (fun _ _ h => h))).trans (Turned.ofBelow bz _) (fun _ _ h => h)) H.out.noC, hsg⟩
  ·rw [List.mem_singleton.1 hy']
   exact ⟨hx0.2, .inl ⟨x, List.mem_cons_self .., rfl⟩, s3⟩
 change Code.wp _ _ _ _ (w.drew.alloc (.cells #[.slice x.A x.n x.c, .bool x.wrap] 58))
 rw [HW4.out]
 refine Ord.start (S := fun W => W.heap[p]? = w4.drew.heap[p]?) (n := 16) (by kernel_rfl) (by kernel_rfl) rfl ?_
 have ofp : ∀ (W : World) (j : Nat), W.heap[p]? = w4.drew.heap[p]? → W.cell? ⟨p, j, none⟩ = (scells s g)[j]? := fun W j e => cell_of_row W p j _ _ (0, 0) (e.trans H4.out.scr)
 apply down_region (w1 := w4.drew) (p := p) (g := g) (q := q) (sw := s.w) (p3 := .pointer (some ⟨b3, 0, none⟩)) (P1 := fun W => W.heap[g]? = some (.cells (xs.flatMap RowIn.vals ++ [Value.slice none 0 0, Value.bool false]).toArray 58 (0, 0)) ∧ OnlyRow g w4.drew W)
  (P2 := fun W A n c => ∃ w1 : World, (w1.heap[g]? = some (.cells (xs.flatMap RowIn.vals ++ [Value.slice none 0 0, Value.bool false]).toArray 58 (0, 0)) ∧ OnlyRow g w4.drew w1) ∧ HasC W w1.heap.size (.slice A n c) (blanksL s.w) ∧ Below w1.heap.size w1 W)
 case R => exact ⟨by kernel_rfl, by kernel_rfl⟩
 case hQ => exact fun _ _ _ _ _ h => h
 case k1 => exact fun W e => (ofp W 1 e).trans S1
 case k0 => exact fun W e => ofp W 0 e
 case DEL =>
  refine (rowsDelete_walk g q ((x :: xs).flatMap RowIn.vals) w4.drew hvs (by omega) (fun v hv => ?_) H4.out.rows).mono ?_
  ·obtain ⟨z, hz, hv⟩ := List.mem_flatMap.1 hv
   exact vals_one z v hv
  ·rintro e w' ⟨rfl, h1, h2⟩
   exact ⟨rfl, h1, h2⟩
 case BLK =>
  rintro w1 hP1
  refine (rowBlank_walk (s.w : Int) w1).mono ?_
  rintro e w' ⟨g2, rfl, h1, h2⟩
  rw [hbl] at h1 ⊢
  exact ⟨_, _, _, rfl, w1, hP1, h1, h2⟩
 case KA =>
  intro W A n c hK
  obtain ⟨k1', k2', k3', k4', k5', k6'⟩ := KP W A n c hK
  have e := (GA W (.cells #[.slice A n c, .bool false] 58) k5').trans k1'
  refine ⟨⟨.slice none 0 0, ?_⟩, ⟨.bool false, ?_⟩, frozen_of_row _ g _ _ _ e, frozen_of_row _ g _ _ _ e⟩
  ·rw [cell_of_row _ g _ _ _ (0, 0) e, List.getElem?_toArray, List.getElem?_append_right (by omega), hxl, Nat.sub_self]; rfl
  ·rw [cell_of_row _ g _ _ _ (0, 0) e, List.getElem?_toArray, List.getElem?_append_right (by omega), hxl, show q * 2 + 1 - q * 2 = 1 by omega]; rfl
 case KS1 => exact fun W hP => bpg W hP.2
 case KS2 => exact fun W A n c hK => (KP W A n c hK).2.1
 case KS3 => exact fun W A n c hK => (PA W _ (KP W A n c hK).2.2.2.2.2).trans (KP W A n c hK).2.1
 case KS4 => exact fun W A n c hK => (Below.heap_setCell _ _ _ _ (by exact hpg)).trans ((Below.heap_setCell _ _ _ _ (by exact hpg)).trans ((PA W _ (KP W A n c hK).2.2.2.2.2).trans (KP W A n c hK).2.1))
 case KF => exact fun W A n c hK => frozen_of_row _ p 1 _ _ ((Below.heap_setCell _ _ _ _ (by exact hpg)).trans ((Below.heap_setCell _ _ _ _ (by exact hpg)).trans ((PA W _ (KP W A n c hK).2.2.2.2.2).trans ((KP W A n c hK).2.1.trans H4.out.scr))))
 case KE => exact KE'
 case F => exact ⟨rfl, rfl, rfl, rfl⟩
 intro a2 W A n c hK F2
 obtain ⟨wz, hwz⟩ : ∃ wz, ((((W.alloc (.cells #[.slice A n c, .bool false] 58)).setCell ⟨g, q * 2, none⟩ (.slice A n c)).setCell ⟨g, q * 2 + 1, none⟩ (.bool false)).setCell ⟨p, 1, none⟩ (.slice (some ⟨g, 0, none⟩) (q + 1) (q + 1))) = wz := ⟨_, rfl⟩
 have DZ := DN W A n c hK wz hwz
 have m0 := DZ.1.get 0
 have m1 := DZ.1.get 1
 have D' := Lib.hid DZ.2
 rw [hwz]
 refine down_frame F2.size F2.defers F2.s0 F2.s3 ?_
 intros
 clear F2 DZ DN KE' KP GA PA bpg ofp hK hwz k1 k2 g0 g1
 try dsimp only
 go_wp2
 go_ret
 exact D'.out
end Sc
namespace Sc
open Rw
theorem down_walk {p g : Nat} {s : Scr} {xs : List RowIn} (w : World) (h : ScAt w p g s xs) : Calls Tryz.prog 115 #[ptrS p] w fun e w' => Told p g (downS s) (downO s) s.w xs w e w' := by
 by_cases hr : s.r + 1 < s.rows.length
 ·exact down_more w h hr
 ·cases xs with
  | nil => have := h.len; have := h.ok.h1; simp at *; omega
  | cons x xs => exact down_last w h hr
theorem sq_cells {W : World} {b : Nat} {l : List Cel} (h : W.heap[b]? = some (.cells (flat l).toArray 62 (0, 0))) : Sq W W.heap.size 3 l.length (some ⟨b, 0, none⟩) (flat l) :=
 ⟨flat_length l, fun _ => ⟨b, 0, rfl, (Array.getElem?_eq_some_iff.1 h).1, fun j u hu => by
  rw [Nat.zero_add, cell_of_row _ b j _ _ (0, 0) h, List.getElem?_toArray]
  exact hu⟩⟩
theorem vals_mark {xs : List RowIn} {i : Nat} {x : RowIn} (hx : xs[i]? = some x) : (xs.flatMap RowIn.vals).set (i * 2 + 1) (.bool true) = (xs.set i { x with wrap := true }).flatMap RowIn.vals := by
 rw [vals_set xs i _ (List.getElem?_eq_some_iff.1 hx).1]
 congr 1
 refine List.ext_getElem? fun j => ?_
 rw [List.getElem?_set]
 by_cases e : i * 2 = j
 ·subst e
  have h0 := flatMap_get RowIn.vals 2 (fun _ => rfl) xs i x hx 0 _ rfl
  rw [Nat.add_zero] at h0
  rw [if_pos rfl, if_pos (List.getElem?_eq_some_iff.1 h0).1, h0]
 ·rw [if_neg e]
theorem ScAt.marked {W : World} {p g : Nat} {s : Scr} {xs : List RowIn} (h : ScAt W p g s xs) : ∃ xs', ScAt ((W.setCell ⟨g, s.r * 2 + 1, none⟩ (.bool true)).setCell ⟨p, 3, none⟩ (.int .i64 0)) p g (markS s) xs' ∧ Went W ((W.setCell ⟨g, s.r * 2 + 1, none⟩ (.bool true)).setCell ⟨p, 3, none⟩ (.int .i64 0)) p g xs xs' := by
 obtain ⟨x, hx, hsr, hc, hn, _⟩ := h.at' h.ok.row
 have hi := (List.getElem?_eq_some_iff.1 hx).1
 have ht : Turned (· = g) W (W.setCell ⟨g, s.r * 2 + 1, none⟩ (.bool true)) := Turned.ofCell g _ W _
 have hno : ∀ k, k = g → ¬ Typed W 62 k := fun k e => h.noC k (.inr e)
 have hA : (xs.set s.r { x with wrap := true }).map RowIn.A = xs.map RowIn.A := by
  refine List.ext_getElem? fun j => ?_
  rw [List.getElem?_map, List.getElem?_map, List.getElem?_set]
  by_cases e : s.r = j
  ·subst e; rw [if_pos rfl, if_pos hi, hx]; rfl
  ·rw [if_neg e]
 have m1 : ScAt (W.setCell ⟨g, s.r * 2 + 1, none⟩ (.bool true)) p g { s with rows := s.rows.modify s.r (fun x => (x.1, true)) } (xs.set s.r { x with wrap := true }) := by
  have ho := h.ok.mark
  refine ⟨⟨ho.w2, ho.w3, ho.h1, ho.h2, ho.row, h.ok.col, ho.a0, ho.a1, ho.each⟩, by rw [map_set_modify (f := fun x => (x.1, true)) hx rfl, h.same], ?_, ?_, fun z hz => ?_, by rw [hA]; exact h.apart⟩
  ·rw [ht.block p h.ltp h.ne, h.scr]
   unfold scells
   simp
  ·rw [heap_setCell_same W g _ _ _ _ h.rows, ← vals_mark hx]
   simp only [List.setIfInBounds_toArray]
  ·rcases List.mem_or_eq_of_mem_set hz with hz | rfl
   ·exact ⟨hasC_turned (h.each z hz).1 ht hno, (h.each z hz).2⟩
   ·have := h.each x (List.mem_of_getElem? hx)
    exact ⟨hasC_turned this.1 ht hno, this.2⟩
 refine ⟨_, m1.setCol (c := 0) (Nat.zero_le _), ⟨(ht.mono fun _ _ e => .inr e).trans ((Turned.ofCell p _ _ _).mono fun _ _ e => .inl e) (fun _ _ h => h), fun z hz => ?_⟩⟩
 have : z.A ∈ xs.map RowIn.A := by rw [← hA]; exact List.mem_map_of_mem hz
 obtain ⟨y, hy, e⟩ := List.mem_map.1 this
 exact .inl ⟨y, hy, e⟩
theorem rowsIn_mono {W : World} {base base' : Nat} {v : Value} {xs : List RowIn} (h : RowsIn W base v xs) (hb : base' ≤ base) : RowsIn W base' v xs := by
 refine ⟨⟨h.own.1, ?_⟩, h.each⟩
 rcases h.own.2 with e | ⟨g, cap, cur, e, e2, r⟩
 ·exact .inl e
 ·exact .inr ⟨g, cap, cur, e, Nat.le_trans hb e2, r⟩
theorem Told.behind {p g : Nat} {s' : Scr} {out : List SR} {wd : Nat} {xs xs1 : List RowIn} {w w1 : World} {e : Ending} {w' : World} (h : Told p g s' out wd xs1 w1 e w') (hw : Went w w1 p g xs xs1) : Told p g s' out wd xs w e w' := by
 obtain ⟨v, ys, xs', he, ha, hw', hr, ho, hy⟩ := h
 refine ⟨v, ys, xs', he, ha, hw.trans hw', rowsIn_mono hr hw.turned.size, ho, fun y hy' => ?_⟩
 obtain ⟨h1, h2, h3⟩ := hy y hy'
 refine ⟨h1, ?_, h3⟩
 rcases h2 with ⟨z, hz, ez⟩ | ⟨k, ek, hk⟩
 ·rcases hw.from' z hz with ⟨z', hz', e'⟩ | ⟨k, ek, hk⟩
  ·exact .inl ⟨z', hz', e'.trans ez⟩
  ·exact .inr ⟨k, ez ▸ ek, hk⟩
 ·exact .inr ⟨k, ek, Nat.le_trans hw.turned.size hk⟩
theorem Told.more {p g : Nat} {s' s2 : Scr} {out : List SR} {wd : Nat} {xs : List RowIn} {w w' w2 : World} {v : Value} {ys xs' xs2 : List RowIn} (ha : Went w w' p g xs xs') (hr : RowsIn w' w.heap.size v ys) (ho : ys.map sr = out)
  (hy : ∀ y ∈ ys, y.n = wd ∧ ((∃ z ∈ xs, z.A = y.A) ∨ ∃ k, y.A = some ⟨k, 0, none⟩ ∧ w.heap.size ≤ k) ∧ ∀ z ∈ xs', z.A ≠ y.A) (h0 : ScAt w' p g s' xs') (h2 : ScAt w2 p g s2 xs2) (hw : Went w' w2 p g xs' xs2) (hv : ∀ k, v.ownBlock = some k → k ≠ g) (hwd : 0 < wd) : Told p g s2 out wd xs w (.returned v) w2 := by
 refine ⟨v, ys, xs2, rfl, h2, ha.trans hw, hr.turned hw.turned (fun k e => ?_) h0.noC, ho, fun y hy' => ?_⟩
 ·rintro (rfl | rfl)
  ·exact h0.typ.apart (hr.typed k e) (by decide) rfl
  ·exact hv k e rfl
 ·obtain ⟨h1, h3, h4⟩ := hy y hy'
  refine ⟨h1, h3, fun z hz e => ?_⟩
  rcases hw.from' z hz with ⟨z', hz', e'⟩ | ⟨k, ek, hk⟩
  ·exact h4 z' hz' (e'.trans e)
  ·obtain ⟨k', hk', _, hlt⟩ := fresh_row (hr.each y hy').1 (by omega)
   rw [← e, ek] at hk'
   injection hk' with hk'
   injection hk' with hk'
   omega
theorem wrap_walk {p g : Nat} {s : Scr} {xs : List RowIn} (w : World) (hs : Spans w) (h : ScAt w p g s xs) : Calls Tryz.prog 111 #[ptrS p] w fun e w' => Told p g (wrapS s) (wrapO s) s.w xs w e w' := by
 have hd := h.laid (Below.refl _ _).drew
 have k0 : w.drew.cell? ⟨p, 0, none⟩ = some (.int .i64 (s.w : Int)) := hd.get 0
 have k3 : w.drew.cell? ⟨p, 3, none⟩ = some (.int .i64 (s.c : Int)) := hd.get 3
 have REST := Lib.hid (show ∀ W xs1, ScAt W p g (padS s) xs1 → Went w W p g xs xs1 → (W.drew.cell? ⟨p, 1, none⟩ = some (.slice (some ⟨g, 0, none⟩) s.rows.length s.rows.length) ∧ W.drew.cell? ⟨p, 2, none⟩ = some (.int .i64 (s.r : Int)) ∧ (∃ v, W.drew.cell? ⟨g, s.r * 2 + 1, none⟩ = some v) ∧ W.drew.frozen? ⟨g, s.r * 2 + 1, none⟩ = false ∧ (∃ v, W.drew.cell? ⟨p, 3, none⟩ = some v) ∧ W.drew.frozen? ⟨p, 3, none⟩ = false) ∧
   (∀ W2, W.drew.setCell ⟨g, s.r * 2 + 1, none⟩ (.bool true) = W2 → Calls Tryz.prog 115 #[ptrS p] (W2.setCell ⟨p, 3, none⟩ (.int .i64 0)) fun e w' => Told p g (wrapS s) (wrapO s) s.w xs w e w') from fun W xs1 h1 hw => by
  have hd1 := h1.laid (Below.refl _ _).drew
  obtain ⟨e1, e2, e3, e4, e5⟩ := padS_w s
  obtain ⟨x, hx, _⟩ := hd1.at' h1.ok.row
  have hx' := (hd1.row hx).2
  rw [e4] at hx'
  refine ⟨⟨?_, ?_, ⟨_, hx'⟩, hd1.freeg _, ⟨_, hd1.get 3⟩, hd1.free 3⟩, fun W2 hW2 => ?_⟩
  ·have := hd1.get 1; rw [show (scells (padS s) g)[1]? = some (.slice (some ⟨g, 0, none⟩) (padS s).rows.length (padS s).rows.length) from rfl, e5] at this; exact this
  ·have := hd1.get 2; rw [show (scells (padS s) g)[2]? = some (.int .i64 ((padS s).r : Int)) from rfl, e4] at this; exact this
  ·subst hW2
   obtain ⟨xs2, m1, m2⟩ := hd1.marked
   rw [e4] at m1 m2
   refine (down_walk _ m1).mono fun e w' ht => ?_
   have hw2 : (markS (padS s)).w = s.w := e1
   rw [hw2] at ht
   exact ht.behind ((hw.trans (Went.laid (Below.refl _ _).drew)).trans m2))
 have ST := Lib.hid (fun (hc : s.c < s.w) (W : World) (b : Below w.heap.size w W) => set_walk (some ⟨W.heap.size, 0, none⟩) 1 1 [(0, 1, 0)] (W.alloc (.cells #[.int .i32 0, .int .i64 1, .int .i64 0] 62)) (hs.below (b.alloc b.size _) hs.size) (h.laid (b.alloc b.size _)) (by intro c hc; rw [List.mem_singleton.1 hc]; simp) (by omega) (sq_cells (l := [(0, 1, 0)]) (by exact heap_alloc_new W _)))
 have hi0 : (0 : Int) ≤ (s.r : Int) := by omega
 have hih : (s.r : Int) < (s.rows.length : Int) := by have := h.ok.row; omega
 have H := Lib.hid h
 by_cases hc : s.c < s.w
 ·have hcw : (s.c : Int) < (s.w : Int) := by omega
  have hp : padS s = setS s [(0, 1, 0)] := by unfold padS; rw [if_pos hc]
  have PW := Lib.hid (pad_walk w.drew)
  clear h hd
  go_enter Tryz.func111, Tryz.ntmps111
  go_wp2_with fail
  go_region
  all_goals
   go_wp2_with fail
   refine PW.out.mono ?_
   rintro e w2 ⟨rfl, b2⟩
   have B2 := Lib.hid ((Below.refl w.heap.size w).drew.trans b2)
   have S2 := Lib.hid (ST.out hc w2 B2.out)
   clear b2 k0 k3 PW
   go_wp2_with fail
   refine S2.out.mono ?_
   rintro e w3 ⟨⟨_, rfl⟩, xs1, h1, hw1⟩
   rw [← hp] at h1
   obtain ⟨⟨r1, r2, ⟨v3, r3⟩, r4, ⟨v5, r5⟩, r6⟩, rest⟩ := REST.out w3 xs1 h1 ((Went.laid (B2.out.alloc B2.out.size _)).trans hw1)
   have RR := Lib.hid rest
   clear rest h1 hw1 S2
   have hne := H.out.ne
   have hne' : g ≠ p := fun e => hne e.symm
   have r5' : w3.cell? ⟨p, 3, none⟩ = some v5 := r5
   have r6' : w3.frozen? ⟨p, 3, none⟩ = false := r6
   have DW := RR.out _ rfl
   have D5 := Lib.hid DW
   clear DW RR
   go_wp2_with fail
   go_region
   all_goals
    go_wp2_with fail
    refine D5.out.mono ?_
    rintro e w7 ⟨v7, ys, xs7, rfl, t7⟩
    have T7 := Lib.hid (show Told p g (wrapS s) (wrapO s) s.w xs w (.returned v7) w7 from ⟨v7, ys, xs7, rfl, t7⟩)
    clear t7
    go_wp2
    go_ret
    exact T7.out
 ·have hcw : ¬ (s.c : Int) < (s.w : Int) := by omega
  have hp : padS s = s := by unfold padS; rw [if_neg hc]
  obtain ⟨⟨r1, r2, ⟨v3, r3⟩, r4, ⟨v5, r5⟩, r6⟩, rest⟩ := REST.out w.drew xs (by rw [hp]; exact hd) (Went.laid (Below.refl _ _).drew)
  have RR := Lib.hid rest
  clear rest h hd
  have hne := H.out.ne
  have hne' : g ≠ p := fun e => hne e.symm
  have r5' : w.cell? ⟨p, 3, none⟩ = some v5 := r5
  have r6' : w.frozen? ⟨p, 3, none⟩ = false := r6
  have r5'' : w.drew.cell? ⟨p, 3, none⟩ = some v5 := r5
  have r6'' : w.drew.frozen? ⟨p, 3, none⟩ = false := r6
  have DW := RR.out _ rfl
  have D5 := Lib.hid DW
  clear DW RR
  go_enter Tryz.func111, Tryz.ntmps111
  go_wp2_with fail
  go_region
  all_goals
   go_wp2_with fail
   go_region
   all_goals
    go_wp2_with fail
    refine D5.out.mono ?_
    rintro e w7 ⟨v7, ys, xs7, rfl, t7⟩
    have T7 := Lib.hid (show Told p g (wrapS s) (wrapO s) s.w xs w (.returned v7) w7 from ⟨v7, ys, xs7, rfl, t7⟩)
    clear t7
    go_wp2
    go_ret
    exact T7.out
end Sc
namespace Sc
open Rw
theorem ofL_length {r a : Int} (h0 : 0 ≤ a) (h1 : a ≤ 255) : ((ofL r a).length : Int) = wof r := by
 have hm : mayA a = true := by simp [mayA, h0, h1]
 have := wof_range r
 unfold ofL
 rw [if_pos hm]
 split
 ·rename_i e; rw [e]; rfl
 ·split
  ·rename_i e; rw [e]; rfl
  ·simp; omega
structure Tail (p g : Nat) (s : Scr) (r : Int) (W : World) (xs1 : List RowIn) : Prop where
 attr : W.cell? ⟨p, 3 + 1, none⟩ = some (.int .i64 s.a)
 cells : Calls Tryz.prog 113 #[.int .i32 r, .int .i64 s.a] W fun e w' => ∃ A n c, e = .returned (.slice A n c) ∧ Below W.heap.size W w' ∧ HasC w' W.heap.size (.slice A n c) (ofL r s.a)
 set : ∀ w' A n c, Below W.heap.size W w' → HasC w' W.heap.size (.slice A n c) (ofL r s.a) → Calls Tryz.prog 112 #[ptrS p, .slice A n c] w' fun e w'' => (∃ y, e = .returned y) ∧ ∃ xs2, (w''.cell? ⟨p, 3, none⟩ = some (.int .i64 ((roomS s (wof r)).c : Int)) ∧ w''.frozen? ⟨p, 3, none⟩ = false) ∧ ∀ X : Int, X = ((roomS s (wof r)).c : Int) + wof r → ScAt (w''.setCell ⟨p, 3, none⟩ (.int .i64 X)) p g (printS s r) xs2 ∧ Went W (w''.setCell ⟨p, 3, none⟩ (.int .i64 X)) p g xs1 xs2
theorem tail_of {p g : Nat} {s : Scr} {xs1 : List RowIn} {r : Int} {W : World} (hr0 : -2147483648 ≤ r) (hr1 : r ≤ 2147483647) (ho : Ok s) (hk : wof r ≠ 0) (hs : Spans W) (h : ScAt W p g (roomS s (wof r)) xs1) : Tail p g s r W xs1 := by
 have ha := (roomS_w s (wof r)).2
 have hw := (roomS_w s (wof r)).1
 refine ⟨?_, ?_, fun w' A n c hb hc => ?_⟩
 ·have := h.get 4
  rw [show (scells (roomS s (wof r)) g)[4]? = some (.int .i64 (roomS s (wof r)).a) from rfl, ha] at this
  exact this
 ·refine (cellOf_walk r s.a hr0 hr1 W hs).mono ?_
  rintro e w' ⟨v, rfl, h1, h2⟩
  obtain ⟨A, c, rfl, _⟩ := HasC.shape h1
  exact ⟨A, _, c, rfl, h2, h1⟩
 ·have hn : n = (ofL r s.a).length := by
   obtain ⟨_, _, e, _⟩ := HasC.shape hc
   injection e
  have hl := ofL_length (r := r) ho.a0 ho.a1
  have hwr := wof_range r
  refine (set_walk A n c (ofL r s.a) w' (hs.below hb hs.size) (h.laid hb) (ofL_signs hr0 hr1) (by omega) (HasC.sq hc)).mono ?_
  rintro e w'' ⟨he, xs2, h2, hw2⟩
  refine ⟨he, xs2, ⟨h2.get 3, h2.free 3⟩, fun X hX => ?_⟩
  have hcol := ho.room_col hwr.2 hwr.1
  have e1 : X = (((roomS s (wof r)).c + (wof r).toNat : Nat) : Int) := by omega
  rw [e1]
  have h3 := h2.setCol (c := (roomS s (wof r)).c + (wof r).toNat) (by show _ ≤ (roomS s (wof r)).w; rw [hw]; omega)
  refine ⟨?_, ((Went.laid hb).trans hw2).trans (Went.cell 3 _)⟩
  unfold printS
  rw [if_neg hk]
  exact h3
theorem spans_apart {W : World} {p g : Nat} {s : Scr} {xs : List RowIn} (hs : Spans W) (h : ScAt W p g s xs) : ¬ (0 = p ∨ 0 = g) := by
 rintro (e | e)
 ·have h1 := hs.first 0 (by omega)
  have h2 := h.get 0
  rw [Nat.zero_mul] at h1
  subst e
  rw [h1] at h2
  cases h2
 ·have h1 := hs.first 0 (by omega)
  obtain ⟨x, hx, _⟩ := h.at' (i := 0) (by have := h.ok.h1; omega)
  have h2 := (h.row hx).1
  rw [Nat.zero_mul] at h1 h2
  subst e
  rw [h1] at h2
  cases h2
theorem spans_went {W W' : World} {p g : Nat} {s : Scr} {xs xs' : List RowIn} (hs : Spans W) (h : ScAt W p g s xs) (hw : Went W W' p g xs xs') : Spans W' := by
 have hb := hw.turned.block _ hs.size (spans_apart hs h)
 have hc : ∀ j, W'.cell? ⟨0, j, none⟩ = W.cell? ⟨0, j, none⟩ := fun j => World.cell?_of_block (a := ⟨_, j, none⟩) hb
 exact ⟨Nat.lt_of_lt_of_le hs.size hw.turned.size, fun i hi => (hc _).trans (hs.first i hi), fun i hi => (hc _).trans (hs.last i hi), fun i hi => (hc _).trans (hs.wide i hi)⟩
theorem print_walk {p g : Nat} {s : Scr} {xs : List RowIn} (r : Int) (hr0 : -2147483648 ≤ r) (hr1 : r ≤ 2147483647) (w : World) (hs : Spans w) (h : ScAt w p g s xs) : Calls Tryz.prog 65 #[ptrS p, .int .i32 r] w fun e w' => Told p g (printS s r) (printO s r) s.w xs w e w' := by
 have WO := Lib.hid (of_walk r hr0 hr1 w hs)
 have hwr := wof_range r
 by_cases hk : wof r = 0
 ·have D := Lib.hid (show Told p g (printS s r) (printO s r) s.w xs w (.returned (.slice none 0 0)) w from by
   unfold printS printO
   rw [if_pos hk, if_pos hk]
   exact told_none h (Went.refl _ _ _ _))
  rw [hk] at WO
  clear h hs hwr
  go_enter Tryz.func65, Tryz.ntmps65
  go_wp2_with fail
  refine WO.out.mono ?_
  rintro e w' ⟨rfl, rfl⟩
  go_wp2
  go_ret
  exact D.out
 have hd := h.laid (Below.refl _ _).drew
 have k0 : w.drew.cell? ⟨p, 0, none⟩ = some (.int .i64 (s.w : Int)) := hd.get 0
 have k3 : w.drew.cell? ⟨p, 3, none⟩ = some (.int .i64 (s.c : Int)) := hd.get 3
 obtain ⟨k, hkk⟩ : ∃ k, wof r = k := ⟨_, rfl⟩
 have T := Lib.hid (show ∀ W xs1, Spans W → ScAt W p g (roomS s k) xs1 → Tail p g s r W xs1 from fun W xs1 hs1 h1 => tail_of hr0 hr1 h.ok hk hs1 (by rw [hkk]; exact h1))
 have hcol := h.ok.room_col (k := k) (by omega) (by omega)
 have w3 := h.ok.w3
 have hb0 : (k == 0) = false := by simp; omega
 have hsum : IntKind.i64.wrap ((s.c : Int) + k) = (s.c : Int) + k := by have := h.ok.col; exact IntWalk.i64_in _ (by omega)
 have hsum2 : IntKind.i64.wrap (((roomS s k).c : Int) + k) = ((roomS s k).c : Int) + k := IntWalk.i64_in _ (by omega)
 have WD := Lib.hid (wrap_walk w.drew hs.drew hd)
 obtain ⟨c1, hc1⟩ : ∃ c1, (roomS s k).c = c1 := ⟨_, rfl⟩
 rw [hc1] at hsum2 hcol
 have HC1 := Lib.hid hc1
 clear hc1
 have eO : printO s r = roomO s k := by unfold printO; rw [if_neg hk, hkk]
 have H := Lib.hid hd
 have HS := Lib.hid hs
 rw [hkk] at WO
 by_cases hwrap : (s.w : Int) < (s.c : Int) + k
 ·have e1 : roomS s k = wrapS s := by unfold roomS; rw [if_pos hwrap]
  have E1 := Lib.hid e1
  have e2 : roomO s k = wrapO s := by unfold roomO; rw [if_pos hwrap]
  have FIN := Lib.hid (show ∀ (w7 : World) v ys xs7, ScAt w7 p g (wrapS s) xs7 → Went w.drew w7 p g xs xs7 → RowsIn w7 w.drew.heap.size v ys → ys.map sr = wrapO s → (∀ y ∈ ys, y.n = s.w ∧ ((∃ z ∈ xs, z.A = y.A) ∨ ∃ k, y.A = some ⟨k, 0, none⟩ ∧ w.drew.heap.size ≤ k) ∧ ∀ z ∈ xs7, z.A ≠ y.A) → ∀ W2 xs2, ScAt W2 p g (printS s r) xs2 → Went w7 W2 p g xs7 xs2 → Told p g (printS s r) (printO s r) s.w xs w (.returned v) W2 from by
   intro w7 v ys xs7 h7 hw7 hr7 ho7 hy7 W2 xs2 h2 hw2
   rw [eO, e2]
   exact (Told.more hw7 hr7 ho7 hy7 h7 h2 hw2 (fun j e => by have := (hr7.lt j e).1; have := H.out.ltg; omega) (by have := H.out.ok.w2; omega)).behind (Went.laid (Below.refl _ _).drew))
  clear h hs hd e1 e2
  go_enter Tryz.func65, Tryz.ntmps65
  go_wp2_with fail
  refine WO.out.mono ?_
  rintro e w' ⟨rfl, rfl⟩
  clear WO
  go_wp2_with fail
  go_region
  all_goals
   go_wp2_with fail
   refine WD.out.mono ?_
   rintro e w7 ⟨v7, ys, xs7, rfl, h7, hw7, hr7, ho7, hy7⟩
   have TL := Lib.hid (T.out w7 xs7 (spans_went HS.out.drew H.out hw7) (by rw [E1.out]; exact h7))
   have FN := Lib.hid (FIN.out w7 v7 ys xs7 h7 hw7 hr7 ho7 hy7)
   clear h7 hw7 hr7 ho7 hy7 WD FIN k0 k3
   have a4 : w7.cell? ⟨p, 4, none⟩ = some (.int .i64 s.a) := TL.out.attr
   go_wp2_with fail
   refine TL.out.cells.mono ?_
   rintro e w8 ⟨A8, n8, c8, rfl, b8, hc8⟩
   have ST := Lib.hid (TL.out.set w8 A8 n8 c8 b8 hc8)
   clear b8 hc8 a4
   go_wp2_with fail
   refine ST.out.mono ?_
   rintro e w9 ⟨⟨_, rfl⟩, xs2, ⟨q3, q4⟩, hX⟩
   rw [hkk, HC1.out] at q3 hX
   have DZ := Lib.hid (hX _ rfl)
   clear ST TL T hX
   go_wp2
   go_ret
   exact FN.out _ _ DZ.out.1 DZ.out.2
 ·have e1 : roomS s k = s := by unfold roomS; rw [if_neg hwrap]
  have E1 := Lib.hid e1
  have e2 : roomO s k = [] := by unfold roomO; rw [if_neg hwrap]
  have FN := Lib.hid (show ∀ W2 xs2, ScAt W2 p g (printS s r) xs2 → Went w.drew W2 p g xs xs2 → Told p g (printS s r) (printO s r) s.w xs w (.returned (.slice none 0 0)) W2 from by
   intro W2 xs2 h2 hw2
   rw [eO, e2]
   exact told_none h2 ((Went.laid (Below.refl _ _).drew).trans hw2))
  have TL := Lib.hid (T.out w.drew xs HS.out.drew (by rw [e1]; exact H.out))
  have a4 : w.drew.cell? ⟨p, 4, none⟩ = some (.int .i64 s.a) := TL.out.attr
  clear h hs hd WD e1 e2
  go_enter Tryz.func65, Tryz.ntmps65
  go_wp2_with fail
  refine WO.out.mono ?_
  rintro e w' ⟨rfl, rfl⟩
  clear WO
  go_wp2_with fail
  go_region
  all_goals
   go_wp2_with fail
   refine TL.out.cells.mono ?_
   rintro e w8 ⟨A8, n8, c8, rfl, b8, hc8⟩
   have ST := Lib.hid (TL.out.set w8 A8 n8 c8 b8 hc8)
   clear b8 hc8 a4
   go_wp2_with fail
   refine ST.out.mono ?_
   rintro e w9 ⟨⟨_, rfl⟩, xs2, ⟨q3, q4⟩, hX⟩
   rw [hkk, HC1.out] at q3 hX
   have DZ := Lib.hid (hX _ rfl)
   clear ST TL T hX k0 k3
   go_wp2
   go_ret
   exact FN.out _ _ DZ.out.1 DZ.out.2
end Sc
