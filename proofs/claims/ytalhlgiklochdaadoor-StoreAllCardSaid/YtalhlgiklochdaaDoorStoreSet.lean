/-
  slices.Clone of a list of pages; store.SetLimit: the eldest rows go, if there are too many.
-/
import Derived.Test.YtalhlgiklochdaaDoorStoreFit
namespace Go.Proofs.YtalhlgiklochdaaDoor
open Go.ChangeShapes Go.WideShapes Go.ChangeAt Go.RowKit

theorem SlAt.sq {w : World} {base n c : Nat} {e : TypeId} {A : Option Addr} {xs : List Value} (h : SlAt w base e (.slice A n c) n xs) : Sq w w.heap.size 1 n A xs := by
  refine ⟨by rw [h.1, Nat.mul_one], fun hn => ?_⟩
  obtain ⟨u, hu⟩ : ∃ u, xs[0]? = some u := ⟨_, List.getElem?_eq_getElem (by rw [h.1]; exact hn)⟩
  obtain ⟨b, off, cap, ev, _, _, hb, _⟩ := h.cell hu
  injection ev with e1 _ _
  refine ⟨b, off, e1, hb, fun j u hu => ?_⟩
  obtain ⟨b', off', cap', ev', _, _, _, hc, _⟩ := h.cell hu
  injection ev' with e2 _ _
  rw [e1] at e2
  injection e2 with e2
  injection e2 with e2 e3
  rw [e2, e3]
  exact hc
theorem SlAt.ofOwn {w : World} {base n : Nat} {e : TypeId} {v : Value} {xs : List Value} (h : w.ownsRow base e 1 v n xs) : SlAt w base e v n xs := by
  refine ⟨by have := h.1; omega, ?_⟩
  rcases h.2 with ⟨e1, e2⟩ | ⟨g, cap, cur, e1, hb, hg, hc, hm, hs, ht⟩
  · exact .inl ⟨e1, e2⟩
  · refine .inr ⟨g, 0, cap, cur, e1, hb, hg, hc, hm, by omega, fun j u hu => ?_⟩
    rw [Nat.mul_one] at ht
    rw [← ht, List.getElem?_take] at hu
    split at hu
    · rw [Nat.zero_add]; simpa using hu
    · cases hu
set_option maxRecDepth 100000 in
set_option maxHeartbeats 1600000 in
theorem clonePages_walk {w : World} {base n : Nat} {v : Value} {xs : List Value} (h : SlAt w base 49 v n xs) (hb : base ≤ w.heap.size) (hn : n ≤ 1000001) (h1 : ∀ u ∈ xs, u.oneCell' = true) :
    Calls Tryd.prog 66 #[v] w fun e w' => ∃ v', e = .returned v' ∧ SlAt w' base 49 v' n xs ∧ Below w.heap.size w w' ∧ ∀ k, v'.ownBlock = some k → w.heap.size ≤ k := by
  obtain ⟨i0, hi, hz0, hz1, hz2⟩ := info_parts infoPtr
  have q22 : ∀ (w : World) (a : Option Addr) (n c n' c' : Nat), (binOp .eql 93 (.slice a n c) (.slice none n' c')).run Tryd.prog w = .ok (.bool a.isNone) w := fun w a n c n' c' => Lib.run_eql_slice_nil w _ _ a n c n' c' Tryd.underlying93
  have hx := h.1
  rcases h.2 with ⟨rfl, rfl⟩ | ⟨b, off, cap, cur, rfl, _⟩
  · have e : xs = [] := List.eq_nil_of_length_eq_zero hx
    subst e
    clear h
    go_enter Tryd.func66, Tryd.ntmps66
    go_wp2
    go_ret
    exact ⟨_, rfl, SlAt.nothing _ _ _, Below.refl _ _, fun k e => by cases e⟩
  · have QQ := Lib.hid (h.sq.alloc (Nat.le_refl _) (.cells #[] 49))
    have OO := Lib.hid h1
    clear h hx h1
    go_enter Tryd.func66, Tryd.ntmps66
    go_wp2_with (
      at_builtin
      refine wpl_app rfl _ _ 93 rfl w.heap.size 49 i0 (.pointer none) 1 8 Tryd.underlying93 hi hz0 hz1 hz2 rfl (by decide) (.slice (some ⟨w.heap.size, 0, none⟩) 0 0) 0 [] rfl (World.ownsRow_made w #[] 0 (Nat.le_refl _) (Nat.zero_le _) rfl) (some ⟨b, off, none⟩) n cap xs rfl w.heap.size QQ.out OO.out (by unfold maxLen; omega) (by omega) (by simp) ?_
      intro v1 w1 hown hg _
      have HO := Lib.hid (show w1.ownsRow w.heap.size 49 1 v1 n xs by simpa using hown)
      have HB := Lib.hid (((Below.refl w.heap.size w).alloc (Nat.le_refl _) (.cells #[] 49)).grown hg (by simp) (fun k e => by simp [Value.ownBlock] at e; omega))
      clear hown hg)
    go_ret
    exact ⟨_, rfl, (SlAt.ofOwn HO.out).mono hb, HB.out, fun k e => (World.ownsRow.lt HO.out k e).1⟩
theorem StoreAt.cloned {w3 w4 : World} {base g : Nat} {v3 v4 : Value} {ps : List Pg} {lim gone : Nat} (s : StoreAt w3 base g v3 ps lim gone) (cl : SlAt w4 base 49 v4 ps.length (ps.map fun p => ptr p.g)) (b : Below w3.heap.size w3 w4) : StoreAt (w4.setCell ⟨g, 0, none⟩ v4) base g v4 ps lim gone :=
  ⟨StR.putPages ((b.block g s.raw.lt).trans s.raw.cells) s.raw.from' cl (fun p hp => (s.raw.page p hp).below b) s.raw.apart, s.kept⟩
def SetPost (base g : Nat) (v : Value) (ps : List Pg) (lim gone : Nat) (w w' : World) : Prop :=
  ∃ v' ps', StoreAt w' base g v' ps' lim (gone + ((allRows ps).length - lim)) ∧ allRows ps' = (allRows ps).drop ((allRows ps).length - lim) ∧ Turned (Owns g v ps) w w' ∧ ∀ k, Owns g v' ps' k → Owns g v ps k ∨ w.heap.size ≤ k
set_option maxRecDepth 100000 in
set_option maxHeartbeats 3200000 in
theorem storeSetLimit_walk {base g : Nat} {v : Value} {ps : List Pg} {lim gone : Nat} {w : World} (x : Int) (h : StoreAt w base g v ps lim gone) (hn : (allRows ps).length ≤ 1000001) (hg : gone ≤ 1099511627776) :
    Calls Tryd.prog 40 #[ptr g, .int .i64 x] w fun e w' => (∃ y, e = .returned y) ∧ Hid (SetPost base g v ps (clampN x) gone w w') := by
  have CW := Lib.hid (clamp_walk x w)
  obtain ⟨c, hc⟩ : ∃ c, clampN x = c := ⟨_, rfl⟩
  rw [hc] at CW ⊢
  have H1 := Lib.hid (show StoreAt (w.setCell ⟨g, 1, none⟩ (.int .i64 (c : Int))) base g v ps c gone from ⟨h.raw.setLim c, h.kept⟩)
  have T1 := Lib.hid (Turned.ofCell g 1 w (.int .i64 (c : Int)))
  have gl := h.raw.lt
  have GB := Lib.hid (show base ≤ w.heap.size by have := h.raw.from'; omega)
  have hl := h.raw.get 1
  have hf := h.raw.free 1
  simp only [List.getElem?_toArray, List.getElem?_cons_zero, List.getElem?_cons_succ] at hl
  obtain ⟨m, hm⟩ : ∃ m, (allRows ps).length = m := ⟨_, rfl⟩
  have HM := Lib.hid hm
  have NH := Lib.hid hn
  have GH := Lib.hid hg
  clear h hc hm hn hg
  go_enter Tryd.func40, Tryd.ntmps40
  go_wp2_with fail
  refine CW.out.mono ?_
  rintro e w' ⟨rfl, rfl⟩
  clear CW
  go_wp2_with fail
  generalize w.setCell ⟨g, 1, none⟩ (.int .i64 (c : Int)) = w1 at H1 T1 ⊢
  have c1 : w1.cell? ⟨g, 1, none⟩ = some (.int .i64 (c : Int)) := H1.out.raw.get 1
  have c2 : w1.cell? ⟨g, 2, none⟩ = some (.int .i64 (m : Int)) := by rw [← HM.out]; exact H1.out.raw.get 2
  clear hl hf
  by_cases hcm : c < m
  · have d1 : (c : Int) < (m : Int) := by omega
    go_quiet (fail)
    rename_i nq
    have BD := Lib.hid (Below.drewN (Below.refl w1.heap.size w1) nq)
    generalize w1.drewN nq = wd at BD ⊢
    have FW := Lib.hid (fit_walk (H1.out.below BD.out) (by have := NH.out; omega) GH.out)
    clear c1 c2
    go_wp2_with fail
    refine FW.out.mono ?_
    rintro e w3 ⟨⟨y, rfl⟩, v3, ps3, s3, r3, t3, o3⟩
    rw [HM.out] at s3 r3
    have S3 := Lib.hid s3
    have NL := Lib.hid (show ps3.length ≤ 1000001 by
      have h1 := s3.kept.last_lt
      rw [r3, List.length_drop, HM.out] at h1
      have := NH.out
      rw [HM.out] at this
      omega)
    obtain ⟨A3, c3, rfl, _⟩ := s3.raw.sl.shape
    have PW := Lib.hid (clonePages_walk s3.raw.sl (Nat.le_trans GB.out (Nat.le_trans T1.out.size (Nat.le_trans BD.out.size t3.size))) NL.out (fun u hu => by obtain ⟨q, _, rfl⟩ := List.mem_map.1 hu; rfl))
    have D3 := Lib.hid (fun w4 v4 (cl : SlAt w4 base 49 v4 ps3.length (ps3.map fun p => ptr p.g)) (b4 : Below w3.heap.size w3 w4) (o4 : ∀ k, v4.ownBlock = some k → w3.heap.size ≤ k) => (show SetPost base g v ps c gone w (w4.setCell ⟨g, 0, none⟩ v4) from
      ⟨v4, ps3, by rw [HM.out]; exact s3.cloned cl b4, by rw [HM.out]; exact r3,
        ((((T1.out.mono (M' := Owns g v ps) (fun k _ e => .inl e)).trans (Turned.ofBelow BD.out (fun _ => False)) (fun _ _ h => h.elim)).trans t3 (fun _ _ h => h)).trans (Turned.ofBelow b4 (fun _ => False)) (fun _ _ h => h.elim)).trans (Turned.ofCell g 0 w4 v4) (fun _ _ e => .inl e),
        fun k hk => by
          have hz : w.heap.size ≤ w3.heap.size := Nat.le_trans T1.out.size (Nat.le_trans BD.out.size t3.size)
          rcases hk with e | e | ⟨q, hq, e⟩
          · exact .inl (.inl e)
          · exact .inr (Nat.le_trans hz (o4 k e))
          · exact .inl (o3 k (.inr (.inr ⟨q, hq, e⟩)))⟩))
    have c0 := s3.raw.get 0
    simp only [List.getElem?_toArray, List.getElem?_cons_zero] at c0
    have gl3 := s3.raw.lt
    have hg3 := Lib.hid s3.raw.cells
    clear FW s3 r3 t3 o3
    go_wp2_with fail
    refine PW.out.mono ?_
    rintro e w4 ⟨v4, rfl, cl, b4, o4⟩
    obtain ⟨A4, c4, rfl, _⟩ := cl.shape
    have DN := Lib.hid (D3.out w4 _ cl b4 o4)
    have hg4 := (b4.block g gl3).trans hg3.out
    have k0 := cell_of_row w4 g 0 _ _ (0, 0) hg4
    have y0 := frozen_of_row w4 g 0 _ _ hg4
    simp only [List.getElem?_toArray, List.getElem?_cons_zero] at k0
    clear cl b4 o4 hg4 D3 PW c0
    go_wp2
    go_end0
    exact ⟨⟨_, rfl⟩, DN⟩
  · have d1 : ¬ (c : Int) < (m : Int) := by omega
    go_quiet (fail)
    rename_i nq
    have BD := Lib.hid (Below.drewN (Below.refl w1.heap.size w1) nq)
    generalize w1.drewN nq = wd at BD ⊢
    have DN := Lib.hid (show SetPost base g v ps c gone w wd from ⟨v, ps, by rw [HM.out, Nat.sub_eq_zero_of_le (by omega), Nat.add_zero]; exact H1.out.below BD.out, by rw [HM.out, Nat.sub_eq_zero_of_le (by omega), List.drop_zero], (T1.out.mono (M' := Owns g v ps) (fun k _ e => .inl e)).trans (Turned.ofBelow BD.out (fun _ => False)) (fun _ _ h => h.elim), fun k hk => .inl hk⟩)
    clear c1 c2 H1 T1
    go_wp2
    go_end0
    exact ⟨⟨_, rfl⟩, DN⟩
end Go.Proofs.YtalhlgiklochdaaDoor
