/-
  The statement StoreOwn: what a store and a page tell, and what was handed in to them, are the caller's own: who writes into it turns nothing of what they tell later. For every row (of which the statement looks at the first 310 cells); it holds where the table of widths is as its initialiser lays it, which the card ties to the program's text.
-/
import Derived.Test.YtikdlikdknfcfaaDoorBegun
import Derived.Test.YtikdlikdknfcfaaDoorBegun4
import Derived.Test.YtikdlikdknfcfaaDoorRowArgs
import Derived.Test.YtikdlikdknfcfaaDoorRefCopy
import Derived.Test.YtikdlikdknfcfaaDoorRefRow
import Derived.Test.YtikdlikdknfcfaaDoorStoreFit
namespace Go.Proofs.YtikdlikdknfcfaaDoor.storeOwn
open Go.ChangeShapes Go.WideShapes Go.ChangeAt Go.RowKit

/-- What stands while cells are written: the copy, the store and the page, each with the row. -/
structure Kept (w0 : World) (g4 gs gp : Nat) (VC v : Value) (ps : List Pg) (vp : List Value) (wrap : Bool) (L : List Cel) (W : World) : Prop where
  old : Below w0.heap.size w0 W
  row : RowAt W g4 VC wrap
  copy : HasC W w0.heap.size VC L
  st : StoreAt W gs gs v ps 5 0
  rows : allRows ps = [(wrap, L)]
  pg : PageAt W gp gp vp [(wrap, L)]
section
variable {w0 W W' : World} {g4 gs gp : Nat} {VC v : Value} {ps : List Pg} {vp : List Value} {wrap : Bool} {L : List Cel}
theorem Kept.turned (h : Kept w0 g4 gs gp VC v ps vp wrap L W) {M : Nat → Prop} (ht : Turned M W W') (hm : ∀ j, M j → w0.heap.size ≤ j ∧ Typed W 45 j ∧ VC.ownBlock ≠ some j) : Kept w0 g4 gs gp VC v ps vp wrap L W' := by
  have nb : ∀ k, M k → ¬ Typed W 5 k := fun k hk hb => (hm k hk).2.1.apart hb (by decide) rfl
  refine ⟨h.old.trans (ht.toBelow h.old.size fun k hk hM => ?_), ?_, ?_, h.st.turned ht ?_ nb, h.rows, h.pg.turned ht ?_ nb⟩
  · have := (hm k hM).1; omega
  · have hr := h.row
    exact (ht.block g4 hr.lt (fun hM => (hm g4 hM).2.1.apart ⟨_, _, hr⟩ (by decide) rfl)).trans hr
  · exact h.copy.keep fun k e => ht.block k (HasC.lt h.copy k e).2 (fun hM => (hm k hM).2.2 e)
  · rintro k (rfl | hk | ⟨p, hp, rfl⟩) hM
    · exact (hm _ hM).2.1.apart h.st.raw.typed (by decide) rfl
    · exact (hm _ hM).2.1.apart (h.st.raw.slTyped k hk) (by decide) rfl
    · exact (hm _ hM).2.1.apart (h.st.raw.page p hp).typed (by decide) rfl
  · exact fun hM => (hm _ hM).2.1.apart h.pg.typed (by decide) rfl
theorem Kept.below (h : Kept w0 g4 gs gp VC v ps vp wrap L W) (hb : Below W.heap.size W W') : Kept w0 g4 gs gp VC v ps vp wrap L W' := h.turned (M := fun _ => False) (Turned.ofBelow hb _) (fun _ h => h.elim)
end
theorem own_typed {w : World} {B : Nat} {e : TypeId} {s n : Nat} {g c : Nat} {xs : List Value} (h : w.ownsRow B e s (.slice (some ⟨g, 0, none⟩) n c) n xs) : Typed w e g := by
  rcases h.2 with ⟨e, _⟩ | ⟨g', cap, cur, e, _, e3, _⟩
  · cases e
  · injection e with e1 e2
    injection e1 with e1
    injection e1 with e1
    subst e1
    exact ⟨_, _, e3⟩
theorem own_cells {w : World} {B : Nat} {e : TypeId} {s n c : Nat} {A : Option Addr} {xs : List Value} (h : w.ownsRow B e s (.slice A n c) n xs) (hn : 0 < n) :
    ∃ g, A = some ⟨g, 0, none⟩ ∧ B ≤ g ∧ (∀ j, j < n * s → ∃ u, w.cell? ⟨g, j, none⟩ = some u) ∧ (∀ j, w.frozen? ⟨g, j, none⟩ = false) ∧ ∀ j u, (w.setCell ⟨g, j, none⟩ u).ownsRow B e s (.slice A n c) n (xs.set j u) := by
  obtain ⟨g, c', ev, _, hB, _, _⟩ := own_at h hn
  injection ev with e1 e2 e3
  subst e1 e3
  refine ⟨g, rfl, hB, fun j hj => ?_, fun j => h.frozenAt j, fun j u => (h.stored j u).1⟩
  rw [h.cellAt j hj]
  have hl : j < xs.length := by rw [h.1]; exact hj
  exact ⟨xs[j], List.getElem?_eq_getElem hl⟩

set_option maxRecDepth 100000 in
set_option maxHeartbeats 6400000 in
theorem walk (r : RowIn) (w : World) (hs : Spans w) (hr : r.Ok w w.heap.size) :
    Calls Tryd.prog 10 #[rowV r.A r.n r.c r.wrap] w fun e w' => e = .returned (.bool true) ∧ Below w.heap.size w w' := by
  obtain ⟨rA, rn, rc, wrap, rl⟩ := r
  simp only
  obtain ⟨rle, rcap, rsigns, rsq⟩ := hr
  simp only at rle rcap rsigns rsq
  have S := Lib.hid hs
  have RS := Lib.hid rsigns
  have RQ := Lib.hid rsq
  clear hs rsigns rsq
  obtain ⟨g1, hg1⟩ : ∃ g1, w.heap.size = g1 := ⟨_, rfl⟩
  go_enter Tryd.func10, Tryd.ntmps10
  have B0 := Lib.hid ((Below.refl w.heap.size w).alloc (Nat.le_refl _) (.cells #[.slice rA rn rc, .bool wrap] 31))
  have R0 := Lib.hid (show RowAt (w.alloc (.cells #[.slice rA rn rc, .bool wrap] 31)) g1 (.slice rA rn rc) wrap by rw [← hg1]; exact heap_alloc_new w _)
  have G1 := Lib.hid hg1
  go_wp2_with fail
  generalize w.alloc (.cells #[.slice rA rn rc, .bool wrap] 31) = wa at B0 R0 ⊢
  refine (begun4_walk wa (S.out.below B0.out S.out.size)).mono ?_
  rintro e w1 ⟨rfl, b1⟩
  have B1 := Lib.hid (B0.out.trans (b1.mono B0.out.size))
  have R1 := Lib.hid (show RowAt w1 g1 (.slice rA rn rc) wrap from (b1.block _ R0.out.lt).trans R0.out)
  clear b1 B0 R0
  have r0 := R1.out.get 0
  have r1 := R1.out.get 1
  go_wp2_with fail
  refine (lawRow_walk rA rn rc wrap rl w1 ((RQ.out.below B1.out).up B1.out.size) rle rcap).mono ?_
  rintro e w2 ⟨v, rfl, hv, b2⟩
  obtain ⟨L, hL⟩ : ∃ L, cut310 rl = L := ⟨_, rfl⟩
  have SL : Hid (∀ c ∈ L, -2147483648 ≤ c.1 ∧ c.1 ≤ 2147483647) := Lib.hid (fun c h => RS.out c (List.mem_of_mem_take (by rw [← hL] at h; exact h)))
  have L310 : L.length ≤ 310 := by rw [← hL]; exact cut310_len rl
  rw [hL] at hv
  obtain ⟨A', c', rfl, hc'⟩ := HasC.shape hv
  obtain ⟨k, hk⟩ : ∃ k, L.length = k := ⟨_, rfl⟩
  rw [hk] at hc' hv L310 ⊢
  have LK := Lib.hid hk
  have g1l : g1 < w1.heap.size := R1.out.lt
  have R2 := Lib.hid (show RowAt w2 g1 (.slice rA rn rc) wrap from (b2.block _ R1.out.lt).trans R1.out)
  have V2 := Lib.hid hv
  have B2 := Lib.hid (B1.out.trans (b2.mono B1.out.size))
  have N2 := Lib.hid b2.size
  clear r0 r1 hL hv hk b2 R1
  have r0 := R2.out.get 0
  have r1 := R2.out.get 1
  have f0 := R2.out.free 0
  have f1 := R2.out.free 1
  have R3 := Lib.hid (RowAt.put2 R2.out (.slice A' k c') wrap)
  have B3 := Lib.hid ((B2.out.setCell (p := ⟨g1, 0, none⟩) (Nat.le_of_eq G1.out) (.slice A' k c')).setCell (p := ⟨g1, 1, none⟩) (Nat.le_of_eq G1.out) (.bool wrap))
  have V3 := Lib.hid (HasC.keep (w' := (w2.setCell ⟨g1, 0, none⟩ (.slice A' k c')).setCell ⟨g1, 1, none⟩ (.bool wrap)) V2.out (fun j e => by
      have h := (HasC.lt V2.out j e).1
      rw [Below.heap_setCell _ _ _ _ (by show j ≠ g1; omega), Below.heap_setCell _ _ _ _ (by show j ≠ g1; omega)]))
  have HW2 := Lib.hid hg1
  clear R2 V2 B2
  go_wp2_with fail
  clear r0 r1 f0 f1
  generalize (w2.setCell ⟨g1, 0, none⟩ (.slice A' k c')).setCell ⟨g1, 1, none⟩ (.bool wrap) = w3 at R3 B3 V3 ⊢
  have VQ3 := Lib.hid (HasC.sq V3.out)
  refine (refRow_walk A' k c' wrap L w3 SL.out VQ3.out (by omega)).mono ?_
  rintro e w4 ⟨rfl, b4⟩
  have B4 := Lib.hid (B3.out.trans (b4.mono B3.out.size))
  have R4 := Lib.hid (show RowAt w4 g1 (.slice A' k c') wrap from (b4.block _ R3.out.lt).trans R3.out)
  have V4 := Lib.hid (HasC.keep (w' := w4) V3.out (fun j e => b4.block j (HasC.lt V3.out j e).2))
  clear b4 B3 R3 V3 VQ3
  have r0 := R4.out.get 0
  have r1 := R4.out.get 1
  obtain ⟨bb, hbb⟩ : ∃ bb, mayL L = bb := ⟨_, rfl⟩
  have MB := Lib.hid hbb
  rw [hbb]
  clear hbb
  cases bb
  · go_wp2
    go_ret
    exact ⟨rfl, B4.out⟩
  by_cases h0 : k = 0
  · have hkb : ((k : Int) == 0) = true := by simp [h0]
    clear h0
    go_wp2
    go_ret
    exact ⟨rfl, B4.out⟩
  have hkb : ((k : Int) == 0) = false := by simp [h0]
  have hk0 : 0 < k := by omega
  have VQ4 := Lib.hid (HasC.sq V4.out)
  clear h0
  go_wp2_with fail
  refine (refCopy_walk A' k c' wrap L w4 VQ4.out (by omega)).mono ?_
  rintro e w5 ⟨VC, rfl, hvc, b5⟩
  obtain ⟨AC, cC, rfl, hcC⟩ := HasC.shape hvc
  rw [LK.out] at hvc hcC ⊢
  have B5 := Lib.hid (B4.out.trans (b5.mono B4.out.size))
  have R5 := Lib.hid (show RowAt w5 g1 (.slice A' k c') wrap from (b5.block _ R4.out.lt).trans R4.out)
  have V5 := Lib.hid (HasC.keep (w' := w5) V4.out (fun j e => b5.block j (HasC.lt V4.out j e).2))
  have AP := Lib.hid (show ∀ j, (Value.slice A' k c').ownBlock = some j → (Value.slice AC k cC).ownBlock ≠ some j from fun j e e2 => by
    have h1 := (HasC.lt V4.out j e).2
    have h2 := (HasC.lt hvc j e2).1
    omega)
  have C5 := Lib.hid hvc
  have n45 := b5.size
  have hw4 := B4.out.size
  clear r0 r1 b5 hvc B4 R4 V4 VQ4
  obtain ⟨g4, hg4⟩ : ∃ g4, w5.heap.size = g4 := ⟨_, rfl⟩
  have G4 := Lib.hid hg4
  have R6 := Lib.hid (show RowAt (w5.alloc (.cells #[.slice AC k cC, .bool wrap] 31)) g4 (.slice AC k cC) wrap by rw [← hg4]; exact heap_alloc_new w5 _)
  have B6 := Lib.hid ((Below.refl w5.heap.size w5).alloc (Nat.le_refl _) (.cells #[.slice AC k cC, .bool wrap] 31))
  have Z6 := Lib.hid (show (w5.alloc (.cells #[.slice AC k cC, .bool wrap] 31)).heap.size = g4 + 1 by rw [← hg4]; simp)
  go_wp2_with fail
  generalize w5.alloc (.cells #[.slice AC k cC, .bool wrap] 31) = w6 at R6 B6 Z6 ⊢
  refine (storeNew_walk 5 w6).mono ?_
  rintro e w7 ⟨rfl, st7, b7, z7⟩
  rw [show clampN 5 = 5 by decide] at st7
  obtain ⟨gs, hgs⟩ : ∃ gs, w6.heap.size = gs := ⟨_, rfl⟩
  rw [hgs] at st7 z7 ⊢
  have ST7 := Lib.hid st7
  have B7 := Lib.hid b7
  clear st7 b7
  go_wp2_with fail
  refine (pageNew_walk w7).mono ?_
  rintro e w8 ⟨rfl, pg8, b8, z8⟩
  rw [z7] at pg8 z8 ⊢
  have PG8 := Lib.hid pg8
  have b68 : Below w6.heap.size w6 w8 := B7.out.trans (b8.mono B7.out.size)
  have b58 : Below w5.heap.size w5 w8 := B6.out.trans (b68.mono B6.out.size)
  have ST8 := Lib.hid (ST7.out.below b8)
  have B8 := Lib.hid (B5.out.trans (b58.mono B5.out.size))
  have R8 := Lib.hid (show RowAt w8 g1 (.slice A' k c') wrap from (b58.block _ R5.out.lt).trans R5.out)
  have V8 := Lib.hid (HasC.keep (w' := w8) V5.out (fun j e => b58.block j (HasC.lt V5.out j e).2))
  have C8 := Lib.hid (HasC.keep (w' := w8) C5.out (fun j e => b58.block j (HasC.lt C5.out j e).2))
  have T8 := Lib.hid (show RowAt w8 g4 (.slice AC k cC) wrap from (b68.block _ R6.out.lt).trans R6.out)
  have l1 : g1 < gs := by have := R5.out.lt; have := Z6.out; omega
  have l4 : g4 < gs := by have := Z6.out; omega
  have LV := Lib.hid (show ∀ j, (Value.slice A' k c').ownBlock = some j → j < gs from fun j e => by have := (HasC.lt V5.out j e).2; have := Z6.out; omega)
  have LC := Lib.hid (show ∀ j, (Value.slice AC k cC).ownBlock = some j → j < gs from fun j e => by have := (HasC.lt C5.out j e).2; have := Z6.out; omega)
  have hw1 : w.heap.size ≤ w1.heap.size := B1.out.size
  clear pg8 b68 b58 b8 z7 ST7 B5 B6 B7 R5 V5 C5 R6 Z6
  have r0 := R8.out.get 0
  have r1 := R8.out.get 1
  have VQ8 := Lib.hid (HasC.sq V8.out)
  go_wp2_with fail
  refine (storeAdd_walk A' k c' wrap L w8 (S.out.below B8.out S.out.size) ST8.out SL.out VQ8.out hc' (by omega) (by rw [allRows_nil]; simp) (by omega)).mono ?_
  rintro e w9 ⟨v, ps, rfl, st9, rows9, t9, o9⟩
  rw [allRows_nil, show addG 5 [] (wrap, L) = 0 by unfold addG; simp [MB.out]] at st9
  rw [allRows_nil, show addR 5 [] (wrap, L) = [(wrap, L)] by unfold addR; simp [MB.out]] at rows9
  have o0 : ∀ j, Owns gs (.slice none 0 0) [] j → j = gs := by
    rintro j (rfl | h | ⟨q, h, _⟩)
    · rfl
    · cases h
    · cases h
  have t9' := t9.mono (M' := (· = gs)) (fun j _ h => o0 j h)
  have ST9 := Lib.hid st9
  have HR9 := Lib.hid rows9
  have PG9 := Lib.hid (PG8.out.turned t9' (by omega) (fun j e => by subst e; exact fun hb => ST8.out.raw.typed.apart hb (by decide) rfl))
  have gpl := PG8.out.lt
  have O9 := Lib.hid (show ∀ j, Owns gs v ps j → gs + 1 ≠ j from fun j h => by
    rcases o9 j h with h | h
    · have := o0 j h; omega
    · omega)
  have R9 := Lib.hid (show RowAt w9 g1 (.slice A' k c') wrap from (t9'.block _ R8.out.lt (by omega)).trans R8.out)
  have V9 := Lib.hid (HasC.keep (w' := w9) V8.out (fun j e => t9'.block j (HasC.lt V8.out j e).2 (by have := LV.out j e; omega)))
  have C9 := Lib.hid (HasC.keep (w' := w9) C8.out (fun j e => t9'.block j (HasC.lt C8.out j e).2 (by have := LC.out j e; omega)))
  have T9 := Lib.hid (show RowAt w9 g4 (.slice AC k cC) wrap from (t9'.block _ T8.out.lt (by omega)).trans T8.out)
  have B9 := Lib.hid (B8.out.trans (t9'.toBelow B8.out.size (fun j hj => by omega)))
  have n89 := t9'.size
  have hml : mayL (wrap, L).2 = true := MB.out
  rw [hml]
  clear r0 r1 st9 rows9 t9 o9 t9' o0 hml ST8 PG8 R8 V8 C8 T8 B8 VQ8
  have r0 := R9.out.get 0
  have r1 := R9.out.get 1
  have VQ9 := Lib.hid (HasC.sq V9.out)
  go_wp2_with fail
  refine (pageAdd_walk (gs + 1) (gs + 1) [] [] A' k c' wrap L w9 (S.out.below B9.out S.out.size) PG9.out (by omega) SL.out VQ9.out hc' (by omega)).mono ?_
  rintro e w10 ⟨ok, vp, hok, rfl, pg10, gr10, _⟩
  rw [show (mayL (wrap, L).2 && decide (([] : List PRow).length < 16)) = true by rw [show mayL (wrap, L).2 = true from MB.out]; rfl] at hok
  subst hok
  simp only [if_true, List.nil_append] at pg10
  have t10 := Turned.ofGrown gr10
  have R10 := Lib.hid (show RowAt w10 g1 (.slice A' k c') wrap from (t10.block _ R9.out.lt (by intro e; injection e with e; omega)).trans R9.out)
  have V10 := Lib.hid (HasC.keep (w' := w10) V9.out (fun j e => t10.block j (HasC.lt V9.out j e).2 (by intro e2; injection e2 with e2; have := LV.out j e; omega)))
  have K10 := Lib.hid (show Kept w g4 gs (gs + 1) (.slice AC k cC) v ps vp wrap L w10 from {
    old := B9.out.trans (t10.toBelow B9.out.size (fun j hj e => by injection e with e; omega)),
    row := (t10.block _ T9.out.lt (by intro e; injection e with e; omega)).trans T9.out,
    copy := (HasC.keep (w' := w10) C9.out (fun j e => t10.block j (HasC.lt C9.out j e).2 (by intro e2; injection e2 with e2; have := LC.out j e; omega))).mono (by omega),
    st := ST9.out.turned t10 (fun j h e => by injection e with e; exact O9.out j h e) (fun j e => by injection e with e; subst e; exact fun hb => PG9.out.typed.apart hb (by decide) rfl),
    rows := HR9.out,
    pg := pg10 })
  clear r0 r1 pg10 gr10 t10 ST9 HR9 PG9 O9 R9 V9 C9 T9 B9 VQ9 n89 gpl
  have r0 := R10.out.get 0
  go_wp2_with fail
  clear r0
  go_loopw [49] (fun i wr => ∃ j : Nat, i = .int .i64 j ∧ j ≤ k ∧ RowAt wr g1 (.slice A' k c') wrap ∧ (∃ xs, wr.ownsRow w1.heap.size 45 3 (.slice A' k c') k xs) ∧ Kept w g4 gs (gs + 1) (.slice AC k cC) v ps vp wrap L wr) (fun i _ => k - (intOf i).toNat)
  case atStart => exact ⟨0, rfl, Nat.zero_le _, R10.out, ⟨flat L, by have h := V10.out; unfold HasC at h; rw [LK.out] at h; exact h⟩, K10.out⟩
  case round =>
    obtain ⟨j, rfl, hj, hR, ⟨xs, ho⟩, hK⟩ := hrel
    by_cases hlt : j < k
    · obtain ⟨g, rfl, hg, hcell, hfree, hset⟩ := own_cells ho (by omega)
      obtain ⟨u, hu⟩ := hcell (j * 3 + 2) (by omega)
      have hf := hfree (j * 3 + 2)
      have hne : g1 ≠ g := by omega
      have hwg : w.heap.size ≤ g := by omega
      have HS := Lib.hid hset
      have RW := Lib.hid (show RowAt (wr.setCell ⟨g, j * 3 + 2, none⟩ (.int .i64 77)) g1 (.slice (some ⟨g, 0, none⟩) k c') wrap from (Below.heap_setCell _ _ _ _ (by exact hne)).trans hR)
      have KW := Lib.hid (hK.turned (Turned.ofCell g (j * 3 + 2) wr (.int .i64 77)) (fun q e => by subst e; exact ⟨hwg, own_typed ho, AP.out _ rfl⟩))
      have r0 := hR.get 0
      clear hcell hfree hset ho hR hK
      go_wp2
      go_roundw
      case rel => exact ⟨j + 1, by go_num, by omega, RW.out, ⟨_, HS.out _ _⟩, KW.out⟩
      case measure => simp [intOf]; omega
    · have KH := Lib.hid hK
      clear ho hR hK
      clear K10 V10 R10
      have hr0 : (allRows ps)[0]? = some (wrap, L) := by rw [KH.out.rows]; rfl
      have hN : (allRows ps).length ≤ 1000001 := by rw [KH.out.rows]; simp
      have HR0 := Lib.hid hr0
      have HN := Lib.hid hN
      clear hr0 hN
      go_wp2_with fail
      refine (storeAt_some 0 (wrap, L) (S.out.below KH.out.old S.out.size) KH.out.st HN.out HR0.out).mono ?_
      rintro e w11 ⟨vx, rfl, hx, b11⟩
      simp only [Option.elim_some, Option.isSome_some] at hx ⊢
      obtain ⟨Ax, cx, rfl, hcx⟩ := HasC.shape hx
      rw [LK.out] at hx hcx ⊢
      have K11 := Lib.hid (KH.out.below b11)
      have X11 := Lib.hid hx
      have nk := KH.out.old.size
      have n11 := b11.size
      have APX := Lib.hid (show ∀ q, (Value.slice Ax k cx).ownBlock = some q → (Value.slice AC k cC).ownBlock ≠ some q ∧ w.heap.size ≤ q from fun q e => ⟨fun e2 => by
        have h1 := (HasC.lt KH.out.copy q e2).2
        have h2 := (HasC.lt hx q e).1
        omega, by have h2 := (HasC.lt hx q e).1; omega⟩)
      clear hx b11 KH
      obtain ⟨gx, hgx⟩ : ∃ gx, w11.heap.size = gx := ⟨_, rfl⟩
      have ba := (Below.refl w11.heap.size w11).alloc (Nat.le_refl _) (.cells #[.slice Ax k cx, .bool wrap] 31)
      have RX := Lib.hid (show RowAt (w11.alloc (.cells #[.slice Ax k cx, .bool wrap] 31)) gx (.slice Ax k cx) wrap by rw [← hgx]; exact heap_alloc_new w11 _)
      have K12 := Lib.hid (K11.out.below ba)
      have X12 := Lib.hid (HasC.keep (w' := w11.alloc (.cells #[.slice Ax k cx, .bool wrap] 31)) X11.out (fun q e => ba.block q (HasC.lt X11.out q e).2))
      have Z12 := Lib.hid (show (w11.alloc (.cells #[.slice Ax k cx, .bool wrap] 31)).heap.size = gx + 1 by rw [← hgx]; simp)
      have hxl : ∀ q, (Value.slice Ax k cx).ownBlock = some q → q < gx := fun q e => by have := (HasC.lt X11.out q e).2; omega
      have HXL := Lib.hid hxl
      clear ba K11 X11 hxl
      go_wp2_with fail
      generalize w11.alloc (.cells #[.slice Ax k cx, .bool wrap] 31) = w12 at RX K12 X12 Z12 ⊢
      refine (pageAt_some (gs + 1) (gs + 1) vp [(wrap, L)] 0 (wrap, L) w12 (S.out.below K12.out.old S.out.size) K12.out.pg rfl).mono ?_
      rintro e w13 ⟨vy, rfl, hy, b13⟩
      simp only [Option.elim_some, Option.isSome_some] at hy ⊢
      obtain ⟨Ay, cy, rfl, hcy⟩ := HasC.shape hy
      rw [LK.out] at hy hcy ⊢
      have K13 := Lib.hid (K12.out.below b13)
      have Y13 := Lib.hid hy
      have RX13 := Lib.hid (show RowAt w13 gx (.slice Ax k cx) wrap from (b13.block _ RX.out.lt).trans RX.out)
      have X13 := Lib.hid (HasC.keep (w' := w13) X12.out (fun q e => b13.block q (HasC.lt X12.out q e).2))
      have APY := Lib.hid (show ∀ q, (Value.slice Ay k cy).ownBlock = some q → (Value.slice AC k cC).ownBlock ≠ some q ∧ w.heap.size ≤ q ∧ gx < q from fun q e => by
        have h2 := (HasC.lt hy q e).1
        have h3 := Z12.out
        have h4 := K12.out.old.size
        exact ⟨fun e2 => by have h1 := (HasC.lt K12.out.copy q e2).2; omega, by omega, by omega⟩)
      have n13 := b13.size
      clear hy b13 K12 X12 RX
      obtain ⟨gy, hgy⟩ : ∃ gy, w13.heap.size = gy := ⟨_, rfl⟩
      have ba := (Below.refl w13.heap.size w13).alloc (Nat.le_refl _) (.cells #[.slice Ay k cy, .bool wrap] 31)
      have RY := Lib.hid (show RowAt (w13.alloc (.cells #[.slice Ay k cy, .bool wrap] 31)) gy (.slice Ay k cy) wrap by rw [← hgy]; exact heap_alloc_new w13 _)
      have K14 := Lib.hid (K13.out.below ba)
      have Y14 := Lib.hid (HasC.keep (w' := w13.alloc (.cells #[.slice Ay k cy, .bool wrap] 31)) Y13.out (fun q e => ba.block q (HasC.lt Y13.out q e).2))
      have X14 := Lib.hid (HasC.keep (w' := w13.alloc (.cells #[.slice Ay k cy, .bool wrap] 31)) X13.out (fun q e => ba.block q (HasC.lt X13.out q e).2))
      have RX14 := Lib.hid (show RowAt (w13.alloc (.cells #[.slice Ay k cy, .bool wrap] 31)) gx (.slice Ax k cx) wrap from (ba.block _ RX13.out.lt).trans RX13.out)
      have HYL := Lib.hid (show ∀ q, (Value.slice Ay k cy).ownBlock = some q → q < gy from fun q e => by have := (HasC.lt Y13.out q e).2; omega)
      clear ba K13 Y13 X13 RX13
      have r0 := RX14.out.get 0
      go_wp2_with fail
      generalize w13.alloc (.cells #[.slice Ay k cy, .bool wrap] 31) = w14 at RY K14 Y14 X14 RX14 r0 ⊢
      clear r0
      go_loopw [71] (fun i wr => ∃ j : Nat, i = .int .i64 j ∧ j ≤ k ∧ RowAt wr gx (.slice Ax k cx) wrap ∧ RowAt wr gy (.slice Ay k cy) wrap ∧ (∃ xs, wr.ownsRow 0 45 3 (.slice Ax k cx) k xs) ∧ HasC wr 0 (.slice Ay k cy) L ∧ Kept w g4 gs (gs + 1) (.slice AC k cC) v ps vp wrap L wr) (fun i _ => k - (intOf i).toNat)
      case atStart => exact ⟨0, rfl, Nat.zero_le _, RX14.out, RY.out, ⟨flat L, by have h := HasC.mono X14.out (Nat.zero_le _); unfold HasC at h; rw [LK.out] at h; exact h⟩, HasC.mono Y14.out (Nat.zero_le _), K14.out⟩
      case round =>
        obtain ⟨j, rfl, hj, hRX, hRY, ⟨xs, ho⟩, hY, hK⟩ := hrel
        by_cases hlt : j < k
        · obtain ⟨g, rfl, hg, hcell, hfree, hset⟩ := own_cells ho (by omega)
          obtain ⟨u, hu⟩ := hcell (j * 3) (by omega)
          have hf := hfree (j * 3)
          have hgx := HXL.out g rfl
          have hne : gx ≠ g := by omega
          have hne2 : gy ≠ g := fun e => by
            subst e
            exact (own_typed ho).apart ⟨_, _, hRY⟩ (by decide) rfl
          have HS := Lib.hid hset
          have RW := Lib.hid (show RowAt (wr.setCell ⟨g, j * 3, none⟩ (.int .i32 122)) gx (.slice (some ⟨g, 0, none⟩) k cx) wrap from (Below.heap_setCell _ _ _ _ (by exact hne)).trans hRX)
          have RV := Lib.hid (show RowAt (wr.setCell ⟨g, j * 3, none⟩ (.int .i32 122)) gy (.slice Ay k cy) wrap from (Below.heap_setCell _ _ _ _ (by exact hne2)).trans hRY)
          have YW := Lib.hid (HasC.keep (w' := wr.setCell ⟨g, j * 3, none⟩ (.int .i32 122)) hY (fun q e => Below.heap_setCell _ _ _ _ (by have := (APY.out q e).2.2; show q ≠ g; omega)))
          have KW := Lib.hid (hK.turned (Turned.ofCell g (j * 3) wr (.int .i32 122)) (fun q e => by subst e; exact ⟨(APX.out _ rfl).2, own_typed ho, (APX.out _ rfl).1⟩))
          have r0 := hRX.get 0
          clear hcell hfree hset ho hRX hRY hY hK
          go_wp2
          go_roundw
          case rel => exact ⟨j + 1, by go_num, by omega, RW.out, RV.out, ⟨_, HS.out _ _⟩, YW.out, KW.out⟩
          case measure => simp [intOf]; omega
        · have KH := Lib.hid hK
          have RH := Lib.hid hRY
          have YH := Lib.hid hY
          have r0 := hRY.get 0
          clear ho hRX hRY hY hK K14 Y14 X14 RX14 RY
          go_wp2_with fail
          clear r0
          go_loopw [83] (fun i wr => ∃ j : Nat, i = .int .i64 j ∧ j ≤ k ∧ RowAt wr gy (.slice Ay k cy) wrap ∧ (∃ xs, wr.ownsRow 0 45 3 (.slice Ay k cy) k xs) ∧ Kept w g4 gs (gs + 1) (.slice AC k cC) v ps vp wrap L wr) (fun i _ => k - (intOf i).toNat)
          case atStart => exact ⟨0, rfl, Nat.zero_le _, RH.out, ⟨flat L, by have h := YH.out; unfold HasC at h; rw [LK.out] at h; exact h⟩, KH.out⟩
          case round =>
            obtain ⟨j, rfl, hj, hRY, ⟨xs, ho⟩, hK⟩ := hrel
            by_cases hlt : j < k
            · obtain ⟨g, rfl, hg, hcell, hfree, hset⟩ := own_cells ho (by omega)
              obtain ⟨u, hu⟩ := hcell (j * 3) (by omega)
              have hf := hfree (j * 3)
              have hne2 : gy ≠ g := by have := HYL.out g rfl; omega
              have HS := Lib.hid hset
              have RV := Lib.hid (show RowAt (wr.setCell ⟨g, j * 3, none⟩ (.int .i32 122)) gy (.slice (some ⟨g, 0, none⟩) k cy) wrap from (Below.heap_setCell _ _ _ _ (by exact hne2)).trans hRY)
              have KW := Lib.hid (hK.turned (Turned.ofCell g (j * 3) wr (.int .i32 122)) (fun q e => by subst e; exact ⟨(APY.out _ rfl).2.1, own_typed ho, (APY.out _ rfl).1⟩))
              have r0 := hRY.get 0
              clear hcell hfree hset ho hRY hK
              go_wp2
              go_roundw
              case rel => exact ⟨j + 1, by go_num, by omega, RV.out, ⟨_, HS.out _ _⟩, KW.out⟩
              case measure => simp [intOf]; omega
            · have K15 := Lib.hid hK
              clear ho hRY hK KH RH YH
              go_wp2_with fail
              refine (storeAt_some 0 (wrap, L) (S.out.below K15.out.old S.out.size) K15.out.st HN.out HR0.out).mono ?_
              rintro e w16 ⟨vz, rfl, hz, b16⟩
              simp only [Option.elim_some, Option.isSome_some] at hz ⊢
              obtain ⟨Az, cz, rfl, hcz⟩ := HasC.shape hz
              rw [LK.out] at hz hcz ⊢
              have K16 := Lib.hid (K15.out.below b16)
              have ZQ16 := Lib.hid (HasC.sq hz)
              clear hz b16 K15
              obtain ⟨gz, hgz⟩ : ∃ gz, w16.heap.size = gz := ⟨_, rfl⟩
              have ba := (Below.refl w16.heap.size w16).alloc (Nat.le_refl _) (.cells #[.slice Az k cz, .bool wrap] 31)
              have RZ := Lib.hid (show RowAt (w16.alloc (.cells #[.slice Az k cz, .bool wrap] 31)) gz (.slice Az k cz) wrap by rw [← hgz]; exact heap_alloc_new w16 _)
              have K17 := Lib.hid (K16.out.below ba)
              have ZQ17 := Lib.hid ((ZQ16.out.below ba).up ba.size)
              clear ba K16 ZQ16
              go_wp2_with fail
              generalize w16.alloc (.cells #[.slice Az k cz, .bool wrap] 31) = w17 at RZ K17 ZQ17 ⊢
              refine (pageAt_some (gs + 1) (gs + 1) vp [(wrap, L)] 0 (wrap, L) w17 (S.out.below K17.out.old S.out.size) K17.out.pg rfl).mono ?_
              rintro e w18 ⟨vu, rfl, hu, b18⟩
              simp only [Option.elim_some, Option.isSome_some] at hu ⊢
              obtain ⟨Au, cu, rfl, hcu⟩ := HasC.shape hu
              rw [LK.out] at hu hcu ⊢
              have K18 := Lib.hid (K17.out.below b18)
              have UQ18 := Lib.hid (HasC.sq hu)
              have ZQ18 := Lib.hid ((ZQ17.out.below b18).up b18.size)
              have RZ18 := Lib.hid (show RowAt w18 gz (.slice Az k cz) wrap from (b18.block _ RZ.out.lt).trans RZ.out)
              clear hu b18 K17 ZQ17 RZ
              obtain ⟨gu, hgu⟩ : ∃ gu, w18.heap.size = gu := ⟨_, rfl⟩
              have ba := (Below.refl w18.heap.size w18).alloc (Nat.le_refl _) (.cells #[.slice Au k cu, .bool wrap] 31)
              have RU := Lib.hid (show RowAt (w18.alloc (.cells #[.slice Au k cu, .bool wrap] 31)) gu (.slice Au k cu) wrap by rw [← hgu]; exact heap_alloc_new w18 _)
              have RZ19 := Lib.hid (show RowAt (w18.alloc (.cells #[.slice Au k cu, .bool wrap] 31)) gz (.slice Az k cz) wrap from (ba.block _ RZ18.out.lt).trans RZ18.out)
              have K19 := Lib.hid (K18.out.below ba)
              have ZQ19 := Lib.hid ((ZQ18.out.below ba).up ba.size)
              have UQ19 := Lib.hid ((UQ18.out.below ba).up ba.size)
              have r0 := RZ19.out.get 0
              have r1 := RZ19.out.get 1
              have r2 := K19.out.row.get 0
              have r3 := K19.out.row.get 1
              clear ba K18 ZQ18 UQ18 RZ18
              go_wp2_with fail
              generalize w18.alloc (.cells #[.slice Au k cu, .bool wrap] 31) = w19 at RU RZ19 K19 ZQ19 UQ19 r0 r1 r2 r3 ⊢
              refine (eqRow_walk Az AC k cz k cC wrap wrap L L w19 (by omega) (by omega) ZQ19.out (HasC.sq K19.out.copy)).mono ?_
              rintro e w20 ⟨rfl, b20⟩
              have he : (wrap == wrap && eqL L L) = true := by simp [eqL]
              rw [he]
              have K20 := Lib.hid (K19.out.below b20)
              have UQ20 := Lib.hid ((UQ19.out.below b20).up b20.size)
              have RU20 := Lib.hid (show RowAt w20 gu (.slice Au k cu) wrap from (b20.block _ RU.out.lt).trans RU.out)
              clear b20 K19 UQ19 ZQ19 RU RZ19 r0 r1 r2 r3
              have r0 := RU20.out.get 0
              have r1 := RU20.out.get 1
              have r2 := K20.out.row.get 0
              have r3 := K20.out.row.get 1
              go_wp2_with fail
              refine (eqRow_walk Au AC k cu k cC wrap wrap L L w20 (by omega) (by omega) UQ20.out (HasC.sq K20.out.copy)).mono ?_
              rintro e w21 ⟨rfl, b21⟩
              rw [he]
              have K21 := Lib.hid (K20.out.below b21)
              clear b21 K20 r0 r1 r2 r3
              go_wp2
              go_ret
              exact ⟨rfl, K21.out.old⟩

-- WHAT THE WALK GIVES, FOR EVERY ARGUMENT AND EVERY WORLD THAT HOLDS THE TABLE.
set_option maxRecDepth 100000 in
theorem contract (H : Type) (enc : TypeId × Value → H) (W : World) (base : Nat) (args : Array Value) (ds gs : List (DataW H)) (before : List MemPlace)
    (hval : ∀ (j : Nat) t v, Tryd.f10.params[j]? = some t → args[j]? = some v → Value.okWide Tryd.prog W .any base t v)
    (hW : DataW.Whole enc Tryd.prog Tryd.f10.params.toList Rows.storeOwnSpec.vars false W args.toList ds gs before) (hL : laidMetH Tryd.prog Rows.storeOwnRow.laid W) :
    Calls Tryd.prog 10 args W fun e W' => ∃ v, e = .returned v ∧ Rows.storeOwnSpec.post enc Tryd.prog Tryd.f10 false true false false W args v W' := by
  have hW' := hW
  obtain ⟨p, q, hA0, hV, rfl, hfz, hnd⟩ := hW
  have hA : DataW.TrodAll enc Tryd.prog W 0 (fun _ => true) true Tryd.f10.params.toList args.toList ds p := hA0
  rw [Tryd.params10] at hA hval
  obtain ⟨v0, vs0, d0, ds0, p0, q0, hargs, rfl, rfl, h0, r0⟩ := trodAll_cons hA
  obtain ⟨rfl, rfl, rfl⟩ := trodAll_nil r0
  obtain rfl : args = #[v0] := by cases args; simp_all
  obtain ⟨rfl, rfl⟩ := trodVars_none hV
  obtain ⟨x, rfl, hx⟩ := open_row (hval 0 31 v0 rfl rfl) h0
  clear hA0
  refine (walk x W (spans_of hL) hx).mono fun e W' ⟨he, hg⟩ => ?_
  subst he
  exact ⟨_, rfl, close rfl hW' ⟨rfl, rfl, rfl⟩ (by kernel_rfl) (by kernel_rfl) hg⟩

set_option maxRecDepth 100000 in
theorem laid_met (os : Os) : laidMet Tryd.prog Rows.storeOwnRow.laid ((laidWorld os).forCall (fun _ _ => 0) ⟨#[], #[.agg #[.slice none 0 0, .bool false]], []⟩).memory :=
  laidMet_of_run' 8 (by kernel_rfl) (by kernel_rfl)
set_option maxRecDepth 100000 in
theorem reads (os : Os) {H : Type} (enc : TypeId × Value → H) : ∃ places, DataW.whole enc Tryd.prog ((laidWorld os).forCall (fun _ _ => 0) ⟨#[], #[.agg #[.slice none 0 0, .bool false]], []⟩).memory Tryd.f10.params.toList Rows.storeOwnSpec.vars false (#[.agg #[.slice none 0 0, .bool false]] : Array Value).toList 8 = some ([.agg [.nil, .lit (.bool false)]], [], places) :=
  ⟨[], by kernel_rfl⟩

set_option maxRecDepth 100000 in
theorem lifted (os : Os) (started : os.Started) (H : Type) (enc : TypeId × Value → H) (F : Stop.Interp) :
    ReturnsInHanded {} Tryd.checked os 10 .any ((OpenSpec.ofChange Rows.storeOwnSpec).preRow enc Tryd.prog Tryd.f10 Rows.storeOwnRow.domain false Rows.storeOwnRow.laid) (((OpenSpec.ofChange Rows.storeOwnSpec).at F).post enc Tryd.prog Tryd.f10 false true false false) := by
  obtain ⟨places, hx⟩ := reads os enc
  refine returnsInHanded_of_row (C := Tryd.checked) (s := OpenSpec.ofChange Rows.storeOwnSpec) ownNone started (by kernel_rfl) Tryd.func10
    (witness_row_at (enc := enc) (C := Tryd.checked) false (laidWorld os) #[.agg #[.slice none 0 0, .bool false]] rfl (by kernel_rfl) (by kernel_rfl) (by kernel_rfl)
      (OpenSpec.preRow_of_cond 8 hx (by kernel_rfl) (fun k hk => by cases hk) (by kernel_rfl) (laid_met os))) ?_
  intro W base args ds gs before hval hW _ _ _ hL _ _
  exact contract H enc W base args ds gs before hval hW hL

set_option maxRecDepth 100000 in
theorem said : Rows.StoreOwnSaid :=
  OpenClaim.holds_of_cond 10 Tryd.f10 rfl rfl rfl rfl rfl rfl rfl ⟨rfl, rfl, rfl, rfl, rfl⟩ rfl rfl rfl rfl rfl (by kernel_rfl) Tryd.func10 (by kernel_rfl)
    (of_decide_eq_true (by kernel_rfl)) (by unfold Func.isWrapper; first | (rw [if_pos (by decide +kernel)]; kernel_rfl) | (rw [if_neg (by decide +kernel)]; exact ⟨rfl, rfl⟩))
    (fun os started H enc _ F => by rw [OpenClaim.pre_eq_preRow]; exact lifted os started H enc F)

-- No parameter wants a stand-in; the program's own looks are off: what the card asks.
set_option maxRecDepth 100000 in
theorem plain (f : FuncId) (fn : Func) (hf : Tryd.pinned.checked.prog.funcNamed "rotulus/rotuluslaw4.StoreOwn" = some f) (hfn : Tryd.pinned.checked.prog.funcs[f]? = some fn) :
    false = Tryd.pinned.checked.prog.looks [] ∧ ∀ (j : Nat) t, fn.params[j]? = some t → Tryd.pinned.checked.prog.wantsStandIn t = false := by
  obtain rfl : f = 10 := Option.some.inj ((show Tryd.prog.funcNamed "rotulus/rotuluslaw4.StoreOwn" = some 10 by kernel_rfl).symm.trans hf) |>.symm
  obtain rfl : fn = Tryd.f10 := (Option.some.inj (Tryd.func10.symm.trans hfn)).symm
  refine ⟨by kernel_rfl, fun j t ht => ?_⟩
  rw [Tryd.params10] at ht
  have hm := Array.mem_of_getElem? ht
  simp at hm
  subst hm
  exact (show Tryd.prog.wantsStandIn 31 = false by kernel_rfl)

-- The card.
set_option maxRecDepth 100000 in
theorem card : Rows.StoreOwnCardSaid :=
  Claim7.holds_tied_plain_at .later [] _ _ _ _ said (fun _ h => by cases h) (by kernel_rfl) (fun _ h => by cases h) storeOwn_row_tie rfl ⟨rfl, rfl⟩ (by kernel_rfl) rfl plain (by kernel_rfl)
end Go.Proofs.YtikdlikdknfcfaaDoor.storeOwn
