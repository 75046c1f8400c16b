/-
  The statement StoreAll: a store tells the rows that were added, but those that went beyond its limit: how many there are, how many went, their bytes, each row, all in turn. For every limit and every list of steps (of which the statement looks at the first sixty, and of each row at the first 310 cells); it holds where the table of widths is as its initialiser lays it, which the card ties to the program's text.
-/
import Derived.Test.YtalhlgiklochdaaDoorBegun
import Derived.Test.YtalhlgiklochdaaDoorBegun4
import Derived.Test.YtalhlgiklochdaaDoorAllRows
import Derived.Test.YtalhlgiklochdaaDoorStoreIter
import Derived.Test.YtalhlgiklochdaaDoorStoreSet
import Derived.Test.YtalhlgiklochdaaDoorRefRow
import Derived.Test.YtalhlgiklochdaaDoorRefPut2
import Derived.StillTailTactics
import Derived.Deep.QuietTactic
import Derived.BigQuiet
import Derived.Deep.CutRange
import Derived.Deep.CutBlock
namespace Go.Proofs.YtalhlgiklochdaaDoor.storeAll
open Go.ChangeShapes Go.WideShapes Go.ChangeAt Go.RowKit
attribute [local go_sem] Oper.semAt_some

/-- Between two rounds: the store, and the rows that it should tell. -/
structure SAt (w0 : World) (gs : Nat) (v : Value) (ps : List Pg) (lim gone : Nat) (vw : Value) (xs : List RowIn) (W : World) : Prop where
  ls : Ls w0 vw xs W
  st : StoreAt W gs gs v ps lim gone
  rows : allRows ps = rowsOf xs
  le : xs.length ≤ lim
theorem store_len_row {w : World} {base g : Nat} {v : Value} {ps : List Pg} {lim many bytes gone : Int} (h : StR w base g v ps lim many bytes gone) {r : PRow} (hr : r ∈ allRows ps) : (putL r.1 r.2).length ≤ 12010 := by
  unfold allRows at hr
  obtain ⟨l, hl, hr⟩ := List.mem_flatten.1 hr
  obtain ⟨p, hp, rfl⟩ := List.mem_map.1 hl
  exact PageAt.len_row (h.page p hp) r hr
theorem bytesN_le : ∀ (rows : List PRow), (∀ r ∈ rows, (putL r.1 r.2).length ≤ 12010) → bytesN rows ≤ 12010 * rows.length
  | [], _ => by simp [bytesN]
  | r :: rows, h => by
    have ih := bytesN_le rows (fun y hy => h y (List.mem_cons_of_mem _ hy))
    have := h r (List.mem_cons_self ..)
    unfold bytesN at ih ⊢
    rw [List.map_cons, List.sum_cons, List.length_cons]
    omega
theorem RwAt.lower {w : World} {base base' : Nat} {v : Value} {n : Nat} {xs : List Value} (h : RwAt w base v n xs) (hb : base' ≤ base) : RwAt w base' v n xs := by
  refine ⟨h.1, ?_⟩
  rcases h.2 with e | ⟨b, off, cap, cur, e, h2, r⟩
  · exact .inl e
  · exact .inr ⟨b, off, cap, cur, e, Nat.le_trans hb h2, r⟩
set_option maxRecDepth 100000 in
set_option maxHeartbeats 12800000 in
theorem walk (y : Int) (_ : -9223372036854775808 ≤ y ∧ y ≤ 9223372036854775807) (A : Option Addr) (n c : Nat) (l : List OpIn) (_ : n ≤ c) (_ : c ≤ maxLen) (w : World) (hs : Spans w) (hr : ∀ r ∈ l, r.Ok w w.heap.size) (hq : Sq w w.heap.size 4 n A (l.flatMap OpIn.vals)) :
    Calls Tryd.prog 8 #[.int .i64 y, .slice A n c] w fun e w' => e = .returned (.bool true) ∧ Below w.heap.size w w' := by
  obtain ⟨j0, hj0, jz0, jz1, jz2⟩ := info_parts infoRow
  have S := Lib.hid hs
  have Q := Lib.hid hq
  have RS := Lib.hid hr
  have hln : l.length = n := by have := hq.len; rw [flatMap_len OpIn.vals 4 (fun _ => rfl)] at this; omega
  have LN := Lib.hid hln
  clear hs hq hr hln
  go_enter Tryd.func8, Tryd.ntmps8
  go_wp2_with fail
  refine (begun4_walk w S.out).mono ?_
  rintro e w1 ⟨rfl, b1⟩
  have B1 := Lib.hid b1
  clear b1
  go_wp2_with fail
  refine (storeNew_walk y w1).mono ?_
  rintro e w2 ⟨rfl, st2, b2, z2⟩
  obtain ⟨gs, hgs⟩ : ∃ gs, w1.heap.size = gs := ⟨_, rfl⟩
  rw [hgs] at st2 ⊢
  have GW := Lib.hid (show w.heap.size ≤ gs by rw [← hgs]; exact B1.out.size)
  have B2 := Lib.hid (B1.out.trans (b2.mono B1.out.size))
  have ST2 := Lib.hid st2
  clear st2 b2 z2 hgs B1
  have E2 := Lib.hid (show SAt w gs (.slice none 0 0) [] (clampN y) 0 (.slice none 0 0) [] w2 from ⟨⟨B2.out, RwAt.nothing w2 _, fun x h => by cases h⟩, ST2.out, rfl, Nat.zero_le _⟩)
  go_upto_block 0 with fail
  go_cut [7, 8, 9, 10] from 27 to 91 (fun s7 s8 _ _ wx => ∃ (lim gone : Nat) (v : Value) (ps : List Pg) (xs : List RowIn), xs.length ≤ 60 ∧ lim ≤ 1000000 ∧ Hid (SAt w gs v ps lim gone s8 xs wx))
  case first =>
    go_wp2_with fail
    go_loopw [7, 8, 9, 10] (fun m vw g i wr => ∃ (k lim gone : Nat) (v : Value) (ps : List Pg) (xs : List RowIn), m = .int .i64 lim ∧ g = .int .i64 gone ∧ i = .int .i64 k ∧ k ≤ n ∧ k ≤ 60 ∧ lim ≤ 1000000 ∧ xs.length + gone ≤ k ∧ Hid (SAt w gs v ps lim gone vw xs wr)) (fun _ _ _ i _ => n - (intOf i).toNat)
    case atStart => exact ⟨0, clampN y, 0, _, [], [], by simp only [clampN]; congr 1; omega, rfl, rfl, Nat.zero_le _, Nat.zero_le _, by unfold clampN; omega, Nat.le_refl _, E2⟩
    case round =>
      obtain ⟨k, lim, gone, v, ps, xs, rfl, rfl, rfl, hk, hk60, hlim, hxg, E⟩ := hrel
      clear E2
      by_cases hlt : k < n ∧ k < 60
      · obtain ⟨h1, h2⟩ := hlt
        obtain ⟨o, ho⟩ : ∃ o, l[k]? = some o := ⟨_, List.getElem?_eq_getElem (by rw [LN.out]; exact h1)⟩
        obtain ⟨b, off, rfl, hb, q0, q1, q2, q3⟩ := op_at (Q.out.below E.out.ls.old) ho h1
        have ok := RS.out o (List.mem_of_getElem? ho)
        have OK := Lib.hid ok
        have km := ok.k
        have mm := ok.m
        clear ho ok
        obtain ⟨ok, om, rA, rn, rc, rw_, rl⟩ := o
        simp only at q0 q1 q2 q3 km mm
        go_upto_if 43 with fail
        have b2 := (Below.refl wr.heap.size wr).alloc (Nat.le_refl _) (.cells #[.int .i64 ok, .int .i64 om, .slice rA rn rc, .bool rw_] 60)
        have hn0 : (allRows ps).length = xs.length := by rw [E.out.rows]; simp [rowsOf]
        have hle := E.out.le
        have RW := Lib.hid E.out.rows
        have E3 := Lib.hid (And.intro (E.out.ls.laid b2) (E.out.st.below b2))
        have OW := Lib.hid (fun j (m : Owns gs v ps j) => (E.out.st.raw.own_ge j m).2)
        have BX := Lib.hid (heap_alloc_new wr (.cells #[.int .i64 ok, .int .i64 om, .slice rA rn rc, .bool rw_] 60))
        obtain ⟨g11, hg11⟩ : ∃ g, wr.heap.size = g := ⟨_, rfl⟩
        rw [hg11] at OW BX ⊢
        clear b2 q0 q1 q2 q3
        generalize wr.alloc (.cells #[.int .i64 ok, .int .i64 om, .slice rA rn rc, .bool rw_] 60) = w3 at E3 BX ⊢
        go_cut [7, 8, 12] from 27 to 91 (fun s7 s8 _ wx => ∃ (lim' : Nat) (v' : Value) (ps' : List Pg) (xs' : List RowIn), s7 = .int .i64 lim' ∧ lim' ≤ 1000000 ∧ xs'.length + gone ≤ k + 1 ∧ Hid (Ls w s8 xs' wx) ∧ Hid (StoreAt wx gs gs v' ps' lim' (gone + (xs'.length - lim')) ∧ allRows ps' = (rowsOf xs').drop (xs'.length - lim')))
        case first =>
          have q0 : w3.cell? ⟨g11, 0, none⟩ = some (.int .i64 ok) := by rw [cell_of_row _ _ _ _ _ (0, 0) BX.out]; rfl
          have q1 : w3.cell? ⟨g11, 1, none⟩ = some (.int .i64 om) := by rw [cell_of_row _ _ _ _ _ (0, 0) BX.out]; rfl
          have q2 : w3.cell? ⟨g11, 2, none⟩ = some (.slice rA rn rc) := by rw [cell_of_row _ _ _ _ _ (0, 0) BX.out]; rfl
          have q3 : w3.cell? ⟨g11, 3, none⟩ = some (.bool rw_) := by rw [cell_of_row _ _ _ _ _ (0, 0) BX.out]; rfl
          by_cases hkd : ok = 1
          · subst hkd
            go_wp2_with fail
            refine (storeSetLimit_walk om E3.out.2 (by rw [hn0]; omega) (by omega)).mono ?_
            rintro e w4 ⟨⟨_, rfl⟩, hp⟩
            obtain ⟨v', ps', st4, rows4, t4, _⟩ := hp.out
            have L4 := Lib.hid (E3.out.1.store E3.out.2 GW.out t4)
            have bx4 := (t4.block g11 (Array.getElem?_eq_some_iff.1 BX.out).1 (fun m => by have := OW.out _ m; omega)).trans BX.out
            clear q0 q1 q2 q3
            have q0 : w4.cell? ⟨g11, 1, none⟩ = some (.int .i64 om) := by rw [cell_of_row _ _ _ _ _ (0, 0) bx4]; rfl
            have S4 := Lib.hid (And.intro st4 rows4)
            clear t4 E3 bx4 st4 rows4
            go_wp2_with fail
            go_meet
            refine ⟨clampN om, v', ps', xs, ?_, ?_, by omega, L4, Lib.hid ?_⟩
            · simp only [clampN]
              congr 1
              omega
            · unfold clampN; omega
            · have h := S4.out
              rw [hn0, RW.out] at h
              exact h
          · have hkb : (ok == 1) = false := by simp; omega
            go_wp2_with fail
            have okl := OK.out.row.le
            have okc := OK.out.row.cap
            have OQ := Lib.hid (OK.out.row.sq)
            simp only at okl okc OQ
            refine (lawRow_walk rA rn rc rw_ rl w3 ((OQ.out.below E3.out.1.old).up E3.out.1.old.size) okl okc).mono ?_
            rintro e w4 ⟨v4, rfl, hv, b4⟩
            obtain ⟨L, hL⟩ : ∃ L, cut310 rl = L := ⟨_, rfl⟩
            have L310 : L.length ≤ 310 := by rw [← hL]; exact cut310_len rl
            have SL : Hid (∀ c ∈ L, -2147483648 ≤ c.1 ∧ c.1 ≤ 2147483647) := Lib.hid (fun c h => OK.out.row.signs c (List.mem_of_mem_take (by rw [← hL] at h; exact h)))
            rw [hL] at hv
            obtain ⟨A4, c4, rfl, hc4⟩ := HasC.shape hv
            have V4 := Lib.hid hv
            have E4 := Lib.hid (And.intro (E3.out.1.laid b4) (E3.out.2.below b4))
            clear hv b4 q0 q1 q2 q3
            go_upto_region 16 with fail
            have b5 := (Below.refl w4.heap.size w4).alloc (Nat.le_refl _) (.cells #[.slice A4 L.length c4, .bool rw_] 31)
            have E5 := Lib.hid (And.intro (E4.out.1.laid b5) (E4.out.2.below b5))
            have V5 := Lib.hid (HasC.mono (HasC.keep (w' := w4.alloc (.cells #[.slice A4 L.length c4, .bool rw_] 31)) V4.out (fun j e => Below.heap_alloc _ _ _ (HasC.lt V4.out j e).2)) (Nat.zero_le _))
            have OW5 := Lib.hid (fun j (m : Owns gs v ps j) => (E4.out.2.raw.own_ge j m).2)
            have R5 := Lib.hid (show RowAt (w4.alloc (.cells #[.slice A4 L.length c4, .bool rw_] 31)) w4.heap.size (.slice A4 L.length c4) rw_ from heap_alloc_new w4 _)
            obtain ⟨g12, hg12⟩ : ∃ g, w4.heap.size = g := ⟨_, rfl⟩
            rw [hg12] at OW5 R5 ⊢
            clear b5 V4 E4
            generalize w4.alloc (.cells #[.slice A4 L.length c4, .bool rw_] 31) = w5 at E5 V5 R5 ⊢
            go_cut [60] from 27 to 91 (fun s60 wx => ∃ (v' : Value) (ps' : List Pg), s60 = .bool false ∧ Hid (StoreAt wx gs gs v' ps' lim (gone + addG lim (rowsOf xs) (rw_, L)) ∧ allRows ps' = addR lim (rowsOf xs) (rw_, L)) ∧ Hid (Ls w u8 xs wx) ∧ Hid (HasC wx 0 (.slice A4 L.length c4) L) ∧ Hid (RowAt wx g12 (.slice A4 L.length c4) rw_))
            case first =>
              have r0 := R5.out.get 0
              have r1 := R5.out.get 1
              have AW := Lib.hid (fun (w' : World) (h : Below w5.heap.size w5 w') => storeAdd_walk A4 L.length c4 rw_ L w' (S.out.below (E5.out.1.laid h).old S.out.size) (E5.out.2.below h) SL.out (((HasC.sq V5.out).below h).up h.size) hc4 (by omega) (by rw [hn0]; omega) (by omega))
              go_region_with (first | (go_at_call 41; refine (AW.out _ ((Below.refl _ _).drew)).mono ?_; rintro e w6 ⟨v6, ps6, rfl, st6, rows6, t6, _⟩; (have LS6 := Lib.hid ((E5.out.1.laid (Below.refl _ _).drew).store (E5.out.2.below (Below.refl _ _).drew) GW.out t6)); (have V6 := Lib.hid (Ls.hasC_turned (HasC.keep (w' := w5.drew) V5.out (fun _ _ => rfl)) t6 (fun j m => (owns_else (E5.out.2.below (Below.refl _ _).drew) m).2.2))); (have R6 := Lib.hid (show RowAt w6 g12 (.slice A4 L.length c4) rw_ from (t6.block g12 R5.out.lt (fun m => by have := OW5.out _ m; omega)).trans R5.out)); (have r6 := R6.out.get 0); (have r7 := R6.out.get 1); (have S6 := Lib.hid (And.intro st6 rows6)); clear st6 rows6 t6 AW) | (go_at_call 27; refine (refRow_walk A4 L.length c4 rw_ L _ SL.out (HasC.sq V6.out) (by omega)).mono ?_; rintro e w7 ⟨rfl, b7⟩))
              all_goals
                go_wp2_with fail
                go_meet
                exact ⟨v6, ps6, by simp, Lib.hid ⟨by have h := S6.out.1.below b7; rw [RW.out] at h; exact h, by have h := S6.out.2; rw [RW.out] at h; exact h⟩, Lib.hid (LS6.out.laid b7), Lib.hid (HasC.keep (w' := w7) V6.out (fun j e => b7.block j (HasC.lt V6.out j e).2)), Lib.hid ((b7.block _ R6.out.lt).trans R6.out)⟩
            case rest =>
              obtain ⟨v6, ps6, rfl, ST6, LS6, V6, R6⟩ := hcut
              have r0 := R6.out.get 0
              have r1 := R6.out.get 1
              go_wp2_with fail
              refine (refRow_walk A4 L.length c4 rw_ L wc SL.out (HasC.sq V6.out) (by omega)).mono ?_
              rintro e w7 ⟨rfl, b7⟩
              have R7 := Lib.hid (show RowAt w7 g12 (.slice A4 L.length c4) rw_ from (b7.block _ R6.out.lt).trans R6.out)
              have LS7 := Lib.hid (LS6.out.laid b7)
              have V7 := Lib.hid (HasC.keep (w' := w7) V6.out (fun j e => b7.block j (HasC.lt V6.out j e).2))
              have ST7 := Lib.hid (And.intro (ST6.out.1.below b7) ST6.out.2)
              clear b7 r0 r1 ST6 LS6 V6 R6 E3 E5 V5 R5 OW5
              obtain ⟨bb, hbb⟩ : ∃ bb, mayL L = bb := ⟨_, rfl⟩
              have HB := Lib.hid hbb
              rw [hbb]
              clear hbb
              cases bb
              · go_wp2_with fail
                go_meet
                refine ⟨lim, v6, ps6, xs, rfl, hlim, by omega, LS7, Lib.hid ?_⟩
                have h := ST7.out
                simp only [addG, addR, HB.out, Bool.false_eq_true, if_false] at h
                have h0 : xs.length - lim = 0 := by omega
                rw [h0, List.drop_zero]
                exact h
              · obtain ⟨A8, c8, rfl, hc8⟩ := RwAt.shape LS7.out.own
                obtain ⟨q, hqx⟩ : ∃ q, xs.length = q := ⟨_, rfl⟩
                have XL := Lib.hid hqx
                rw [hqx] at hc8 LS7 hxg ⊢
                clear hqx
                have r0 := R7.out.get 0
                have r1 := R7.out.get 1
                have b8 := (Below.refl w7.heap.size w7).alloc (Nat.le_refl _) (.cells #[.slice A4 L.length c4, .bool rw_] 31)
                have LS8 := Lib.hid (LS7.out.laid b8)
                have ST8 := Lib.hid (And.intro (ST7.out.1.below b8) ST7.out.2)
                have V8 := Lib.hid (HasC.keep (w' := w7.alloc (.cells #[.slice A4 L.length c4, .bool rw_] 31)) V7.out (fun j e => Below.heap_alloc _ _ _ (HasC.lt V7.out j e).2))
                have N8 := Lib.hid (show ∀ j x, [Value.slice A4 L.length c4, .bool rw_][j]? = some x → (w7.alloc (.cells #[.slice A4 L.length c4, .bool rw_] 31)).cell? ((⟨w7.heap.size, 0, none⟩ : Addr).add j) = some x from fun j x hx => by
                  rw [add_at', cell_of_row _ w7.heap.size _ _ _ (0, 0) (heap_alloc_new w7 _)]
                  simpa using hx)
                clear b8
                go_wp2_with (
                  at_builtin
                  refine wpl_rwAt rfl (.tmp 63) (.tmp 65) 47 rfl w.heap.size j0 (.agg #[.slice none 0 0, .bool false]) Tryd.underlying47 hj0 jz0 jz1 jz2 rfl (.slice A8 q c8) q (xs.flatMap RowIn.vals) rfl (by have h := LS8.out.own; rw [XL.out] at h; exact h) ⟨w7.heap.size, 0, none⟩ 1 (.slice A4 L.length c4) (.bool rw_) rfl N8.out (by intro x hx; simp at hx; rcases hx with rfl | rfl <;> rfl) (by unfold maxLen; omega) (by omega) LS8.out.old.size ?_
                  intro v9 w9 h9 g9 _
                  have LSn := Lib.hid (LS8.out.snoc (x := ⟨A4, L.length, c4, rw_, L⟩) g9 (by rw [XL.out]; exact h9) V8.out SL.out HB.out)
                  have STn := Lib.hid (And.intro (store_rows ST8.out.1 LS8.out.own g9) ST8.out.2)
                  obtain ⟨A9, c9, rfl, _⟩ := RwAt.shape h9
                  clear h9 g9 r0 r1 R7 LS7 V7 ST7 LS8 ST8 V8 N8)
                go_meet
                refine ⟨lim, v6, ps6, xs ++ [⟨A4, L.length, c4, rw_, L⟩], rfl, hlim, by rw [List.length_append, XL.out]; simp; omega, LSn, Lib.hid ?_⟩
                have h := STn.out
                have hl : (rowsOf xs).length = q := by unfold rowsOf; rw [List.length_map]; exact XL.out
                simp only [addG, addR, HB.out, if_true, hl] at h
                rw [List.length_append, XL.out, List.length_singleton]
                unfold rowsOf at h ⊢
                rw [List.map_append]
                exact h
        case rest =>
          obtain ⟨lim', v', ps', xs', rfl, hl6, hx6, LS, ST⟩ := hcut
          clear E3 E BX OW RW hn0 hle
          go_wp2_with fail
          go_loopw [8, 9] (fun v8 g wr => ∃ j : Nat, g = .int .i64 ((gone + j : Nat) : Int) ∧ j ≤ xs'.length - lim' ∧ Hid (Ls w v8 (xs'.drop j) wr) ∧ Hid (StoreAt wr gs gs v' ps' lim' (gone + (xs'.length - lim')))) (fun _ g _ => xs'.length + gone + 1 - (intOf g).toNat)
          case atStart => exact ⟨0, rfl, Nat.zero_le _, LS, Lib.hid ST.out.1⟩
          case round =>
            obtain ⟨j, rfl, hj, LSj, STj⟩ := hrel
            have AR := Lib.hid ST.out.2
            clear LS ST
            obtain ⟨A8, c8, rfl, hc8⟩ := RwAt.shape LSj.out.own
            obtain ⟨q, hq⟩ : ∃ q, (xs'.drop j).length = q := ⟨_, rfl⟩
            have hqj : q = xs'.length - j := by rw [← hq, List.length_drop]
            rw [hq] at hc8 LSj ⊢
            by_cases hlt : lim' < q
            · obtain ⟨x, hx⟩ : ∃ x, xs'[j]? = some x := ⟨_, List.getElem?_eq_getElem (by omega)⟩
              have hd : xs'.drop j = x :: xs'.drop (j + 1) := by
                obtain ⟨h1, h2⟩ := List.getElem?_eq_some_iff.1 hx
                rw [List.drop_eq_getElem_cons h1, h2]
              have hd1 : (xs'.drop (j + 1)).length = q - 1 := by rw [List.length_drop]; omega
              have hg1 : IntKind.i64.wrap (((gone + j : Nat) : Int) + 1) = ((gone + (j + 1) : Nat) : Int) := by rw [IntWalk.i64_in _ (by omega)]; omega
              have EACH := Lib.hid (fun y (h : y ∈ xs'.drop (j + 1)) => LSj.out.each y (by rw [hd]; exact List.mem_cons_of_mem _ h))
              obtain ⟨b8, o8, e8⟩ : ∃ b o, A8 = some ⟨b, o, none⟩ := by
                rcases LSj.out.own.2 with ⟨_, h0⟩ | ⟨b, off, cap, cur, e, _⟩
                · rw [hq] at h0; omega
                · injection e with e _ _; exact ⟨b, off, e⟩
              subst e8
              have HD := Lib.hid hd
              have HD1 := Lib.hid hd1
              have JL := Lib.hid (show j + 1 ≤ xs'.length - lim' by omega)
              have JM := Lib.hid (show xs'.length + gone + 1 - (gone + j + 1) < xs'.length + gone + 1 - (gone + j) by omega)
              have hgj : gone + j ≤ 61 := by omega
              clear hx hd hd1 hqj
              by_cases hc1 : c8 = 1
              · obtain rfl : q = 1 := by omega
                subst hc1
                have LSn := Lib.hid (show Ls w (.slice (some ⟨b8, o8, none⟩) 0 0) (xs'.drop (j + 1)) wr from ⟨LSj.out.old, by rw [HD1.out, List.eq_nil_of_length_eq_zero (show (xs'.drop (j + 1)).length = 0 by rw [HD1.out])]; have h := LSj.out.own; rw [hq] at h; exact RwAt.none_left h, EACH.out⟩)
                go_wp2_with fail
                go_roundw
                case rel => exact ⟨j + 1, by first | rfl | (congr 1; done) | (congr 1; omega), JL.out, LSn, STj⟩
                case measure =>
                  have := JM.out
                  first | (simp [intOf]; done) | (simp [intOf]; omega)
              · have LSn := Lib.hid (show Ls w (.slice (some ⟨b8, o8 + 1 * 2, none⟩) (q - 1) (c8 - 1)) (xs'.drop (j + 1)) wr from by have h := LSj.out; rw [HD.out] at h; exact h.tail (by rw [HD1.out]; omega))
                go_wp2_with fail
                go_roundw
                case rel => exact ⟨j + 1, by first | rfl | (congr 1; done) | (congr 1; omega), JL.out, LSn, STj⟩
                case measure =>
                  have := JM.out
                  first | (simp [intOf]; done) | (simp [intOf]; omega)
            · have hjd : j = xs'.length - lim' := by omega
              have hqe : q ≤ 61 := by omega
              have hge : gone + j ≤ k + 1 := by omega
              have RL := Lib.hid (show (allRows ps').length = q by rw [AR.out, List.length_drop]; unfold rowsOf; rw [List.length_map]; omega)
              rw [← hjd] at STj
              have LW := Lib.hid (storeLen_walk STj.out.raw)
              have MW := Lib.hid (storeLimit_walk STj.out.raw)
              have GW2 := Lib.hid (storeGone_walk STj.out.raw)
              rw [RL.out] at LW
              have EN := Lib.hid (show SAt w gs v' ps' lim' (gone + j) (.slice A8 q c8) (xs'.drop j) wr from ⟨LSj.out, STj.out, by rw [AR.out, ← hjd]; unfold rowsOf; rw [List.map_drop], by rw [hq]; omega⟩)
              have QN := Lib.hid (show (xs'.drop j).length + (gone + j) ≤ k + 1 by omega)
              clear hq AR LSj STj hjd hqj hj
              go_wp2_with fail
              refine LW.out.mono ?_
              rintro e wl ⟨rfl, rfl⟩
              clear LW
              go_wp2_with fail
              refine MW.out.mono ?_
              rintro e wl ⟨rfl, rfl⟩
              clear MW
              go_wp2_with fail
              refine GW2.out.mono ?_
              rintro e wl ⟨rfl, rfl⟩
              clear GW2
              go_wp2
              go_roundw
              case rel => exact ⟨k + 1, lim', gone + j, v', ps', xs'.drop j, rfl, by first | rfl | (congr 1; done) | (congr 1; omega), by first | rfl | (congr 1; done) | (congr 1; omega), by omega, by omega, hl6, QN.out, EN⟩
              case measure => first | (simp [intOf]; done) | (simp [intOf]; omega)
      · have hex : (k < n ∧ 60 ≤ k) ∨ n ≤ k := by omega
        rcases hex with ⟨h1, h2⟩ | h1
        all_goals
          go_wp2_with fail
          go_meet
          exact ⟨lim, gone, v, ps, xs, by omega, hlim, E⟩
  case rest =>
    obtain ⟨lim, gone, v, ps, xs, hx60, hlim, E⟩ := hcut
    clear E2
    obtain ⟨A9, c9, rfl, hc9⟩ := RwAt.shape E.out.ls.own
    obtain ⟨q2, hq2⟩ : ∃ q2, xs.length = q2 := ⟨_, rfl⟩
    have XLn := Lib.hid hq2
    have LSn := Lib.hid E.out.ls
    have STn := Lib.hid E.out.st
    have RW := Lib.hid E.out.rows
    rw [hq2] at hc9 hx60 LSn ⊢
    clear hq2 E
    have RLQ := Lib.hid (show (allRows ps).length = q2 by rw [RW.out]; unfold rowsOf; rw [List.length_map]; exact XLn.out)
    have LR := Lib.hid (fun r (h : r ∈ allRows ps) => store_len_row STn.out.raw h)
    go_wp2_with fail
    go_loopw [13, 14] (fun bt i wx => ∃ j : Nat, bt = .int .i64 (bytesN ((allRows ps).take (j - 1)) : Nat) ∧ i = .int .i64 ((j : Int) - 1) ∧ j ≤ q2 + 2 ∧ Hid (Below wc.heap.size wc wx)) (fun _ i _ => q2 + 2 - (intOf i + 1).toNat)
    case atStart => exact ⟨0, by simp [bytesN], by simp, Nat.zero_le _, Lib.hid (Below.refl _ _)⟩
    case round =>
      obtain ⟨j, rfl, rfl, hj, BX⟩ := hrel
      have LSX := Lib.hid (LSn.out.laid BX.out)
      have STX := Lib.hid (STn.out.below BX.out)
      have SPX := Lib.hid (S.out.below LSX.out.old S.out.size)
      have hbn := bytesN_le ((allRows ps).take (j - 1)) (fun r h => LR.out r (List.mem_of_mem_take h))
      have hbn2 : ((allRows ps).take (j - 1)).length ≤ 60 := by rw [List.length_take]; have := RLQ.out; omega
      obtain ⟨bn, hbne⟩ : ∃ bn, bytesN ((allRows ps).take (j - 1)) = bn := ⟨_, rfl⟩
      have BN := Lib.hid hbne
      rw [hbne] at hbn ⊢
      have hbn3 : bn ≤ 800000 := by omega
      clear hbne hbn hbn2
      by_cases hj0 : j = 0
      · subst hj0
        rw [show ((0 : Nat) : Int) - 1 = -1 by rfl]
        go_wp2_with fail
        refine (storeAt_none (-1) STX.out.raw (.inl (by omega))).mono ?_
        rintro e wa ⟨va, rfl, ha, ba⟩
        simp only [Option.elim_none, Option.isSome_none] at ha ⊢
        obtain ⟨Aa, ca, rfl, _⟩ := HasC.shape ha
        have b2 := ba.alloc ba.size (.cells #[.slice Aa ([] : List Cel).length ca, .bool false] 31)
        obtain ⟨g15, hg15⟩ : ∃ g15, wa.heap.size = g15 := ⟨_, rfl⟩
        have R15 := Lib.hid (show RowAt (wa.alloc (.cells #[.slice Aa ([] : List Cel).length ca, .bool false] 31)) g15 (.slice Aa ([] : List Cel).length ca) false by rw [← hg15]; exact heap_alloc_new wa _)
        have BX2 := Lib.hid (BX.out.trans (b2.mono BX.out.size))
        clear ha ba b2 BX STX LSX SPX
        go_wp2_with fail
        simp only [List.length_nil] at R15 BX2 ⊢
        generalize wa.alloc (.cells #[.slice Aa 0 ca, .bool false] 31) = wb at R15 BX2 ⊢
        have r0 := R15.out.get 0
        have r1 := R15.out.get 1
        go_quiet (fail)
        have BX3 := Lib.hid (Below.drewN BX2.out nq)
        clear r0 r1 R15 BX2
        go_wp2
        go_roundw
        case rel => exact ⟨1, by rw [← BN.out], by first | rfl | simp, by omega, BX3⟩
        case measure => first | (simp [intOf]; done) | (simp [intOf]; omega)
      by_cases hjq : j ≤ q2
      · obtain ⟨i, rfl⟩ : ∃ i, j = i + 1 := ⟨j - 1, by omega⟩
        rw [show ((i + 1 : Nat) : Int) - 1 = (i : Int) by omega]
        rw [Nat.add_sub_cancel] at BN
        have hiq : i < q2 := by omega
        obtain ⟨x, hx⟩ : ∃ x, xs[i]? = some x := ⟨_, List.getElem?_eq_getElem (by rw [XLn.out]; exact hiq)⟩
        have hrow : (allRows ps)[i]? = some (x.wrap, x.l) := by rw [RW.out]; unfold rowsOf; rw [List.getElem?_map, hx]; rfl
        obtain ⟨xo, xsig, xm⟩ := LSX.out.each x (List.mem_of_getElem? hx)
        have h7 : RwAt wr w.heap.size (.slice A9 q2 c9) q2 (xs.flatMap RowIn.vals) := by
          have h := LSX.out.own
          rw [XLn.out] at h
          exact h
        obtain ⟨g', off7', cx', ev, _, _, hgl, y0⟩ := RwAt.cell h7 (j := i * 2 + 0) (flatMap_get RowIn.vals 2 (fun _ => rfl) xs i x hx 0 _ rfl)
        obtain ⟨g2', off2', cx2', ev', _, _, _, y1⟩ := RwAt.cell h7 (j := i * 2 + 1) (flatMap_get RowIn.vals 2 (fun _ => rfl) xs i x hx 1 _ rfl)
        injection ev with e1 e2 e3
        injection ev' with e4 e5 e6
        subst e1
        injection e4 with e4
        injection e4 with e7 e8 _
        subst e7 e8
        have hgl : g' < wr.heap.size := World.block_lt_of_cell? wr _ y0
        clear e2 e3 e5 e6 h7
        have NX := Lib.hid (bytesN_next hrow)
        have lrow := LR.out (x.wrap, x.l) (List.mem_of_getElem? hrow)
        obtain ⟨xA, xn, xc, xw, xl⟩ := x
        simp only at xo xsig xm y0 y1 hrow NX lrow
        have hxn : xl.length = xn := by
          obtain ⟨A0, c0, e, _⟩ := HasC.shape xo
          injection e with _ e _
          exact e.symm
        have hx3 : xn ≤ 310 := by
          obtain ⟨p1, _⟩ := mayL_small (fun c hc => (xsig c hc).2) xm
          omega
        have XQ := Lib.hid (HasC.sq xo)
        have Y0 := Lib.hid (And.intro y0 y1)
        have XSG := Lib.hid xsig
        have XM := Lib.hid xm
        clear xo xsig xm y0 y1 hx
        go_wp2_with fail
        refine (storeAt_some i (xw, xl) SPX.out STX.out (by rw [RLQ.out]; omega) hrow).mono ?_
        rintro e wa ⟨va, rfl, ha, ba⟩
        simp only [Option.elim_some, Option.isSome_some] at ha ⊢
        obtain ⟨Aa, ca, rfl, hca⟩ := HasC.shape ha
        rw [hxn] at ha hca ⊢
        have VQ := Lib.hid (HasC.sq ha)
        have b2 := ba.alloc ba.size (.cells #[.slice Aa xn ca, .bool xw] 31)
        have b3 := (Below.refl wa.heap.size wa).alloc (Nat.le_refl _) (.cells #[.slice Aa xn ca, .bool xw] 31)
        obtain ⟨g15, hg15⟩ : ∃ g15, wa.heap.size = g15 := ⟨_, rfl⟩
        have R15 := Lib.hid (show RowAt (wa.alloc (.cells #[.slice Aa xn ca, .bool xw] 31)) g15 (.slice Aa xn ca) xw by rw [← hg15]; exact heap_alloc_new wa _)
        have BXr := Lib.hid b2
        have VQ2 := Lib.hid ((VQ.out.below b3).up b3.size)
        clear ha ba b2 b3 VQ hrow
        go_wp2_with fail
        generalize wa.alloc (.cells #[.slice Aa xn ca, .bool xw] 31) = wb at R15 BXr VQ2 ⊢
        have R16 := Lib.hid (show RowAt wb.drew g15 (.slice Aa xn ca) xw from R15.out)
        have BX3 := Lib.hid BXr.out.drew
        have VQ3 := Lib.hid (show Sq wb.drew wb.drew.heap.size 3 xn Aa (flat xl) from VQ2.out.below (Below.refl wb.heap.size wb).drew)
        refine wp_region_still_tail 18 (by kernel_rfl) (by kernel_rfl) ?_
        rw [show ({ wb with drawn := wb.drawn + 1 } : World) = wb.drew from rfl]
        generalize wb.drew = wd at R16 BX3 VQ3 ⊢
        clear R15 BXr VQ2
        have r0 := R16.out.get 0
        have r1 := R16.out.get 1
        have y0 := (BX3.out.cell (p := ⟨g', off7' + (i * 2 + 0), none⟩) hgl).trans Y0.out.1
        have y1 := (BX3.out.cell (p := ⟨g', off7' + (i * 2 + 1), none⟩) hgl).trans Y0.out.2
        rw [Nat.add_zero] at y0
        rw [← Nat.add_assoc] at y1
        have hi0 : (0 : Int) ≤ (i : Int) := by omega
        have hiq2 : (i : Int) < (q2 : Int) := by omega
        have hd1 : decide (i < q2) = true := by simp; omega
        have hd2 : decide (q2 ≤ i) = false := by simp; omega
        have hd3 : ¬ (q2 ≤ i) := by omega
        have hd4 : decide ((i : Int) < (q2 : Int)) = true := by simp; omega
        simp only [List.take_succ_cons, List.take_zero, List.drop_succ_cons, List.drop_zero]
        repeat still_step
        refine wpStill_nil ?_
        go_wp2_with fail
        refine (eqRow_walk Aa xA xn ca xn xc xw xw xl xl wd (by omega) (by omega) VQ3.out ((XQ.out.below BX3.out).up BX3.out.size)).mono ?_
        rintro e we ⟨rfl, be⟩
        rw [show (xw == xw && eqL xl xl) = true by simp [eqL]]
        have BX4 := Lib.hid (BX3.out.trans (be.mono BX3.out.size))
        clear r0 r1 y0 y1 VQ3 BX3 R16 be
        have y0 := (BX4.out.cell (p := ⟨g', off7' + (i * 2 + 0), none⟩) hgl).trans Y0.out.1
        have y1 := (BX4.out.cell (p := ⟨g', off7' + (i * 2 + 1), none⟩) hgl).trans Y0.out.2
        rw [Nat.add_zero] at y0
        rw [← Nat.add_assoc] at y1
        go_wp2_with fail
        refine (refPutRow_walk xA xn xc xw xl we XSG.out ((XQ.out.below BX4.out).up BX4.out.size) (by omega)).mono ?_
        rintro e wf ⟨vf, rfl, hf, bf⟩
        obtain ⟨Af, cf, rfl⟩ := HasB.shape hf
        rw [show putV xw xl = putL xw xl by unfold putV; rw [if_pos XM.out]]
        have BX5 := Lib.hid (BX.out.trans ((BX4.out.trans (bf.mono BX4.out.size)).mono BX.out.size))
        obtain ⟨pn, hpn⟩ : ∃ pn, (putL xw xl).length = pn := ⟨_, rfl⟩
        have NX2 := Lib.hid (show bytesN ((allRows ps).take (i + 1)) = bn + pn by rw [NX.out, BN.out, hpn])
        have hpn2 : pn ≤ 12010 := by rw [← hpn]; exact lrow
        rw [hpn]
        clear hf bf y0 y1 BX4 hpn
        go_wp2
        go_roundw
        case rel => exact ⟨i + 2, by rw [show i + 2 - 1 = i + 1 by omega, NX2.out]; go_num, by go_num, by omega, BX5⟩
        case measure => first | (simp [intOf]; done) | (simp [intOf]; omega)
      by_cases hjq1 : j = q2 + 1
      · subst hjq1
        rw [show ((q2 + 1 : Nat) : Int) - 1 = (q2 : Int) by omega]
        have hq0 : decide ((0 : Int) ≤ (q2 : Int)) = true := by simp
        have TK1 := Lib.hid (show (allRows ps).take (q2 + 1 - 1) = allRows ps from List.take_of_length_le (by rw [RLQ.out]; omega))
        have TK2 := Lib.hid (show (allRows ps).take (q2 + 2 - 1) = allRows ps from List.take_of_length_le (by rw [RLQ.out]; omega))
        go_wp2_with fail
        refine (storeAt_none (q2 : Int) STX.out.raw (.inr (by rw [RLQ.out]; exact Int.le_refl _))).mono ?_
        rintro e wa ⟨va, rfl, ha, ba⟩
        simp only [Option.elim_none, Option.isSome_none] at ha ⊢
        obtain ⟨Aa, ca, rfl, _⟩ := HasC.shape ha
        have b2 := ba.alloc ba.size (.cells #[.slice Aa ([] : List Cel).length ca, .bool false] 31)
        obtain ⟨g15, hg15⟩ : ∃ g15, wa.heap.size = g15 := ⟨_, rfl⟩
        have R15 := Lib.hid (show RowAt (wa.alloc (.cells #[.slice Aa ([] : List Cel).length ca, .bool false] 31)) g15 (.slice Aa ([] : List Cel).length ca) false by rw [← hg15]; exact heap_alloc_new wa _)
        have BX2 := Lib.hid (BX.out.trans (b2.mono BX.out.size))
        clear ha ba b2 BX STX LSX SPX
        go_wp2_with fail
        simp only [List.length_nil] at R15 BX2 ⊢
        generalize wa.alloc (.cells #[.slice Aa 0 ca, .bool false] 31) = wb at R15 BX2 ⊢
        have r0 := R15.out.get 0
        have r1 := R15.out.get 1
        go_quiet (fail)
        have BX3 := Lib.hid (Below.drewN BX2.out nq)
        clear r0 r1 R15 BX2
        go_wp2
        go_roundw
        case rel => exact ⟨q2 + 2, by rw [TK2.out, ← BN.out, TK1.out], by go_num, by omega, BX3⟩
        case measure => first | (simp [intOf]; done) | (simp [intOf]; omega)
      · obtain rfl : j = q2 + 2 := by omega
        have hbt : bn = bytesN (allRows ps) := by rw [← BN.out, List.take_of_length_le (by rw [RLQ.out]; omega)]
        have BW := Lib.hid (storeBytes_walk STX.out.raw)
        have AW := Lib.hid (allRows_walk A9 q2 c9 xs wr SPX.out STX.out (by omega) XLn.out RW.out (by have h := LSX.out.own; rw [XLn.out] at h; exact RwAt.lower h (Nat.zero_le _)) (fun x hx => ⟨(LSX.out.each x hx).1, by have h := LSX.out.each x hx; have := (mayL_small (fun c hc => (h.2.1 c hc).2) h.2.2).1; omega⟩))
        have LSH := Lib.hid LSX.out.old
        rw [← hbt] at BW
        rw [show ((q2 + 2 : Nat) : Int) - 1 = (q2 : Int) + 1 by omega]
        clear hbt
        go_wp2_with fail
        refine BW.out.mono ?_
        rintro e wl ⟨rfl, rfl⟩
        go_wp2_with fail
        refine AW.out.mono ?_
        rintro e wz ⟨rfl, bz⟩
        have DONE := Lib.hid (LSH.out.trans (bz.mono LSH.out.size))
        go_wp2
        go_ret
        exact ⟨rfl, DONE.out⟩

-- WHAT THE WALK GIVES, FOR EVERY ARGUMENT AND EVERY WORLD THAT HOLDS THE TABLE.
set_option maxRecDepth 100000 in
theorem contract (H : Type) (enc : TypeId × Value → H) (W : World) (base : Nat) (args : Array Value) (ds gs : List (DataW H)) (before : List MemPlace)
    (hval : ∀ (j : Nat) t v, Tryd.f8.params[j]? = some t → args[j]? = some v → Value.okWide Tryd.prog W .any base t v)
    (hW : DataW.Whole enc Tryd.prog Tryd.f8.params.toList Rows.storeAllSpec.vars false W args.toList ds gs before) (hL : laidMetH Tryd.prog Rows.storeAllRow.laid W) :
    Calls Tryd.prog 8 args W fun e W' => ∃ v, e = .returned v ∧ Rows.storeAllSpec.post enc Tryd.prog Tryd.f8 false true false false W args v W' := by
  have hW' := hW
  obtain ⟨p, q, hA0, hV, rfl, hfz, hnd⟩ := hW
  have hA : DataW.TrodAll enc Tryd.prog W 0 (fun _ => true) true Tryd.f8.params.toList args.toList ds p := hA0
  rw [Tryd.params8] at hA hval
  obtain ⟨v0, vs0, d0, ds0, p0, q0, hargs, rfl, rfl, h0, r0⟩ := trodAll_cons hA
  obtain ⟨v1, vs1, d1, ds1, p1, q1, rfl, rfl, rfl, h1, r1⟩ := trodAll_cons r0
  obtain ⟨rfl, rfl, rfl⟩ := trodAll_nil r1
  obtain rfl : args = #[v0, v1] := by cases args; simp_all
  obtain ⟨rfl, rfl⟩ := trodVars_none hV
  obtain ⟨x, rfl, rfl, rfl, wx⟩ := open_int Tryd.underlying3 (hval 0 3 v0 rfl rfl) h0
  obtain ⟨Ay, ny, cy, y, rfl, hcy, hmy, hry, hqy⟩ := open_ops (hval 1 56 v1 rfl rfl) h1
  clear hA0
  refine (walk x (wf_i64 wx) Ay ny cy y hcy hmy W (spans_of hL) hry hqy).mono fun e W' ⟨he, hg⟩ => ?_
  subst he
  exact ⟨_, rfl, close rfl hW' ⟨rfl, rfl, rfl⟩ (by kernel_rfl) (by kernel_rfl) hg⟩

set_option maxRecDepth 100000 in
theorem laid_met (os : Os) : laidMet Tryd.prog Rows.storeAllRow.laid ((laidWorld os).forCall (fun _ _ => 0) ⟨#[], #[.int .i64 0, .slice none 0 0], []⟩).memory :=
  laidMet_of_run' 8 (by kernel_rfl) (by kernel_rfl)
set_option maxRecDepth 100000 in
theorem reads (os : Os) {H : Type} (enc : TypeId × Value → H) : ∃ places, DataW.whole enc Tryd.prog ((laidWorld os).forCall (fun _ _ => 0) ⟨#[], #[.int .i64 0, .slice none 0 0], []⟩).memory Tryd.f8.params.toList Rows.storeAllSpec.vars false (#[.int .i64 0, .slice none 0 0] : Array Value).toList 8 = some ([.lit (.int .i64 0), .nil], [], places) :=
  ⟨[], by kernel_rfl⟩

set_option maxRecDepth 100000 in
theorem lifted (os : Os) (started : os.Started) (H : Type) (enc : TypeId × Value → H) (F : Stop.Interp) :
    ReturnsInHanded {} Tryd.checked os 8 .any ((OpenSpec.ofChange Rows.storeAllSpec).preRow enc Tryd.prog Tryd.f8 Rows.storeAllRow.domain false Rows.storeAllRow.laid) (((OpenSpec.ofChange Rows.storeAllSpec).at F).post enc Tryd.prog Tryd.f8 false true false false) := by
  obtain ⟨places, hx⟩ := reads os enc
  refine returnsInHanded_of_row (C := Tryd.checked) (s := OpenSpec.ofChange Rows.storeAllSpec) ownNone started (by kernel_rfl) Tryd.func8
    (witness_row_at (enc := enc) (C := Tryd.checked) false (laidWorld os) #[.int .i64 0, .slice none 0 0] rfl (by kernel_rfl) (by kernel_rfl) (by kernel_rfl)
      (OpenSpec.preRow_of_cond 8 hx (by kernel_rfl) (fun k hk => by cases hk) (by kernel_rfl) (laid_met os))) ?_
  intro W base args ds gs before hval hW _ _ _ hL _ _
  exact contract H enc W base args ds gs before hval hW hL

set_option maxRecDepth 100000 in
theorem said : Rows.StoreAllSaid :=
  OpenClaim.holds_of_cond 8 Tryd.f8 rfl rfl rfl rfl rfl rfl rfl ⟨rfl, rfl, rfl, rfl, rfl⟩ rfl rfl rfl rfl rfl (by kernel_rfl) Tryd.func8 (by kernel_rfl)
    (of_decide_eq_true (by kernel_rfl)) (by unfold Func.isWrapper; first | (rw [if_pos (by decide +kernel)]; kernel_rfl) | (rw [if_neg (by decide +kernel)]; exact ⟨rfl, rfl⟩))
    (fun os started H enc _ F => by rw [OpenClaim.pre_eq_preRow]; exact lifted os started H enc F)

-- No parameter wants a stand-in; the program's own looks are off: what the card asks.
set_option maxRecDepth 100000 in
theorem plain (f : FuncId) (fn : Func) (hf : Tryd.pinned.checked.prog.funcNamed "rotulus/rotuluslaw4.StoreAll" = some f) (hfn : Tryd.pinned.checked.prog.funcs[f]? = some fn) :
    false = Tryd.pinned.checked.prog.looks [] ∧ ∀ (j : Nat) t, fn.params[j]? = some t → Tryd.pinned.checked.prog.wantsStandIn t = false := by
  obtain rfl : f = 8 := Option.some.inj ((show Tryd.prog.funcNamed "rotulus/rotuluslaw4.StoreAll" = some 8 by kernel_rfl).symm.trans hf) |>.symm
  obtain rfl : fn = Tryd.f8 := (Option.some.inj (Tryd.func8.symm.trans hfn)).symm
  refine ⟨by kernel_rfl, fun j t ht => ?_⟩
  rw [Tryd.params8] at ht
  have hm := Array.mem_of_getElem? ht
  simp at hm
  rcases hm with rfl | rfl
  · exact (show Tryd.prog.wantsStandIn 3 = false by kernel_rfl)
  · exact (show Tryd.prog.wantsStandIn 56 = false by kernel_rfl)

-- The card.
set_option maxRecDepth 100000 in
theorem card : Rows.StoreAllCardSaid :=
  Claim7.holds_tied_plain_at .later [] _ _ _ _ said (fun _ h => by cases h) (by kernel_rfl) (fun _ h => by cases h) storeAll_row_tie rfl ⟨rfl, rfl⟩ (by kernel_rfl) rfl plain (by kernel_rfl)
end Go.Proofs.YtalhlgiklochdaaDoor.storeAll
