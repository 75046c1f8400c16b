/-
  The statement PageAll: rows in a page are told as they were added; the first ones go. For every list of rows (of which the statement looks at the first twenty, and of each at the first 310 cells) and every list of integers; it holds where the table of widths is as its initialiser lays it, which the card ties to the program's text.
-/
import Derived.Test.YtikdlikdknfcfaaDoorBegun
import Derived.Test.YtikdlikdknfcfaaDoorBegun4
import Derived.Test.YtikdlikdknfcfaaDoorRowsAny
import Derived.Test.YtikdlikdknfcfaaDoorRefPut2
import Derived.Test.YtikdlikdknfcfaaDoorPageCut
import Derived.StillTailTactics
import Derived.Deep.QuietTactic
import Derived.BigQuiet
import Derived.Deep.CutRange
namespace Go.Proofs.YtikdlikdknfcfaaDoor.pageAll
open Go.ChangeShapes Go.WideShapes Go.ChangeAt Go.RowKit

def rowsOf (xs : List RowIn) : List PRow := xs.map fun x => (x.wrap, x.l)
/-- The rows that should be there, as the statement holds them. -/
structure Ls (w0 : World) (v : Value) (xs : List RowIn) (W : World) : Prop where
  old : Below w0.heap.size w0 W
  own : RwAt W w0.heap.size v xs.length (xs.flatMap RowIn.vals)
  each : ∀ x ∈ xs, HasC W 0 (.slice x.A x.n x.c) x.l ∧ (∀ c ∈ x.l, -2147483648 ≤ c.1 ∧ c.1 ≤ 2147483647) ∧ mayL x.l = true
namespace Ls
variable {w0 W W' : World} {v v' : Value} {xs : List RowIn}
theorem hasC_turned {M : Nat → Prop} {v : Value} {l : List Cel} (hx : HasC W 0 v l) (ht : Turned M W W') (h2 : ∀ j, M j → ¬ Typed W 45 j) : HasC W' 0 v l := by
  refine ⟨hx.1, ?_⟩
  rcases hx.2 with e | ⟨g, cap, cur, e, e2, e3, r⟩
  · exact .inl e
  · exact .inr ⟨g, cap, cur, e, e2, (ht.block g (Array.getElem?_eq_some_iff.1 e3).1 (fun m => h2 g m ⟨_, _, e3⟩)).trans e3, r⟩
theorem turned {M : Nat → Prop} (h : Ls w0 v xs W) (ht : Turned M W W') (h0 : ∀ j, M j → w0.heap.size ≤ j) (h1 : ∀ j, M j → ¬ Typed W 31 j) (h2 : ∀ j, M j → ¬ Typed W 45 j) : Ls w0 v xs W' :=
  ⟨h.old.trans (ht.toBelow h.old.size fun k hk m => by have := h0 k m; omega), h.own.kept fun b hb => ht.block b (h.own.lt b hb).2 (fun m => h1 b m (h.own.type b hb).2), fun x hx => ⟨hasC_turned (h.each x hx).1 ht h2, (h.each x hx).2⟩⟩
theorem laid (h : Ls w0 v xs W) (hb : Below W.heap.size W W') : Ls w0 v xs W' := h.turned (M := fun _ => False) (Turned.ofBelow hb _) (fun _ h => h.elim) (fun _ h => h.elim) (fun _ h => h.elim)
theorem snoc {x : RowIn} (h : Ls w0 v xs W) (hg : W.grownBy W' v.ownBlock) (ho : RwAt W' w0.heap.size v' (xs.length + 1) (xs.flatMap RowIn.vals ++ x.vals)) (hx : HasC W 0 (.slice x.A x.n x.c) x.l) (hs : ∀ c ∈ x.l, -2147483648 ≤ c.1 ∧ c.1 ≤ 2147483647) (hm : mayL x.l = true) : Ls w0 v' (xs ++ [x]) W' := by
  have ht := Turned.ofGrown hg
  have hc : ∀ j, v.ownBlock = some j → ¬ Typed W 45 j := fun j e hty => (h.own.type j e).2.apart hty (by decide) rfl
  refine ⟨h.old.trans (ht.toBelow h.old.size fun k hk m => by have := (h.own.type k m).1; omega), ?_, fun y hy => ?_⟩
  · rw [List.length_append, List.flatMap_append]
    simpa [List.flatMap_cons] using ho
  · rcases List.mem_append.1 hy with hy | hy
    · exact ⟨hasC_turned (h.each y hy).1 ht hc, (h.each y hy).2⟩
    · rw [List.mem_singleton.1 hy]
      exact ⟨hasC_turned hx ht hc, hs, hm⟩
end Ls
theorem vals_drop (xs : List RowIn) (k : Nat) : (xs.drop k).flatMap RowIn.vals = (xs.flatMap RowIn.vals).drop (k * 2) := by
  induction k generalizing xs with
  | zero => simp
  | succ k ih =>
    cases xs with
    | nil => simp
    | cons x xs =>
      rw [List.drop_succ_cons, ih, List.flatMap_cons, show (k + 1) * 2 = k * 2 + 1 + 1 by omega]
      rfl

theorem bytesN_le : ∀ (rows : List PRow), (∀ r ∈ rows, (putL r.1 r.2).length ≤ 12010) → bytesN rows ≤ 12010 * rows.length
  | [], _ => by simp [bytesN]
  | r :: rows, h => by
    have ih := bytesN_le rows (fun y hy => h y (List.mem_cons_of_mem _ hy))
    have := h r (List.mem_cons_self ..)
    unfold bytesN at ih ⊢
    rw [List.map_cons, List.sum_cons, List.length_cons]
    omega
theorem tmod_range (x : Int) (m : Int) (hm : 0 < m) : -m < x.tmod m ∧ x.tmod m < m := by
  have h1 := Int.tmod_lt_of_pos x hm
  have h2 := Int.tmod_lt_of_pos (-x) hm
  rw [Int.neg_tmod] at h2
  omega
set_option maxRecDepth 100000 in
set_option maxHeartbeats 12800000 in
theorem walk (A : Option Addr) (n c : Nat) (l : List RowIn) (_ : n ≤ c) (_ : c ≤ maxLen) (AK : Option Addr) (nk ck : Nat) (ks : List Int) (_ : nk ≤ ck) (_ : ck ≤ maxLen) (hks : ∀ x ∈ ks, -9223372036854775808 ≤ x ∧ x ≤ 9223372036854775807) (w : World) (hs : Spans w) (hr : ∀ r ∈ l, r.Ok w w.heap.size) (hq : Sq w w.heap.size 2 n A (l.flatMap RowIn.vals)) (hqk : Sq w w.heap.size 1 nk AK (ks.map (Value.int .i64))) :
    Calls Tryd.prog 7 #[.slice A n c, .slice AK nk ck] w fun e w' => e = .returned (.bool true) ∧ Below w.heap.size w w' := by
  obtain ⟨j0, hj0, jz0, jz1, jz2⟩ := info_parts infoRow
  have S := Lib.hid hs
  have Q := Lib.hid hq
  have QK := Lib.hid hqk
  have RS := Lib.hid hr
  have KS := Lib.hid hks
  have hln : l.length = n := by have := hq.len; rw [flatMap_len RowIn.vals 2 (fun _ => rfl)] at this; omega
  have LN := Lib.hid hln
  have LK := Lib.hid hqk.size_ints
  clear hs hq hr hln hqk hks
  go_enter Tryd.func7, Tryd.ntmps7
  go_wp2_with fail
  refine (begun4_walk w S.out).mono ?_
  rintro e w1 ⟨rfl, b1⟩
  have B1 := Lib.hid b1
  clear b1
  go_wp2_with fail
  refine (pageNew_walk w1).mono ?_
  rintro e w2 ⟨rfl, pg2, b2, z2⟩
  obtain ⟨gp, hgp⟩ : ∃ gp, w1.heap.size = gp := ⟨_, rfl⟩
  rw [hgp] at pg2 ⊢
  have PG2 := Lib.hid pg2
  have LS2 := Lib.hid (show Ls w (.slice none 0 0) [] w2 from ⟨B1.out.trans (b2.mono B1.out.size), RwAt.nothing _ _, fun x h => by cases h⟩)
  have GP := Lib.hid (show w.heap.size ≤ gp by rw [← hgp]; exact B1.out.size)
  clear pg2 b2 z2 hgp B1
  go_wp2_with fail
  go_loopw [7, 8] (fun v7 i wr => ∃ (k : Nat) (xs : List RowIn) (vs : List Value), i = .int .i64 k ∧ k ≤ n ∧ k ≤ 20 ∧ Hid (Ls w v7 xs wr) ∧ Hid (PageAt wr gp gp vs (rowsOf xs))) (fun _ i _ => n - (intOf i).toNat)
  case atStart => exact ⟨0, [], [], rfl, Nat.zero_le _, Nat.zero_le _, LS2, PG2⟩
  case round =>
    obtain ⟨k, xs, vs, rfl, hk, hk20, LS, PG⟩ := hrel
    clear LS2 PG2
    by_cases hlt : k < n ∧ k < 20
    · obtain ⟨h1, h2⟩ := hlt
      obtain ⟨r, hr⟩ : ∃ r, l[k]? = some r := ⟨_, List.getElem?_eq_getElem (by rw [LN.out]; exact h1)⟩
      obtain ⟨b, off, rfl, hb, q0, q1⟩ := rows_at (Q.out.below LS.out.old) hr h1
      have ok := (RS.out r (List.mem_of_getElem? hr)).below LS.out.old
      have okl := ok.le
      have okc := ok.cap
      have OS := Lib.hid ok.signs
      have OQ := Lib.hid (ok.sq.up LS.out.old.size)
      clear hr ok
      obtain ⟨rA, rn, rc, rw_, rl⟩ := r
      simp only at q0 q1 okl okc OS OQ
      obtain ⟨L, hL⟩ : ∃ L, cut310 rl = L := ⟨_, rfl⟩
      have SL : Hid (∀ c ∈ L, -2147483648 ≤ c.1 ∧ c.1 ≤ 2147483647) := Lib.hid (fun c h => OS.out c (List.mem_of_mem_take (by rw [← hL] at h; exact h)))
      have L310 : L.length ≤ 310 := by rw [← hL]; exact cut310_len rl
      have HLL := Lib.hid hL
      clear hL
      go_wp2_with fail
      refine (lawRow_walk rA rn rc rw_ rl wr OQ.out okl okc).mono ?_
      rintro e w3 ⟨v3, rfl, hv, b3⟩
      rw [HLL.out] at hv
      obtain ⟨A3, c3, rfl, hc3⟩ := HasC.shape hv
      obtain ⟨m3, hm3⟩ : ∃ m, L.length = m := ⟨_, rfl⟩
      rw [hm3] at hc3 hv L310 ⊢
      have b4 := b3.alloc b3.size (.cells #[.slice A3 m3 c3, .bool rw_] 31)
      obtain ⟨g9, hg9⟩ : ∃ g9, w3.heap.size = g9 := ⟨_, rfl⟩
      have R4 := Lib.hid (show RowAt (w3.alloc (.cells #[.slice A3 m3 c3, .bool rw_] 31)) g9 (.slice A3 m3 c3) rw_ by rw [← hg9]; exact heap_alloc_new w3 _)
      have LS4 := Lib.hid (LS.out.laid b4)
      have PG4 := Lib.hid (PG.out.below b4)
      have V4 := Lib.hid (HasC.mono (HasC.keep (w' := w3.alloc (.cells #[.slice A3 m3 c3, .bool rw_] 31)) hv (fun j e => Below.heap_alloc _ _ _ (HasC.lt hv j e).2)) (Nat.zero_le _))
      have hgp4 := PG4.out.lt
      clear q0 q1 hv hm3 b3 b4 LS PG
      go_upto_region 10 with fail
      generalize w3.alloc (.cells #[.slice A3 m3 c3, .bool rw_] 31) = w4 at R4 LS4 PG4 V4 hgp4 ⊢
      obtain ⟨A7, c7, rfl, hc7⟩ := RwAt.shape LS4.out.own
      obtain ⟨q, hqx⟩ : ∃ q, xs.length = q := ⟨_, rfl⟩
      have XL := Lib.hid hqx
      have RLN := Lib.hid (show (rowsOf xs).length = q by unfold rowsOf; rw [List.length_map]; exact hqx)
      have hq16 : q ≤ 16 := by have := PG4.out.few; have := RLN.out; omega
      rw [hqx] at hc7 LS4 ⊢
      clear hqx
      go_cut [10] from 23 to 149 (fun s10 wx => s10 = .bool (mayL L && decide (q < 16)) ∧ Hid (RowAt wx g9 (.slice A3 m3 c3) rw_) ∧ Hid (Ls w (.slice A7 q c7) xs wx) ∧ Hid (PageAt wx gp gp vs (rowsOf xs)) ∧ Hid (HasC wx 0 (.slice A3 m3 c3) L))
      case first =>
        have r0 := R4.out.get 0
        have r1 := R4.out.get 1
        go_wp2_with fail
        refine (refRow_walk A3 m3 c3 rw_ L w4 SL.out (HasC.sq V4.out) (by omega)).mono ?_
        rintro e w5 ⟨rfl, b5⟩
        have R5 := Lib.hid (show RowAt w5 g9 (.slice A3 m3 c3) rw_ from (b5.block _ R4.out.lt).trans R4.out)
        have LS5 := Lib.hid (LS4.out.laid b5)
        have PG5 := Lib.hid (PG4.out.below b5)
        have V5 := Lib.hid (HasC.keep (w' := w5) V4.out (fun j e => b5.block j (HasC.lt V4.out j e).2))
        clear R4 LS4 PG4 V4 b5 r0 r1
        obtain ⟨bb, hbb⟩ : ∃ bb, mayL L = bb := ⟨_, rfl⟩
        have HB := Lib.hid hbb
        rw [hbb]
        clear hbb
        cases bb
        · go_wp2_with fail
          go_meet
          exact ⟨by simp [HB.out], R5, LS5, PG5, V5⟩
        · by_cases h16 : q < 16
          · have hd16 : decide ((q : Int) < 16) = true := by simp; omega
            go_wp2_with fail
            go_meet
            exact ⟨by simp [HB.out, h16], R5, LS5, PG5, V5⟩
          · have hd16 : decide ((q : Int) < 16) = false := by simp; omega
            go_wp2_with fail
            go_meet
            exact ⟨by simp [HB.out, h16], R5, LS5, PG5, V5⟩
      case rest =>
        clear R4 LS4 PG4 V4 hgp4
        obtain ⟨rfl, R5, LS5, PG5, V5⟩ := hcut
        obtain ⟨ok, hok⟩ : ∃ ok, (mayL L && decide (q < 16)) = ok := ⟨_, rfl⟩
        have HOK := Lib.hid hok
        rw [hok]
        clear hok
        have r0 := R5.out.get 0
        have r1 := R5.out.get 1
        have hbo : (ok != ok) = false := by simp
        go_wp2_with fail
        refine (pageAdd_walk gp gp vs (rowsOf xs) A3 m3 c3 rw_ L wc (S.out.below LS5.out.old S.out.size) PG5.out (Nat.le_of_lt PG5.out.lt) SL.out (HasC.sq V5.out) hc3 (by omega)).mono ?_
        rintro e w6 ⟨okb, vs6, hokb, rfl, pg6, gr6, _⟩
        rw [show (mayL (rw_, L).2 && decide ((rowsOf xs).length < 16)) = ok by rw [RLN.out]; exact HOK.out] at hokb
        subst hokb
        have t6 := Turned.ofGrown gr6
        have LS6 := Lib.hid (LS5.out.turned t6 (fun j e => by injection e with e; have := GP.out; omega) (fun j e hty => by injection e with e; subst e; exact PG5.out.typed.apart hty (by decide) rfl) (fun j e hty => by injection e with e; subst e; exact PG5.out.typed.apart hty (by decide) rfl))
        have PG6 := Lib.hid pg6
        have R6 := Lib.hid (show RowAt w6 g9 (.slice A3 m3 c3) rw_ from (t6.block _ R5.out.lt (fun e => by injection e with e; exact (Typed.apart ⟨_, _, R5.out⟩ PG5.out.typed (by decide)) e.symm)).trans R5.out)
        have V6 := Lib.hid (Ls.hasC_turned V5.out t6 (fun j e hty => by injection e with e; subst e; exact PG5.out.typed.apart hty (by decide) rfl))
        clear r0 r1 pg6 gr6 t6 LS5 PG5 R5 V5
        go_upto_if 50 with fail
        go_cut [7] from 23 to 149 (fun s7 wx => ∃ (xs' : List RowIn) (vs' : List Value), Hid (Ls w s7 xs' wx) ∧ Hid (PageAt wx gp gp vs' (rowsOf xs')))
        case first =>
          cases okb
          · go_wp2_with fail
            go_meet
            exact ⟨xs, vs6, LS6, Lib.hid (by have h := PG6.out; rw [if_neg (by decide)] at h; exact h)⟩
          · have hm1 := HOK.out
            simp only [Bool.and_eq_true, decide_eq_true_eq] at hm1
            obtain ⟨hm1, h16⟩ := hm1
            have PG6t := Lib.hid (show PageAt w6 gp gp vs6 (rowsOf xs ++ [(rw_, L)]) by have h := PG6.out; rw [if_pos rfl] at h; exact h)
            have r0 := R6.out.get 0
            have r1 := R6.out.get 1
            have b7 := (Below.refl w6.heap.size w6).alloc (Nat.le_refl _) (.cells #[.slice A3 m3 c3, .bool rw_] 31)
            have LS7 := Lib.hid (LS6.out.laid b7)
            have PG7 := Lib.hid (PG6t.out.below b7)
            have V7 := Lib.hid (HasC.keep (w' := w6.alloc (.cells #[.slice A3 m3 c3, .bool rw_] 31)) V6.out (fun j e => Below.heap_alloc _ _ _ (HasC.lt V6.out j e).2))
            have N7 := Lib.hid (show ∀ j x, [Value.slice A3 m3 c3, .bool rw_][j]? = some x → (w6.alloc (.cells #[.slice A3 m3 c3, .bool rw_] 31)).cell? ((⟨w6.heap.size, 0, none⟩ : Addr).add j) = some x from fun j x hx => by
              rw [add_at', cell_of_row _ w6.heap.size _ _ _ (0, 0) (heap_alloc_new w6 _)]
              simpa using hx)
            have MB := Lib.hid hm1
            clear b7 hm1
            go_wp2_with (
              at_builtin
              refine wpl_rwAt rfl (.tmp 51) (.tmp 53) 47 rfl w.heap.size j0 (.agg #[.slice none 0 0, .bool false]) Tryd.underlying47 hj0 jz0 jz1 jz2 rfl (.slice A7 q c7) q (xs.flatMap RowIn.vals) rfl (by have h := LS7.out.own; rw [XL.out] at h; exact h) ⟨w6.heap.size, 0, none⟩ 1 (.slice A3 m3 c3) (.bool rw_) rfl N7.out (by intro x hx; simp at hx; rcases hx with rfl | rfl <;> rfl) (by unfold maxLen; omega) (by omega) LS7.out.old.size ?_
              intro v8 w8 h8 g8 _
              have LSn := Lib.hid (LS7.out.snoc (x := ⟨A3, m3, c3, rw_, L⟩) g8 (by rw [XL.out]; exact h8) V7.out SL.out MB.out)
              have PGn := Lib.hid (show PageAt w8 gp gp vs6 (rowsOf (xs ++ [⟨A3, m3, c3, rw_, L⟩])) by
                have h := PG7.out.turned (Turned.ofGrown g8) (fun e => by have h := (LS7.out.own.type _ e).2; exact h.apart PG7.out.typed (by decide) rfl) (fun j e hty => (LS7.out.own.type j e).2.apart hty (by decide) rfl)
                unfold rowsOf at h ⊢
                rw [List.map_append]
                exact h)
              obtain ⟨A8, c8, rfl, _⟩ := RwAt.shape h8
              clear h8 g8 r0 r1 LS6 PG6 PG6t R6 V6 LS7 PG7 V7 N7)
            go_meet
            exact ⟨_, vs6, LSn, PGn⟩
        case rest =>
          clear LS6 PG6 R6 V6
          obtain ⟨xs1, vs1, LSn, PGn⟩ := hcut
          obtain ⟨A8, c8, rfl, hc8⟩ := RwAt.shape LSn.out.own
          obtain ⟨q1, hq1⟩ : ∃ q1, xs1.length = q1 := ⟨_, rfl⟩
          have XLn := Lib.hid hq1
          rw [hq1] at LSn hc8 ⊢
          clear hq1
          rename World => wo
          go_upto_if 58 with fail
          go_cut [7] from 23 to 149 (fun s7 wx => ∃ (xs' : List RowIn) (vs' : List Value), Hid (Ls w s7 xs' wx) ∧ Hid (PageAt wx gp gp vs' (rowsOf xs')))
          case first =>
            by_cases hkn : k < nk
            · obtain ⟨bk, okk, rfl, hbk, hck0⟩ := QK.out.int_at hkn
              have hck : wo.cell? ⟨bk, okk + k, none⟩ = some (.int .i64 (nth ks k)) := (LSn.out.old.cell (p := ⟨bk, okk + k, none⟩) hbk).trans hck0
              have tr := tmod_range (nth ks k) 20 (by omega)
              have hw64 : wrap64 ((nth ks k).tmod 20 - 1) = (nth ks k).tmod 20 - 1 := by simp only [wrap64]; omega
              have hfew := PGn.out.few
              have RLQ := Lib.hid (show (rowsOf xs1).length = q1 by unfold rowsOf; rw [List.length_map]; exact XLn.out)
              obtain ⟨z, hz⟩ : ∃ z, (nth ks k).tmod 20 - 1 = z := ⟨_, rfl⟩
              have hkn2 : (k : Int) < (nk : Int) := by omega
              have hk0 : (0 : Int) ≤ (k : Int) := by omega
              clear hck0
              have h7 : RwAt wo w.heap.size (.slice A8 q1 c8) q1 (xs1.flatMap RowIn.vals) := by
                have h := LSn.out.own
                rw [XLn.out] at h
                exact h
              by_cases hz0 : z < 0
              · have hd1 : decide ((0 : Int) ≤ z) = false := by simp; omega
                go_wp2_with fail
                refine (pageCut_none gp gp vs1 (rowsOf xs1) z wo PGn.out (.inl hz0)).mono ?_
                rintro e wq ⟨rfl, rfl⟩
                go_wp2_with fail
                go_meet
                exact ⟨_, _, LSn, PGn⟩
              obtain ⟨d, hzd⟩ := Int.eq_ofNat_of_zero_le (show 0 ≤ z by omega)
              rw [hzd] at hz hz0
              have hd1 : decide ((0 : Int) ≤ (d : Int)) = true := by simp
              clear hzd hz0
              by_cases hdq : q1 < d
              · have hd2 : decide ((d : Int) ≤ (q1 : Int)) = false := by simp; omega
                have hd3 : decide (d ≤ q1) = false := by simp; omega
                have hd4 : ¬ (d ≤ q1) := by omega
                go_wp2_with fail
                refine (pageCut_none gp gp vs1 (rowsOf xs1) (d : Int) wo PGn.out (.inr (by rw [RLQ.out]; omega))).mono ?_
                rintro e wq ⟨rfl, rfl⟩
                go_wp2_with fail
                go_meet
                exact ⟨_, _, LSn, PGn⟩
              have hdle : d ≤ q1 := by omega
              have hd2 : decide ((d : Int) ≤ (q1 : Int)) = true := by simp; omega
              have hd3 : decide (d ≤ q1) = true := by simp; omega
              go_wp2_with fail
              refine (pageCut_walk gp gp vs1 (rowsOf xs1) d wo PGn.out (by rw [RLQ.out]; exact hdle)).mono ?_
              rintro e wq ⟨rfl, pgq, orq⟩
              have tq := Turned.ofOnly orq
              have LSq := Lib.hid (LSn.out.turned tq (fun j e => by rw [e]; exact GP.out) (fun j e hty => by subst e; exact PGn.out.typed.apart hty (by decide) rfl) (fun j e hty => by subst e; exact PGn.out.typed.apart hty (by decide) rfl))
              have PGq := Lib.hid (show PageAt wq gp gp (vs1.drop d) (rowsOf (xs1.drop d)) by unfold rowsOf at pgq ⊢; rw [List.map_drop]; exact pgq)
              have h7q : RwAt wq w.heap.size (.slice A8 q1 c8) q1 (xs1.flatMap RowIn.vals) := by
                have h := LSq.out.own
                rw [XLn.out] at h
                exact h
              have EQ := Lib.hid (fun x (h : x ∈ xs1.drop d) => LSq.out.each x (List.mem_of_mem_drop h))
              have DL := Lib.hid (show (xs1.drop d).length = q1 - d by rw [List.length_drop, XLn.out])
              have OLD := Lib.hid LSq.out.old
              clear pgq orq tq h7 LSq hck hw64 tr hz
              rcases A8 with _ | ⟨b7, o7, sp7⟩
              · have hq0 : q1 = 0 ∧ c8 = 0 := by
                  rcases h7q.2 with ⟨e, h0⟩ | ⟨_, _, _, _, e, _⟩
                  · injection e with _ _ e3
                    exact ⟨h0, e3⟩
                  · cases e
                obtain ⟨hq0, hc0⟩ := hq0
                have hd0 : d = 0 := by omega
                have LS9 := Lib.hid (show Ls w (.slice none 0 0) (xs1.drop d) wq from ⟨OLD.out, by rw [DL.out, hq0, Nat.zero_sub, List.eq_nil_of_length_eq_zero (show (xs1.drop d).length = 0 by rw [DL.out]; omega)]; exact RwAt.nothing _ _, EQ.out⟩)
                clear h7q
                subst hd0
                subst hq0
                subst hc0
                go_wp2_with fail
                go_meet
                exact ⟨_, _, LS9, PGq⟩
              · have hsp : sp7 = none := by
                  rcases h7q.2 with ⟨e, _⟩ | ⟨_, _, _, _, e, _⟩
                  · cases e
                  · injection e with e _ _
                    injection e with e
                    injection e
                subst hsp
                have hdc : d ≤ c8 := by omega
                by_cases hcd : c8 = d
                · have hqd : q1 = d := by omega
                  have LS9 := Lib.hid (show Ls w (.slice (some ⟨b7, o7, none⟩) 0 0) (xs1.drop d) wq from ⟨OLD.out, by rw [DL.out, List.eq_nil_of_length_eq_zero (show (xs1.drop d).length = 0 by rw [DL.out]; omega), hqd, Nat.sub_self]; exact RwAt.none_left h7q, EQ.out⟩)
                  clear h7q
                  subst hqd
                  go_wp2_with fail
                  go_meet
                  exact ⟨_, _, LS9, PGq⟩
                · have LS9 := Lib.hid (show Ls w (.slice (some ⟨b7, o7 + d * 2, none⟩) (q1 - d) (c8 - d)) (xs1.drop d) wq from ⟨OLD.out, by rw [DL.out, vals_drop]; exact RwAt.cut h7q hdle, EQ.out⟩)
                  clear h7q
                  go_wp2_with fail
                  go_meet
                  exact ⟨_, _, LS9, PGq⟩
            · have hkb : decide ((k : Int) < (nk : Int)) = false := by simp; omega
              go_wp2_with fail
              go_meet
              exact ⟨_, _, LSn, PGn⟩
          case rest =>
            clear LSn PGn XLn
            obtain ⟨xs2, vs2, LSn, PGn⟩ := hcut
            obtain ⟨A9, c9, rfl, hc9⟩ := RwAt.shape LSn.out.own
            obtain ⟨q2, hq2⟩ : ∃ q2, xs2.length = q2 := ⟨_, rfl⟩
            have XLn := Lib.hid hq2
            rw [hq2] at LSn hc9 ⊢
            clear hq2
            go_wp2_with fail
            have hfew := PGn.out.few
            have LR := Lib.hid (fun r (h : r ∈ rowsOf xs2) => PageAt.len_row PGn.out r h)
            have RLQ := Lib.hid (show (rowsOf xs2).length = q2 by unfold rowsOf; rw [List.length_map]; exact XLn.out)
            have hq16n : q2 ≤ 16 := by have := RLQ.out; omega
            clear hfew
            go_loopw [13, 14] (fun bt i wx => ∃ j : Nat, bt = .int .i64 (bytesN ((rowsOf xs2).take (j - 1)) : Nat) ∧ i = .int .i64 ((j : Int) - 1) ∧ j ≤ q2 + 2 ∧ Hid (Below wc.heap.size wc wx)) (fun _ i _ => q2 + 2 - (intOf i + 1).toNat)
            case atStart => exact ⟨0, by simp [bytesN], by simp, Nat.zero_le _, Lib.hid (Below.refl _ _)⟩
            case round =>
              obtain ⟨j, rfl, rfl, hj, BX⟩ := hrel
              have LSX := Lib.hid (LSn.out.laid BX.out)
              have PGX := Lib.hid (PGn.out.below BX.out)
              have SPX := Lib.hid (S.out.below LSX.out.old S.out.size)
              have hbn := bytesN_le ((rowsOf xs2).take (j - 1)) (fun r h => LR.out r (List.mem_of_mem_take h))
              have hbn2 : ((rowsOf xs2).take (j - 1)).length ≤ 16 := by rw [List.length_take]; have := RLQ.out; omega
              obtain ⟨bn, hbne⟩ : ∃ bn, bytesN ((rowsOf xs2).take (j - 1)) = bn := ⟨_, rfl⟩
              have BN := Lib.hid hbne
              rw [hbne] at hbn ⊢
              have hbn3 : bn ≤ 200000 := by omega
              clear hbne hbn hbn2
              by_cases hj0 : j = 0
              · subst hj0
                rw [show ((0 : Nat) : Int) - 1 = -1 by rfl]
                go_wp2_with fail
                refine (pageAt_none gp gp vs2 (rowsOf xs2) (-1) wr PGX.out (.inl (by omega))).mono ?_
                rintro e wa ⟨va, rfl, ha, ba⟩
                simp only [Option.elim_none, Option.isSome_none] at ha ⊢
                obtain ⟨Aa, ca, rfl, _⟩ := HasC.shape ha
                have b2 := ba.alloc ba.size (.cells #[.slice Aa ([] : List Cel).length ca, .bool false] 31)
                obtain ⟨g15, hg15⟩ : ∃ g15, wa.heap.size = g15 := ⟨_, rfl⟩
                have R15 := Lib.hid (show RowAt (wa.alloc (.cells #[.slice Aa ([] : List Cel).length ca, .bool false] 31)) g15 (.slice Aa ([] : List Cel).length ca) false by rw [← hg15]; exact heap_alloc_new wa _)
                have BX2 := Lib.hid (BX.out.trans (b2.mono BX.out.size))
                clear ha ba b2 BX PGX LSX SPX
                go_wp2_with fail
                simp only [List.length_nil] at R15 BX2 ⊢
                generalize wa.alloc (.cells #[.slice Aa 0 ca, .bool false] 31) = wb at R15 BX2 ⊢
                have r0 := R15.out.get 0
                have r1 := R15.out.get 1
                go_quiet (fail)
                have BX3 := Lib.hid (Below.drewN BX2.out nq)
                clear r0 r1 R15 BX2
                go_wp2
                go_roundw
                case rel => exact ⟨1, by rw [← BN.out], by first | rfl | simp, by omega, BX3⟩
                case measure => first | (simp [intOf]; done) | (simp [intOf]; omega)
              by_cases hjq : j ≤ q2
              · obtain ⟨i, rfl⟩ : ∃ i, j = i + 1 := ⟨j - 1, by omega⟩
                rw [show ((i + 1 : Nat) : Int) - 1 = (i : Int) by omega]
                rw [Nat.add_sub_cancel] at BN
                have hiq : i < q2 := by omega
                obtain ⟨x, hx⟩ : ∃ x, xs2[i]? = some x := ⟨_, List.getElem?_eq_getElem (by rw [XLn.out]; exact hiq)⟩
                have hrow : (rowsOf xs2)[i]? = some (x.wrap, x.l) := by unfold rowsOf; rw [List.getElem?_map, hx]; rfl
                obtain ⟨xo, xsig, xm⟩ := LSX.out.each x (List.mem_of_getElem? hx)
                have h7 : RwAt wr w.heap.size (.slice A9 q2 c9) q2 (xs2.flatMap RowIn.vals) := by
                  have h := LSX.out.own
                  rw [XLn.out] at h
                  exact h
                obtain ⟨g', off7', cx', ev, _, _, hgl, y0⟩ := RwAt.cell h7 (j := i * 2 + 0) (flatMap_get RowIn.vals 2 (fun _ => rfl) xs2 i x hx 0 _ rfl)
                obtain ⟨g2', off2', cx2', ev', _, _, _, y1⟩ := RwAt.cell h7 (j := i * 2 + 1) (flatMap_get RowIn.vals 2 (fun _ => rfl) xs2 i x hx 1 _ rfl)
                injection ev with e1 e2 e3
                injection ev' with e4 e5 e6
                subst e1
                injection e4 with e4
                injection e4 with e7 e8 _
                subst e7 e8
                have hgl : g' < wr.heap.size := World.block_lt_of_cell? wr _ y0
                clear e2 e3 e5 e6 h7
                have NX := Lib.hid (bytesN_next hrow)
                have lrow := LR.out (x.wrap, x.l) (List.mem_of_getElem? hrow)
                obtain ⟨xA, xn, xc, xw, xl⟩ := x
                simp only at xo xsig xm y0 y1 hrow NX lrow
                have hxn : xl.length = xn := by
                  obtain ⟨A0, c0, e, _⟩ := HasC.shape xo
                  injection e with _ e _
                  exact e.symm
                have hx3 : xn ≤ 310 := by
                  obtain ⟨p1, _⟩ := mayL_small (fun c hc => (xsig c hc).2) xm
                  omega
                have XQ := Lib.hid (HasC.sq xo)
                have Y0 := Lib.hid (And.intro y0 y1)
                have XSG := Lib.hid xsig
                have XM := Lib.hid xm
                clear xo xsig xm y0 y1 hx
                go_wp2_with fail
                refine (pageAt_some gp gp vs2 (rowsOf xs2) i (xw, xl) wr SPX.out PGX.out hrow).mono ?_
                rintro e wa ⟨va, rfl, ha, ba⟩
                simp only [Option.elim_some, Option.isSome_some] at ha ⊢
                obtain ⟨Aa, ca, rfl, hca⟩ := HasC.shape ha
                rw [hxn] at ha hca ⊢
                have VQ := Lib.hid (HasC.sq ha)
                have b2 := ba.alloc ba.size (.cells #[.slice Aa xn ca, .bool xw] 31)
                have b3 := (Below.refl wa.heap.size wa).alloc (Nat.le_refl _) (.cells #[.slice Aa xn ca, .bool xw] 31)
                obtain ⟨g15, hg15⟩ : ∃ g15, wa.heap.size = g15 := ⟨_, rfl⟩
                have R15 := Lib.hid (show RowAt (wa.alloc (.cells #[.slice Aa xn ca, .bool xw] 31)) g15 (.slice Aa xn ca) xw by rw [← hg15]; exact heap_alloc_new wa _)
                have BXr := Lib.hid b2
                have VQ2 := Lib.hid ((VQ.out.below b3).up b3.size)
                clear ha ba b2 b3 VQ hrow
                go_wp2_with fail
                generalize wa.alloc (.cells #[.slice Aa xn ca, .bool xw] 31) = wb at R15 BXr VQ2 ⊢
                have R16 := Lib.hid (show RowAt wb.drew g15 (.slice Aa xn ca) xw from R15.out)
                have BX3 := Lib.hid BXr.out.drew
                have VQ3 := Lib.hid (show Sq wb.drew wb.drew.heap.size 3 xn Aa (flat xl) from VQ2.out.below (Below.refl wb.heap.size wb).drew)
                refine wp_region_still_tail 18 (by kernel_rfl) (by kernel_rfl) ?_
                rw [show ({ wb with drawn := wb.drawn + 1 } : World) = wb.drew from rfl]
                generalize wb.drew = wd at R16 BX3 VQ3 ⊢
                clear R15 BXr VQ2
                have r0 := R16.out.get 0
                have r1 := R16.out.get 1
                have y0 := (BX3.out.cell (p := ⟨g', off7' + (i * 2 + 0), none⟩) hgl).trans Y0.out.1
                have y1 := (BX3.out.cell (p := ⟨g', off7' + (i * 2 + 1), none⟩) hgl).trans Y0.out.2
                rw [Nat.add_zero] at y0
                rw [← Nat.add_assoc] at y1
                have hi0 : (0 : Int) ≤ (i : Int) := by omega
                have hiq2 : (i : Int) < (q2 : Int) := by omega
                have hd1 : decide (i < q2) = true := by simp; omega
                have hd2 : decide (q2 ≤ i) = false := by simp; omega
                have hd3 : ¬ (q2 ≤ i) := by omega
                have hd4 : decide ((i : Int) < (q2 : Int)) = true := by simp; omega
                simp only [List.take_succ_cons, List.take_zero, List.drop_succ_cons, List.drop_zero]
                repeat still_step
                refine wpStill_nil ?_
                go_wp2_with fail
                refine (eqRow_walk Aa xA xn ca xn xc xw xw xl xl wd (by omega) (by omega) VQ3.out ((XQ.out.below BX3.out).up BX3.out.size)).mono ?_
                rintro e we ⟨rfl, be⟩
                rw [show (xw == xw && eqL xl xl) = true by simp [eqL]]
                have BX4 := Lib.hid (BX3.out.trans (be.mono BX3.out.size))
                clear r0 r1 y0 y1 VQ3 BX3 R16 be
                have y0 := (BX4.out.cell (p := ⟨g', off7' + (i * 2 + 0), none⟩) hgl).trans Y0.out.1
                have y1 := (BX4.out.cell (p := ⟨g', off7' + (i * 2 + 1), none⟩) hgl).trans Y0.out.2
                rw [Nat.add_zero] at y0
                rw [← Nat.add_assoc] at y1
                go_wp2_with fail
                refine (refPutRow_walk xA xn xc xw xl we XSG.out ((XQ.out.below BX4.out).up BX4.out.size) (by omega)).mono ?_
                rintro e wf ⟨vf, rfl, hf, bf⟩
                obtain ⟨Af, cf, rfl⟩ := HasB.shape hf
                rw [show putV xw xl = putL xw xl by unfold putV; rw [if_pos XM.out]]
                have BX5 := Lib.hid (BX.out.trans ((BX4.out.trans (bf.mono BX4.out.size)).mono BX.out.size))
                obtain ⟨pn, hpn⟩ : ∃ pn, (putL xw xl).length = pn := ⟨_, rfl⟩
                have NX2 := Lib.hid (show bytesN ((rowsOf xs2).take (i + 1)) = bn + pn by rw [NX.out, BN.out, hpn])
                have hpn2 : pn ≤ 12010 := by rw [← hpn]; exact lrow
                rw [hpn]
                clear hf bf y0 y1 BX4 hpn
                go_wp2
                go_roundw
                case rel => exact ⟨i + 2, by rw [show i + 2 - 1 = i + 1 by omega, NX2.out]; go_num, by go_num, by omega, BX5⟩
                case measure => first | (simp [intOf]; done) | (simp [intOf]; omega)
              by_cases hjq1 : j = q2 + 1
              · subst hjq1
                rw [show ((q2 + 1 : Nat) : Int) - 1 = (q2 : Int) by omega]
                have hq0 : decide ((0 : Int) ≤ (q2 : Int)) = true := by simp
                have TK1 := Lib.hid (show (rowsOf xs2).take (q2 + 1 - 1) = rowsOf xs2 from List.take_of_length_le (by rw [RLQ.out]; omega))
                have TK2 := Lib.hid (show (rowsOf xs2).take (q2 + 2 - 1) = rowsOf xs2 from List.take_of_length_le (by rw [RLQ.out]; omega))
                go_wp2_with fail
                refine (pageAt_none gp gp vs2 (rowsOf xs2) (q2 : Int) wr PGX.out (.inr (by rw [RLQ.out]; exact Int.le_refl _))).mono ?_
                rintro e wa ⟨va, rfl, ha, ba⟩
                simp only [Option.elim_none, Option.isSome_none] at ha ⊢
                obtain ⟨Aa, ca, rfl, _⟩ := HasC.shape ha
                have b2 := ba.alloc ba.size (.cells #[.slice Aa ([] : List Cel).length ca, .bool false] 31)
                obtain ⟨g15, hg15⟩ : ∃ g15, wa.heap.size = g15 := ⟨_, rfl⟩
                have R15 := Lib.hid (show RowAt (wa.alloc (.cells #[.slice Aa ([] : List Cel).length ca, .bool false] 31)) g15 (.slice Aa ([] : List Cel).length ca) false by rw [← hg15]; exact heap_alloc_new wa _)
                have BX2 := Lib.hid (BX.out.trans (b2.mono BX.out.size))
                clear ha ba b2 BX PGX LSX SPX
                go_wp2_with fail
                simp only [List.length_nil] at R15 BX2 ⊢
                generalize wa.alloc (.cells #[.slice Aa 0 ca, .bool false] 31) = wb at R15 BX2 ⊢
                have r0 := R15.out.get 0
                have r1 := R15.out.get 1
                go_quiet (fail)
                have BX3 := Lib.hid (Below.drewN BX2.out nq)
                clear r0 r1 R15 BX2
                go_wp2
                go_roundw
                case rel => exact ⟨q2 + 2, by rw [TK2.out, ← BN.out, TK1.out], by go_num, by omega, BX3⟩
                case measure => first | (simp [intOf]; done) | (simp [intOf]; omega)
              · obtain rfl : j = q2 + 2 := by omega
                have hbt : bn = bytesN (rowsOf xs2) := by rw [← BN.out, List.take_of_length_le (by rw [RLQ.out]; omega)]
                have LW := Lib.hid (pageLen_walk gp gp vs2 (rowsOf xs2) wr PGX.out)
                have BW := Lib.hid (pageBytes_walk gp gp vs2 (rowsOf xs2) wr PGX.out)
                rw [RLQ.out] at LW
                rw [← hbt] at BW
                rw [show ((q2 + 2 : Nat) : Int) - 1 = (q2 : Int) + 1 by omega]
                clear hbt
                go_wp2_with fail
                refine LW.out.mono ?_
                rintro e wl ⟨rfl, rfl⟩
                go_wp2_with fail
                refine BW.out.mono ?_
                rintro e wl ⟨rfl, rfl⟩
                clear LW BW
                go_wp2
                go_roundw
                case rel => exact ⟨k + 1, xs2, vs2, by go_num, by omega, by omega, LSX, PGX⟩
                case measure => first | (simp [intOf]; done) | (simp [intOf]; omega)
    · have hex : (k < n ∧ 20 ≤ k) ∨ n ≤ k := by omega
      rcases hex with ⟨h1, h2⟩ | h1
      all_goals
        have LSH := Lib.hid LS.out.old
        go_wp2
        go_ret
        exact ⟨rfl, LSH.out⟩

-- WHAT THE WALK GIVES, FOR EVERY ARGUMENT AND EVERY WORLD THAT HOLDS THE TABLE.
set_option maxRecDepth 100000 in
theorem contract (H : Type) (enc : TypeId × Value → H) (W : World) (base : Nat) (args : Array Value) (ds gs : List (DataW H)) (before : List MemPlace)
    (hval : ∀ (j : Nat) t v, Tryd.f7.params[j]? = some t → args[j]? = some v → Value.okWide Tryd.prog W .any base t v)
    (hW : DataW.Whole enc Tryd.prog Tryd.f7.params.toList Rows.pageAllSpec.vars false W args.toList ds gs before) (hL : laidMetH Tryd.prog Rows.pageAllRow.laid W) :
    Calls Tryd.prog 7 args W fun e W' => ∃ v, e = .returned v ∧ Rows.pageAllSpec.post enc Tryd.prog Tryd.f7 false true false false W args v W' := by
  have hW' := hW
  obtain ⟨p, q, hA0, hV, rfl, hfz, hnd⟩ := hW
  have hA : DataW.TrodAll enc Tryd.prog W 0 (fun _ => true) true Tryd.f7.params.toList args.toList ds p := hA0
  rw [Tryd.params7] at hA hval
  obtain ⟨v0, vs0, d0, ds0, p0, q0, hargs, rfl, rfl, h0, r0⟩ := trodAll_cons hA
  obtain ⟨v1, vs1, d1, ds1, p1, q1, rfl, rfl, rfl, h1, r1⟩ := trodAll_cons r0
  obtain ⟨rfl, rfl, rfl⟩ := trodAll_nil r1
  obtain rfl : args = #[v0, v1] := by cases args; simp_all
  obtain ⟨rfl, rfl⟩ := trodVars_none hV
  obtain ⟨Ax, nx, cx, x, rfl, hcx, hmx, hrx, hqx⟩ := open_rows (hval 0 47 v0 rfl rfl) h0
  obtain ⟨Ay, ny, cy, y, rfl, hcy, hmy, hry, hqy⟩ := open_nums (hval 1 48 v1 rfl rfl) h1
  clear hA0
  refine (walk Ax nx cx x hcx hmx Ay ny cy y hcy hmy hry W (spans_of hL) hrx hqx hqy).mono fun e W' ⟨he, hg⟩ => ?_
  subst he
  exact ⟨_, rfl, close rfl hW' ⟨rfl, rfl, rfl⟩ (by kernel_rfl) (by kernel_rfl) hg⟩

set_option maxRecDepth 100000 in
theorem laid_met (os : Os) : laidMet Tryd.prog Rows.pageAllRow.laid ((laidWorld os).forCall (fun _ _ => 0) ⟨#[], #[.slice none 0 0, .slice none 0 0], []⟩).memory :=
  laidMet_of_run' 8 (by kernel_rfl) (by kernel_rfl)
set_option maxRecDepth 100000 in
theorem reads (os : Os) {H : Type} (enc : TypeId × Value → H) : ∃ places, DataW.whole enc Tryd.prog ((laidWorld os).forCall (fun _ _ => 0) ⟨#[], #[.slice none 0 0, .slice none 0 0], []⟩).memory Tryd.f7.params.toList Rows.pageAllSpec.vars false (#[.slice none 0 0, .slice none 0 0] : Array Value).toList 8 = some ([.nil, .nil], [], places) :=
  ⟨[], by kernel_rfl⟩

set_option maxRecDepth 100000 in
theorem lifted (os : Os) (started : os.Started) (H : Type) (enc : TypeId × Value → H) (F : Stop.Interp) :
    ReturnsInHanded {} Tryd.checked os 7 .any ((OpenSpec.ofChange Rows.pageAllSpec).preRow enc Tryd.prog Tryd.f7 Rows.pageAllRow.domain false Rows.pageAllRow.laid) (((OpenSpec.ofChange Rows.pageAllSpec).at F).post enc Tryd.prog Tryd.f7 false true false false) := by
  obtain ⟨places, hx⟩ := reads os enc
  refine returnsInHanded_of_row (C := Tryd.checked) (s := OpenSpec.ofChange Rows.pageAllSpec) ownNone started (by kernel_rfl) Tryd.func7
    (witness_row_at (enc := enc) (C := Tryd.checked) false (laidWorld os) #[.slice none 0 0, .slice none 0 0] rfl (by kernel_rfl) (by kernel_rfl) (by kernel_rfl)
      (OpenSpec.preRow_of_cond 8 hx (by kernel_rfl) (fun k hk => by cases hk) (by kernel_rfl) (laid_met os))) ?_
  intro W base args ds gs before hval hW _ _ _ hL _ _
  exact contract H enc W base args ds gs before hval hW hL

set_option maxRecDepth 100000 in
theorem said : Rows.PageAllSaid :=
  OpenClaim.holds_of_cond 7 Tryd.f7 rfl rfl rfl rfl rfl rfl rfl ⟨rfl, rfl, rfl, rfl, rfl⟩ rfl rfl rfl rfl rfl (by kernel_rfl) Tryd.func7 (by kernel_rfl)
    (of_decide_eq_true (by kernel_rfl)) (by unfold Func.isWrapper; first | (rw [if_pos (by decide +kernel)]; kernel_rfl) | (rw [if_neg (by decide +kernel)]; exact ⟨rfl, rfl⟩))
    (fun os started H enc _ F => by rw [OpenClaim.pre_eq_preRow]; exact lifted os started H enc F)

-- No parameter wants a stand-in; the program's own looks are off: what the card asks.
set_option maxRecDepth 100000 in
theorem plain (f : FuncId) (fn : Func) (hf : Tryd.pinned.checked.prog.funcNamed "rotulus/rotuluslaw4.PageAll" = some f) (hfn : Tryd.pinned.checked.prog.funcs[f]? = some fn) :
    false = Tryd.pinned.checked.prog.looks [] ∧ ∀ (j : Nat) t, fn.params[j]? = some t → Tryd.pinned.checked.prog.wantsStandIn t = false := by
  obtain rfl : f = 7 := Option.some.inj ((show Tryd.prog.funcNamed "rotulus/rotuluslaw4.PageAll" = some 7 by kernel_rfl).symm.trans hf) |>.symm
  obtain rfl : fn = Tryd.f7 := (Option.some.inj (Tryd.func7.symm.trans hfn)).symm
  refine ⟨by kernel_rfl, fun j t ht => ?_⟩
  rw [Tryd.params7] at ht
  have hm := Array.mem_of_getElem? ht
  simp at hm
  rcases hm with rfl | rfl
  · exact (show Tryd.prog.wantsStandIn 47 = false by kernel_rfl)
  · exact (show Tryd.prog.wantsStandIn 48 = false by kernel_rfl)

-- The card.
set_option maxRecDepth 100000 in
theorem card : Rows.PageAllCardSaid :=
  Claim7.holds_tied_plain_at .later [] _ _ _ _ said (fun _ h => by cases h) (by kernel_rfl) (fun _ h => by cases h) pageAll_row_tie rfl ⟨rfl, rfl⟩ (by kernel_rfl) rfl plain (by kernel_rfl)
end Go.Proofs.YtikdlikdknfcfaaDoor.pageAll
