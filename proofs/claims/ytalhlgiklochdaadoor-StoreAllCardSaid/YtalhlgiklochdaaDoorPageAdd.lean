/-
  page.Add: a row behind all.
  The calls of a nil page; and page.Cut where it tells false.
-/
import Derived.Test.YtalhlgiklochdaaDoorPage
import Derived.Deep.RegionWith
namespace Go.Proofs.YtalhlgiklochdaaDoor
open Go.ChangeShapes Go.WideShapes Go.ChangeAt Go.RowKit

/-- One row's bytes more. -/
theorem pageCells_set {vs : List Value} (h : vs.length < 16) (v : Value) : ((pageCells vs).set vs.length v).set 16 (.int .i64 ((vs.length + 1 : Nat) : Int)) = pageCells (vs ++ [v]) := by
  obtain ⟨m, hm⟩ : ∃ m, 16 - vs.length = m + 1 := ⟨15 - vs.length, by omega⟩
  unfold pageCells
  rw [List.length_append, List.length_singleton, show 16 - (vs.length + 1) = m by omega, hm, List.replicate_succ, List.cons_append, List.set_append_right _ _ (Nat.le_refl _), Nat.sub_self]
  simp only [List.set_cons_zero]
  rw [List.set_append_right _ _ (by omega), List.append_assoc]
  congr 1
  rw [show 16 - vs.length = m + 1 by omega]
  simp only [List.set_cons_succ, List.singleton_append, List.cons.injEq, true_and]
  rw [List.set_append_right _ _ (by simp)]
  simp
theorem pageCells_free {vs : List Value} (h : vs.length < 16) : (pageCells vs)[vs.length]? = some (.slice none 0 0) := by
  unfold pageCells
  rw [List.getElem?_append_right (Nat.le_refl _), Nat.sub_self, List.getElem?_append_left (by simp; omega), List.getElem?_replicate, if_pos (by omega)]
theorem PageAt.free {w : World} {base g : Nat} {vs : List Value} {rows : List PRow} (h : PageAt w base g vs rows) (j : Nat) : w.frozen? ⟨g, j, none⟩ = false := frozen_of_row w g j _ _ h.cells
theorem pageCells_len {vs : List Value} (h : vs.length ≤ 16) : (pageCells vs).length = 17 := by unfold pageCells; simp; omega
/-- The page behind the two stores. -/
theorem PageAt.add {w : World} {base g : Nat} {vs : List Value} {rows : List PRow} (h : PageAt w base g vs rows) (hf : rows.length < 16) {v : Value} {r : PRow} (hv : HasB w base v (putL r.1 r.2)) (hne : v.ownBlock ≠ some g) (hm : mayL r.2 = true ∧ ∀ c ∈ r.2, -2147483648 ≤ c.1 ∧ c.1 ≤ 2147483647) :
    PageAt ((w.setCell ⟨g, rows.length, none⟩ v).setCell ⟨g, 16, none⟩ (.int .i64 ((rows.length + 1 : Nat) : Int))) base g (vs ++ [v]) (rows ++ [r]) := by
  have hl := h.many
  have keep : ∀ {u : Value} {xs : List Int}, HasB w base u xs → u.ownBlock ≠ some g → HasB ((w.setCell ⟨g, rows.length, none⟩ v).setCell ⟨g, 16, none⟩ (.int .i64 ((rows.length + 1 : Nat) : Int))) base u xs := by
    intro u xs hu hne'
    refine ⟨hu.1, ?_⟩
    rcases hu.2 with e | ⟨b, cap, cur, rfl, e2, e3, rr⟩
    · exact .inl e
    · refine .inr ⟨b, cap, cur, rfl, e2, ?_, rr⟩
      have hb : b ≠ g := fun e => hne' (by rw [e]; rfl)
      rw [Below.heap_setCell _ _ _ _ hb, Below.heap_setCell _ _ _ _ hb]
      exact e3
  refine ⟨?_, h.from', by simp [hl], by simp; omega, fun i u r' hu hr' => ?_, fun x hx => ?_⟩
  · have h1 := heap_setCell_same w g rows.length _ _ v h.cells
    have h2 := heap_setCell_same _ g 16 _ _ (.int .i64 ((rows.length + 1 : Nat) : Int)) h1
    rw [h2]
    congr 2
    rw [← pageCells_set (vs := vs) (by omega) v, hl]
    simp
  · by_cases hi : i < vs.length
    · rw [List.getElem?_append_left hi] at hu
      rw [List.getElem?_append_left (by omega)] at hr'
      obtain ⟨a, b⟩ := h.row i u r' hu hr'
      exact ⟨keep a b, b⟩
    · rw [List.getElem?_append_right (by omega)] at hu
      rw [List.getElem?_append_right (by omega)] at hr'
      have hi0 : i - vs.length = 0 := by
        have := (List.getElem?_eq_some_iff.1 hu).1
        simp at this
        omega
      rw [hi0] at hu
      rw [show i - rows.length = 0 by omega] at hr'
      simp at hu hr'
      subst hu hr'
      exact ⟨keep hv hne, hne⟩
  · rcases List.mem_append.1 hx with h' | h'
    · exact h.may x h'
    · simp at h'
      subst h'
      exact hm
theorem PageAt.below {w w' : World} {base g : Nat} {vs : List Value} {rows : List PRow} (h : PageAt w base g vs rows) (hb : Below w.heap.size w w') : PageAt w' base g vs rows :=
  ⟨(hb.block g h.lt).trans h.cells, h.from', h.many, h.few, fun i v r hv hr => ⟨(h.row i v r hv hr).1.below hb (h.row i v r hv hr).1.lt, (h.row i v r hv hr).2⟩, h.may⟩
/-- What Add does: the page is as it was, or has one row more; nothing else that was there has turned. -/
def AddPost (base g : Nat) (vs : List Value) (rows : List PRow) (r : PRow) (w : World) (e : Ending) (w' : World) : Prop :=
  ∃ ok vs', ok = (mayL r.2 && decide (rows.length < 16)) ∧ e = .returned (.bool ok) ∧ PageAt w' base g vs' (if ok then rows ++ [r] else rows) ∧ w.grownBy w' (some g) ∧
    ∀ v ∈ vs', v ∈ vs ∨ ∀ k, v.ownBlock = some k → w.heap.size ≤ k
set_option maxRecDepth 100000 in
set_option maxHeartbeats 3200000 in
theorem pageAdd_full (base g : Nat) (vs : List Value) (rows : List PRow) (r : PRow) (A : Option Addr) (n c : Nat) (w : World) (h : PageAt w base g vs rows) (hf : rows.length = 16) :
    Calls Tryd.prog 34 #[.pointer (some ⟨g, 0, none⟩), rowV A n c r.1] w fun e w' => AddPost base g vs rows r w e w' := by
  have hm : w.cell? ⟨g, 16, none⟩ = some (.int .i64 16) := by rw [h.get, pageCells_many _ (by rw [h.many]; exact h.few), h.many, hf]; rfl
  have hgl := h.lt
  have H := Lib.hid h
  have F := Lib.hid hf
  have BB := Lib.hid ((Below.refl w.heap.size w).alloc (Nat.le_refl _) (.cells #[.slice A n c, .bool r.1] 31))
  clear h hf
  go_enter Tryd.func34, Tryd.ntmps34
  go_wp2
  go_ret
  exact ⟨false, vs, by rw [F.out]; simp, rfl, by simpa using H.out.below BB.out, ⟨BB.out.os, BB.out.tape, BB.out.output, BB.out.size, fun k hk _ => BB.out.block k hk⟩, fun v hv => .inl hv⟩
set_option maxRecDepth 100000 in
set_option maxHeartbeats 3200000 in
theorem pageAdd_walk (base g : Nat) (vs : List Value) (rows : List PRow) (A : Option Addr) (n c : Nat) (wrap : Bool) (l : List Cel) (w : World) (hs : Spans w) (h : PageAt w base g vs rows) (hb0 : base ≤ w.heap.size) (hl : ∀ c ∈ l, -2147483648 ≤ c.1 ∧ c.1 ≤ 2147483647) (hq : Sq w w.heap.size 3 n A (flat l)) (hc : n ≤ c) (hn : n ≤ 1000000) :
    Calls Tryd.prog 34 #[.pointer (some ⟨g, 0, none⟩), rowV A n c wrap] w fun e w' => AddPost base g vs rows (wrap, l) w e w' := by
  by_cases hf : rows.length = 16
  · exact pageAdd_full base g vs rows (wrap, l) A n c w h hf
  · have hf' : rows.length < 16 := by have := h.few; omega
    have hm : w.cell? ⟨g, 16, none⟩ = some (.int .i64 (rows.length : Int)) := by rw [h.get, pageCells_many _ (by rw [h.many]; exact h.few), h.many]
    have hgl := h.lt
    have bb := (Below.refl w.heap.size w).alloc (Nat.le_refl _) (.cells #[.slice A n c, .bool wrap] 31)
    have PW := Lib.hid (put_walk A n c wrap l _ (hs.below bb hs.size) hl ((hq.below bb).up (by simp)) hc hn)
    have H := Lib.hid h
    have HL := Lib.hid hl
    have BB := Lib.hid bb
    have FH := Lib.hid hf'
    obtain ⟨p, hp⟩ : ∃ p, rows.length = p := ⟨_, rfl⟩
    rw [hp] at hm hf'
    have PL := Lib.hid hp
    have d1 : ((p : Int) == 16) = false := by simp; omega
    obtain ⟨B, hB⟩ : ∃ B, mayL l = B := ⟨_, rfl⟩
    have BH := Lib.hid hB
    clear h hf hl hq bb hs hp hB
    cases B
    · go_enter Tryd.func34, Tryd.ntmps34
      go_wp2_with fail
      refine PW.out.mono ?_
      rintro e w2 ⟨v2, rfl, h2, b2⟩
      have MF := BH.out
      rw [MF]
      have B2 := Lib.hid (BB.out.trans (b2.mono (by simp)))
      clear h2 b2 MF
      go_wp2
      go_ret
      exact ⟨false, vs, by rw [BH.out]; rfl, rfl, by simpa using H.out.below B2.out, ⟨B2.out.os, B2.out.tape, B2.out.output, B2.out.size, fun k hk _ => B2.out.block k hk⟩, fun v hv => .inl hv⟩
    · go_enter Tryd.func34, Tryd.ntmps34
      go_wp2_with fail
      refine PW.out.mono ?_
      rintro e w2 ⟨v2, rfl, h2, b2⟩
      have MF := BH.out
      rw [show putV wrap l = putL wrap l by unfold putV; rw [MF]; rfl] at h2
      rw [MF]
      obtain ⟨A2, c2, rfl⟩ := h2.shape
      have SM := mayL_small (fun x hx => (HL.out x hx).2) MF
      have LP := putL_len (wrap := wrap) SM.1 SM.2
      have B2 := Lib.hid (BB.out.trans (b2.mono (by simp)))
      have hsz := B2.out.size
      have H2 := Lib.hid (H.out.below B2.out)
      have CW := Lib.hid (fun w' (hx : Below w2.heap.size w2 w') => clone_walk A2 (putL wrap l).length c2 (putL wrap l) w' (h2.sq.below hx) hx.size (by omega))
      have m2 : w2.cell? ⟨g, 16, none⟩ = some (.int .i64 (p : Int)) := (B2.out.cell (p := ⟨g, 16, none⟩) hgl).trans hm
      have hgl2 := H2.out.lt
      have P2 := Lib.hid (show w2.cell? ⟨g, p, none⟩ = some (.slice none 0 0) by rw [H2.out.get, ← PL.out, ← H2.out.many]; exact pageCells_free (by rw [H2.out.many]; exact FH.out))
      obtain ⟨m, hmm⟩ : ∃ m, (putL wrap l).length = m := ⟨_, rfl⟩
      rw [hmm] at CW ⊢
      clear h2 b2 MF SM LP hmm
      go_wp2_with fail
      go_region_with (go_at_call 63; refine (CW.out _ (by first | exact Below.refl _ _ | exact (Below.refl _ _).drew)).mono ?_; rintro e w3 ⟨v3, rfl, h3, b3⟩; obtain ⟨A3, c3, rfl⟩ := h3.shape; (have m3 : w3.cell? ⟨g, 16, none⟩ = some (.int .i64 (p : Int)) := (b3.cell (p := ⟨g, 16, none⟩) hgl2).trans m2); (have mp : w3.cell? ⟨g, p, none⟩ = some (.slice none 0 0) := (b3.cell (p := ⟨g, p, none⟩) hgl2).trans P2.out); (have fp : w3.frozen? ⟨g, p, none⟩ = false := (b3.frozen (p := ⟨g, p, none⟩) hgl2).trans (H2.out.free p)); (have f16 : w3.frozen? ⟨g, 16, none⟩ = false := (b3.frozen (p := ⟨g, 16, none⟩) hgl2).trans (H2.out.free 16)))
      all_goals
        have b3' : Below w2.heap.size w2 w3 := by first | exact b3 | exact (Below.refl w2.heap.size w2).drew.trans b3
        have hv3 : HasB w3 w2.heap.size (.slice A3 (putL wrap l).length c3) (putL wrap l) := h3
        have B3 := Lib.hid (B2.out.trans (b3'.mono hsz))
        have H3 := Lib.hid (H2.out.below b3')
        have L3 := Lib.hid (fun k e => (World.ownsRow.lt hv3 k e).1)
        have hbase : base ≤ w2.heap.size := Nat.le_trans hb0 hsz
        have PA := Lib.hid (PageAt.add (r := (wrap, l)) H3.out FH.out (hv3.mono' hbase) (fun e => by have := L3.out g e; omega) ⟨BH.out, HL.out⟩)
        have m4 : (w3.setCell ⟨g, p, none⟩ (.slice A3 (putL wrap l).length c3)).cell? ⟨g, 16, none⟩ = some (.int .i64 (p : Int)) := by
          rw [World.cell?_setCell_other (a := ⟨g, p, none⟩) (b := ⟨g, 16, none⟩) (h := fun e => by injection e with _ e; omega)]
          exact m3
        have f4 : (w3.setCell ⟨g, p, none⟩ (.slice A3 (putL wrap l).length c3)).frozen? ⟨g, 16, none⟩ = false := by rw [World.frozen?_setCell]; exact f16
        have GB := Lib.hid (show w.grownBy ((w3.setCell ⟨g, p, none⟩ (.slice A3 (putL wrap l).length c3)).setCell ⟨g, 16, none⟩ (.int .i64 ((p + 1 : Nat) : Int))) (some g) from
          ⟨B3.out.os, B3.out.tape, B3.out.output, by simpa using B3.out.size, fun k hk hne => by
            have hkg : k ≠ g := fun e => hne (by rw [e])
            rw [Below.heap_setCell _ _ _ _ hkg, Below.heap_setCell _ _ _ _ hkg]
            exact B3.out.block k hk⟩)
        have EC : ((p + 1 : Nat) : Int) = (p : Int) + 1 := by omega
        rw [PL.out, EC] at PA
        rw [EC] at GB
        clear EC
        generalize w3.setCell ⟨g, p, none⟩ (.slice A3 (putL wrap l).length c3) = w4 at m4 f4 PA GB ⊢
        clear b3 b3' h3 hv3 m3 mp fp f16 d1
        go_wp2
        go_ret
        exact ⟨true, vs ++ [.slice A3 (putL wrap l).length c3], by rw [BH.out]; simp [FH.out], rfl, PA.out, GB.out, fun v hv => by
          rcases List.mem_append.1 hv with h | h
          · exact .inl h
          · right
            simp at h
            subst h
            intro k e
            exact Nat.le_trans hsz (L3.out k e)⟩
end Go.Proofs.YtalhlgiklochdaaDoor
namespace Go.Proofs.YtalhlgiklochdaaDoor
open Go.ChangeShapes Go.WideShapes Go.ChangeAt Go.RowKit
set_option maxRecDepth 100000 in
set_option maxHeartbeats 1600000 in
theorem pageAdd_nil (A : Option Addr) (n c : Nat) (wrap : Bool) (w : World) :
    Calls Tryd.prog 34 #[.pointer none, rowV A n c wrap] w fun e w' => e = .returned (.bool false) ∧ Below w.heap.size w w' := by
  have BB := Lib.hid ((Below.refl w.heap.size w).alloc (Nat.le_refl _) (.cells #[.slice A n c, .bool wrap] 31))
  go_enter Tryd.func34, Tryd.ntmps34
  go_wp2
  go_ret
  exact ⟨rfl, BB.out⟩
set_option maxRecDepth 100000 in
set_option maxHeartbeats 1600000 in
theorem pageBytes_nil (w : World) : Calls Tryd.prog 38 #[.pointer none] w fun e w' => e = .returned (.int .i64 0) ∧ w = w' := by
  have LW := Lib.hid (pageLen_nil w)
  go_enter Tryd.func38, Tryd.ntmps38
  go_wp2_with fail
  refine LW.out.mono ?_
  rintro e w' ⟨rfl, rfl⟩
  go_wp2_with fail
  go_loop [3, 7] (fun t i => t = .int .i64 0 ∧ i = .int .i64 0) (fun _ _ => 0)
  case atStart => exact ⟨rfl, rfl⟩
  case round =>
    obtain ⟨rfl, rfl⟩ := hrel
    go_wp2
    go_ret
    exact ⟨rfl, rfl⟩
set_option maxRecDepth 100000 in
set_option maxHeartbeats 3200000 in
theorem pageAt_nil (i : Int) (w : World) :
    Calls Tryd.prog 36 #[.pointer none, .int .i64 i] w fun e w' => AtPost none w e w' := by
  have LW := Lib.hid (pageLen_nil (w.alloc (.cells #[.slice none 0 0, .bool false] 31)))
  have RN := Lib.hid (show RowAt (w.alloc (.cells #[.slice none 0 0, .bool false] 31)) w.heap.size (.slice none 0 0) false from heap_alloc_new w _)
  have B1 := Lib.hid ((Below.refl w.heap.size w).alloc (Nat.le_refl _) (.cells #[.slice none 0 0, .bool false] 31))
  by_cases h0 : i < 0
  · clear LW
    go_enter Tryd.func36, Tryd.ntmps36
    go_wp2
    generalize w.alloc (.cells #[.slice none 0 0, .bool false] 31) = wz at RN B1 ⊢
    have e0 := RN.out.get 0
    have e1 := RN.out.get 1
    exact bodyPost_ret (v := .tuple #[.agg #[.slice none 0 0, .bool false], .bool false]) (by simp [results, Tryd.results36, go_sem, e0, e1]) rfl ⟨_, rfl, HasC.nothing _ _, B1.out⟩
  · have h1 : 0 ≤ i := by omega
    go_enter Tryd.func36, Tryd.ntmps36
    go_wp2_with fail
    refine LW.out.mono ?_
    rintro e w' ⟨rfl, rfl⟩
    clear LW
    go_wp2
    generalize w.alloc (.cells #[.slice none 0 0, .bool false] 31) = wz at RN B1 ⊢
    have e0 := RN.out.get 0
    have e1 := RN.out.get 1
    exact bodyPost_ret (v := .tuple #[.agg #[.slice none 0 0, .bool false], .bool false]) (by simp [results, Tryd.results36, go_sem, e0, e1]) rfl ⟨_, rfl, HasC.nothing _ _, B1.out⟩
set_option maxRecDepth 100000 in
set_option maxHeartbeats 1600000 in
theorem pageCut_nil (n : Int) (w : World) : Calls Tryd.prog 35 #[.pointer none, .int .i64 n] w fun e w' => e = .returned (.bool false) ∧ w = w' := by
  go_enter Tryd.func35, Tryd.ntmps35
  go_wp2
  go_ret
  exact ⟨rfl, rfl⟩
set_option maxRecDepth 100000 in
set_option maxHeartbeats 1600000 in
theorem pageCut_none (base g : Nat) (vs : List Value) (rows : List PRow) (n : Int) (w : World) (h : PageAt w base g vs rows) (hn : n < 0 ∨ rows.length < n) :
    Calls Tryd.prog 35 #[.pointer (some ⟨g, 0, none⟩), .int .i64 n] w fun e w' => e = .returned (.bool false) ∧ w = w' := by
  have hm : w.cell? ⟨g, 16, none⟩ = some (.int .i64 (rows.length : Int)) := by rw [h.get, pageCells_many _ (by rw [h.many]; exact h.few), h.many]
  obtain ⟨p, hp⟩ : ∃ p, rows.length = p := ⟨_, rfl⟩
  rw [hp] at hm hn
  clear h hp
  by_cases h0 : n < 0
  · clear hn hm
    go_enter Tryd.func35, Tryd.ntmps35
    go_wp2
    go_ret
    exact ⟨rfl, rfl⟩
  · have h1 : (p : Int) < n := by omega
    clear hn
    go_enter Tryd.func35, Tryd.ntmps35
    go_wp2
    go_ret
    exact ⟨rfl, rfl⟩
end Go.Proofs.YtalhlgiklochdaaDoor
