/-
  The statement ScreenMay: whatever events come, all rows may be, and are as wide as the screen, those that go out too. For every pair of integers (the width is taken modulo 10, the height modulo 5) and every list of signs (of which the statement reads the first 150); it holds where the table of widths is as its initialiser lays it, which the card ties to the program's text.
-/
import Derived.Test.YtaclmhopcfgbmaaGreatDoorQBegun0
import Derived.Test.YtaclmhopcfgbmaaGreatDoorQBase4
import Derived.Test.YtaclmhopcfgbmaaGreatDoorQSum0
import Derived.Test.YtaclmhopcfgbmaaGreatDoorQLaw1
import Derived.Test.YtaclmhopcfgbmaaGreatDoorQRefRow1
namespace Go.Proofs.YtaclmhopcfgbmaaGreatDoor.screenMay
open Go.ChangeShapes Go.WideShapes Go.ChangeAt Go.RowKit
open Sc Rw
theorem mod_range (x : Int) (m : Int) (hm : 0 < m) : -m < x.tmod m ∧ x.tmod m < m := by
 have h1 := Int.tmod_lt_of_pos x hm
 have h2 := Int.tmod_lt_of_pos (-x) hm
 rw [Int.neg_tmod] at h2
 omega
structure MAt (w0 : World) (p g gp wd hh : Nat) (st : Esc.St) (v : Value) (s : Scr) (xs : List RowIn) (W : World) : Prop where
 wp : Wp w0 p g s xs W
 par : Esc.RAt W gp gp v st
 low : w0.heap.size ≤ gp
 dims : s.w = wd ∧ s.rows.length = hh
namespace MAt
variable {w0 W W' : World} {p g gp wd hh : Nat} {s : Scr} {xs : List RowIn} {v : Value} {st : Esc.St}
theorem laid (h : MAt w0 p g gp wd hh st v s xs W) (hb : Below W.heap.size W W') : MAt w0 p g gp wd hh st v s xs W' := ⟨h.wp.laid hb, h.par.laid hb, h.low, h.dims⟩
theorem put (h : MAt w0 p g gp wd hh st v s xs W) (S : Spans w0) {v' : Value} {st' : Esc.St} (hp : Esc.RAt W' gp gp v' st') (ht : Turned (Esc.Own gp v) W W') : MAt w0 p g gp wd hh st' v' s xs W' := by
 have ow := fun j (m : Esc.Own gp v j) => h.par.owns m
 have hold := h.wp.old.trans (ht.toBelow h.wp.old.size (fun k hk m => by
  have hl := h.low
  rcases (ow _ m).1 with e | e <;> omega))
 refine ⟨⟨hold, h.wp.p0, h.wp.g0, h.wp.scr.kept ht (fun m => ?_) (fun m => ?_) (fun k m t => ?_), S.below hold S.size⟩, hp, h.low, h.dims⟩
 ·rcases (ow _ m).2 with t | t
  ·exact t.apart h.wp.scr.typ (by decide) rfl
  ·exact t.apart h.wp.scr.typ (by decide) rfl
 ·rcases (ow _ m).2 with t | t
  ·exact t.apart h.wp.scr.tyg (by decide) rfl
  ·exact t.apart h.wp.scr.tyg (by decide) rfl
 ·rcases (ow _ m).2 with t' | t'
  ·exact t'.apart t (by decide) rfl
  ·exact t'.apart t (by decide) rfl
theorem step (h : MAt w0 p g gp wd hh st v s xs W) {ys : List RowIn} (k r : Int) (l : List Int) (hs : ScAt W' p g (doS s k r l) ys) (hw : Went W W' p g xs ys) : MAt w0 p g gp wd hh st v (doS s k r l) ys W' :=
 ⟨h.wp.step hs hw, h.par.turned hw.turned (fun k m => by
  rcases m with rfl | rfl
  ·exact ⟨Esc.not_typed h.wp.scr.typ (by decide), Esc.not_typed h.wp.scr.typ (by decide)⟩
  ·exact ⟨Esc.not_typed h.wp.scr.tyg (by decide), Esc.not_typed h.wp.scr.tyg (by decide)⟩), h.low, by
   have := doS_dims (s := s) k r l h.wp.scr.ok.h1
   rw [this.1, this.2]
   exact h.dims⟩
end MAt
abbrev RowAt2 (W : World) (k : Nat) (x y : Int) : Prop := W.heap[k]? = some (.cells #[.int .i64 x, .int .i64 y] 68 (0, 0))
theorem RowAt2.lt {W : World} {k : Nat} {x y : Int} (h : RowAt2 W k x y) : k < W.heap.size := (Array.getElem?_eq_some_iff.1 h).1
structure Fine (W : World) (A : Option Addr) (m wd : Nat) (ys : List RowIn) : Prop where
 rd : Sc.Rd W A m ys
 each : ∀ y ∈ ys, y.n = wd ∧ mayL y.l = true ∧ ∀ c ∈ y.l, -2147483648 ≤ c.1 ∧ c.1 ≤ 2147483647
theorem Fine.laid {W W' : World} {A : Option Addr} {m wd : Nat} {ys : List RowIn} (h : Fine W A m wd ys) (hb : Below W.heap.size W W') : Fine W' A m wd ys := ⟨h.rd.below hb, h.each⟩
theorem Fine.at' {W : World} {A : Option Addr} {m wd j : Nat} {ys : List RowIn} (h : Fine W A m wd ys) (hj : j < m) : ∃ b off A' c wrap, A = some ⟨b, off, none⟩ ∧ W.cell? ⟨b, off + j * 2, none⟩ = some (.slice A' wd c) ∧ W.cell? ⟨b, off + j * 2 + 1, none⟩ = some (.bool wrap) ∧
  ∀ W', Below W.heap.size W W' → Calls Tryz.prog 28 #[rowV A' wd c wrap] W' fun e w' => e = .returned (.bool true) ∧ Below W'.heap.size W' w' := by
 have hl := h.rd.len
 obtain ⟨y, hy⟩ : ∃ y, ys[j]? = some y := ⟨_, List.getElem?_eq_getElem (by omega)⟩
 have hm := List.mem_of_getElem? hy
 obtain ⟨b, off, e, _, c0, c1⟩ := rows_at h.rd.head hy hj
 have he := h.each y hm
 refine ⟨b, off, y.A, y.c, y.wrap, e, by rw [← he.1]; exact c0, c1, fun W' hb => ?_⟩
 have hr := (h.rd.below hb).each y hm
 have := refRow_walk y.A y.n y.c y.wrap y.l W' he.2.2 hr.1 hr.2
 rw [he.2.1, he.1] at this
 exact this
theorem fine_of {W : World} {B m c wd : Nat} {A : Option Addr} {ys : List RowIn} {R : List SR} (h : RowsIn W B (.slice A m c) ys) (hn : ∀ y ∈ ys, y.n = wd) (hwd : wd ≤ 300) (hs : ys.map sr = R) (hR : ∀ x ∈ R, RowOk wd x) : Fine W A m wd ys :=
 ⟨RowsIn.rd h (fun y hy => by rw [hn y hy]; omega), fun y hy => by
  have ho := hR (sr y) (by rw [← hs]; exact List.mem_map_of_mem hy)
  exact ⟨hn y hy, mayL_row ho hwd, ho.2.2⟩⟩
set_option maxRecDepth 100000 in
set_option maxHeartbeats 12800000 in
theorem walk (x : Int) (hx : -9223372036854775808 ≤ x ∧ x ≤ 9223372036854775807) (y : Int) (hy : -9223372036854775808 ≤ y ∧ y ≤ 9223372036854775807) (A : Option Addr) (n c : Nat) (l : List Int) (_hc : n ≤ c) (_hm : c ≤ maxLen) (hr : Runes l) (w : World) (hs : Spans w) (hq : Sq w w.heap.size 1 n A (l.map (Value.int .i32))) :
  Calls Tryz.prog 10 #[.int .i64 x, .int .i64 y, .slice A n c] w fun e w' => e = .returned (.bool true) ∧ Below w.heap.size w w' := by
 have tx := (And.intro (And.intro hx hy) (mod_range x 10 (by omega))).2
 have ty := mod_range y 5 (by omega)
 have ux := mod_range (x.tmod 10 + 10) 10 (by omega)
 have uy := mod_range (y.tmod 5 + 5) 5 (by omega)
 have px := Int.tmod_nonneg 10 (show 0 ≤ x.tmod 10 + 10 by omega)
 have py := Int.tmod_nonneg 5 (show 0 ≤ y.tmod 5 + 5 by omega)
 obtain ⟨wd, hwd⟩ : ∃ wd : Nat, 2 + (x.tmod 10 + 10).tmod 10 = (wd : Int) := ⟨(2 + (x.tmod 10 + 10).tmod 10).toNat, by omega⟩
 obtain ⟨hh, hhh⟩ : ∃ hh : Nat, 1 + (y.tmod 5 + 5).tmod 5 = (hh : Int) := ⟨(1 + (y.tmod 5 + 5).tmod 5).toNat, by omega⟩
 have w2 : 2 ≤ wd := by omega
 have w11 : wd ≤ 11 := by omega
 have h1 : 1 ≤ hh := by omega
 have h5 : hh ≤ 5 := by omega
 have e1 : IntKind.i64.wrap (x.tmod 10 + 10) = x.tmod 10 + 10 := IntWalk.i64_in _ (by omega)
 have e2 : IntKind.i64.wrap (2 + (x.tmod 10 + 10).tmod 10) = (wd : Int) := by rw [hwd]; exact IntWalk.i64_in _ (by omega)
 have e3 : IntKind.i64.wrap (y.tmod 5 + 5) = y.tmod 5 + 5 := IntWalk.i64_in _ (by omega)
 have e4 : IntKind.i64.wrap (1 + (y.tmod 5 + 5).tmod 5) = (hh : Int) := by rw [hhh]; exact IntWalk.i64_in _ (by omega)
 have S := Lib.hid hs
 have Q := Lib.hid hq
 have RU := Lib.hid hr
 have LN := Lib.hid hq.size_ints
 clear hs hq hr hx hy tx ty ux uy px py hwd hhh
 go_enter Tryz.func10, Tryz.ntmps10
 go_wp2_with fail
 refine (Bg.begun7_walk w S.out).mono ?_
 rintro e w1 ⟨rfl, b1⟩
 have NW := Lib.hid (Wp.new' (w0 := w) (wd : Int) (hh : Int) b1 (S.out.below b1 S.out.size))
 clear b1
 go_wp2_with fail
 refine NW.out.mono ?_
 rintro e w2 ⟨p, g, xs, rfl, P2, _, _, _⟩
 obtain ⟨gp, hgp⟩ : ∃ gp, w2.heap.size = gp := ⟨_, rfl⟩
 obtain ⟨w3, hw3⟩ : ∃ w3, w2.alloc (.cells #[.int .i64 0, .slice none 0 0] 75) = w3 := ⟨_, rfl⟩
 have b3 : Below w2.heap.size w2 w3 := by rw [← hw3]; exact (Below.refl _ _).alloc (Nat.le_refl _) _
 have r3 : Esc.RCells w3 gp #[.int .i64 0, .slice none 0 0] := by rw [← hw3, ← hgp]; exact heap_alloc_new w2 _
 have M3 := Lib.hid (show MAt w p g gp wd hh (Esc.runS .rest (l.take 0)) (.slice none 0 0) (newS (wd : Int) (hh : Int)) xs w3 from
  ⟨P2.laid b3, ⟨r3, ⟨[], World.ownsRow_nil _ _ _ _⟩, fun t h => by cases h⟩, by have := P2.old.size; omega, by rw [(newS_dims _ _).1, (newS_dims _ _).2]; omega⟩)
 have SZ := Lib.hid (show Calls Tryz.prog 45 #[ptrS p] w3 fun e w' => e = .returned (.tuple #[.int .i64 (wd : Int), .int .i64 (hh : Int)]) ∧ Below w3.heap.size w3 w' from by
  have h := size_walk w3 M3.out.wp.scr
  rw [M3.out.dims.1, M3.out.dims.2] at h
  exact h)
 have HG := Lib.hid hgp
 have HW := Lib.hid hw3
 clear NW P2 hgp hw3 b3 r3
 go_wp2_with fail
 first
  | (rw [HW.out]; rw [HG.out])
  | rw [HW.out]
  | skip
 refine SZ.out.mono ?_
 rintro e w4 ⟨rfl, b4⟩
 have M4 := Lib.hid (M3.out.laid b4)
 clear SZ M3 b4
 go_wp2_with fail
 try rw [HG.out]
 clear HG HW
 go_loopw [12, 13, 14, 16, 17, 19] (fun i _ _ _ _ _ wr => ∃ (k : Nat) (vp : Value) (s : Scr) (ys : List RowIn), i = .int .i64 (k : Int) ∧ k ≤ n ∧ k ≤ 150 ∧ Hid (MAt w p g gp wd hh (Esc.runS .rest (l.take k)) vp s ys wr)) (fun i _ _ _ _ _ _ => n - (intOf i).toNat)
 case atStart => exact ⟨0, _, _, _, rfl, Nat.zero_le _, Nat.zero_le _, M4⟩
 case round =>
  obtain ⟨k, vp, s, ys, rfl, hk, hk150, M⟩ := hrel
  clear M4
  by_cases hlt : k < n ∧ k < 150
  ·obtain ⟨hl1, hl2⟩ := hlt
   obtain ⟨b, off, rfl, _, hc0⟩ := (Q.out.below M.out.wp.old).int_at hl1
   have hrr := RU.out.get k
   obtain ⟨r, hrk⟩ : ∃ r, nth l k = r := ⟨_, rfl⟩
   rw [hrk] at hc0 hrr
   have hsz : Esc.sizeS (Esc.runS .rest (l.take k)) ≤ 1000000 := by
    have := Esc.sizeS_run (l.take k) .rest
    have h3 : (l.take k).length ≤ k := List.length_take_le _ _
    have e0 : Esc.sizeS .rest = 0 := rfl
    omega
   have htk := take_next (l := l) (k := k) (by have := LN.out; omega)
   rw [hrk] at htk
   have NX := Lib.hid (show Esc.runS .rest (l.take (k + 1)) = Esc.stepS (Esc.runS .rest (l.take k)) r by rw [htk, Esc.runS_snoc])
   have PW := Lib.hid (Esc.rput_walk gp vp _ r wr (Nat.le_of_lt M.out.par.lt) M.out.par hsz hrr.1 hrr.2)
   obtain ⟨o, ho⟩ : ∃ o, Esc.stepE (Esc.runS .rest (l.take k)) r = o := ⟨_, rfl⟩
   rw [ho] at PW
   have EO := Lib.hid (show ∀ e, o = some e → -2147483648 ≤ e.r ∧ e.r ≤ 2147483647 ∧ (e.kind = 3 → 0 ≤ e.r ∧ e.r < 128) ∧ e.args.length ≤ 8 from fun e he => ev_ok (ho.trans he) hrr.1 hrr.2)
   have hinc : IntKind.i64.wrap ((k : Int) + 1) = (k : Int) + 1 := IntWalk.i64_in _ (by omega)
   have hk0 : (0 : Int) ≤ (k : Int) := by omega
   have hkn : (k : Int) < (n : Int) := by omega
   have hk3 : (k : Int) < 150 := by omega
   clear hrk hrr hsz htk ho
   go_wp2_with fail
   refine PW.out.mono ?_
   rintro e w4 ⟨ek, er, eA, en, ec, es, v4, rfl, hev, p4, t4⟩
   have M4 := Lib.hid (show MAt w p g gp wd hh (Esc.runS .rest (l.take (k + 1))) v4 s ys w4 by rw [NX.out]; exact M.out.put S.out p4 t4)
   have EV := Lib.hid (fun e he => And.intro (hev e he) (EO.out e he))
   obtain ⟨ge, hge⟩ : ∃ ge, w4.heap.size = ge := ⟨_, rfl⟩
   obtain ⟨w5, hw5⟩ : ∃ w5, w4.alloc (.cells #[.int .i64 ek, .int .i32 er, .slice eA en ec, .string es] 35) = w5 := ⟨_, rfl⟩
   have b5 : Below w4.heap.size w4 w5 := by rw [← hw5]; exact (Below.refl _ _).alloc (Nat.le_refl _) _
   have c5 : Esc.ECells w5 ge #[.int .i64 ek, .int .i32 er, .slice eA en ec, .string es] := by rw [← hw5, ← hge]; exact heap_alloc_new w4 _
   have M5 := Lib.hid (M4.out.laid b5)
   have HG := Lib.hid hge
   have HW := Lib.hid hw5
   have q0 : w5.cell? ⟨ge, 0, none⟩ = some (.int .i64 ek) := cell_of_row _ _ 0 _ _ (0, 0) c5
   have q1 : w5.cell? ⟨ge, 1, none⟩ = some (.int .i32 er) := cell_of_row _ _ 1 _ _ (0, 0) c5
   have q2 : w5.cell? ⟨ge, 2, none⟩ = some (.slice eA en ec) := cell_of_row _ _ 2 _ _ (0, 0) c5
   have q3 : w5.cell? ⟨ge, 3, none⟩ = some (.string es) := cell_of_row _ _ 3 _ _ (0, 0) c5
   cases o with
   | none =>
    clear hev p4 t4 PW M NX EO EV M4 hge hw5 b5 c5 q0 q1 q2 q3 hc0
    go_wp2
    rw [HW.out]
    go_roundw
    case rel => exact ⟨k + 1, v4, s, ys, by first | rfl | (congr 1; done) | (congr 1; omega), by omega, by omega, M5⟩
    case measure => first | (simp [intOf]; done) | (simp [intOf]; omega)
   | some ev =>
    obtain ⟨⟨rfl, rfl, rfl, hnum⟩, hr0, hr1, h3, h8⟩ := EV.out ev rfl
    have hlen : en ≤ 1000000 := by
     obtain ⟨A', c', e⟩ := Esc.nums_shape hnum
     injection e with _ e _
     omega
    have NU := hnum.kept (W' := w5) (fun j e => b5.block j (hnum.lt j e).2)
    have DW := Lib.hid (doAny_walk ev.kind ev.r eA en ec ⟨ev.text.toArray⟩ ev.args w5 hr0 hr1 h3 hlen M5.out.wp.spans M5.out.wp.scr (fun W zs a => nums_arg NU M5.out.wp.scr a))
    clear hev p4 t4 PW M NX EO EV M4 hge hw5 b5 c5 hc0 hnum NU hr0 hr1 h3 h8 hlen
    go_wp2_with fail
    first
     | (rw [HW.out]; rw [HG.out])
     | rw [HW.out]
     | skip
    refine DW.out.mono ?_
    rintro e w6 ⟨vo, yo, zs, rfl, a1, a2, a3, ho, hy⟩
    have M6 := Lib.hid (M5.out.step _ _ _ a1 a2)
    have hW := M5.out.dims.1
    have hok := M5.out.wp.scr.ok
    obtain ⟨Ao, co, rfl, _⟩ := a3.shape
    obtain ⟨m, hm⟩ : ∃ m, yo.length = m := ⟨_, rfl⟩
    rw [hm] at a3 ⊢
    have hm1 : m ≤ 1000000 := by
     have e := congrArg List.length ho
     rw [List.length_map, hm] at e
     have := doO_len s ev.kind ev.r
     omega
    have FI := Lib.hid (fine_of (wd := wd) a3 (fun y hy' => (hy y hy').1.trans hW) (by omega) ho (by have := doO_ok hok ev.kind ev.r; rw [hW] at this; exact this))
    obtain ⟨s6, hs6⟩ : ∃ s6, doS s ev.kind ev.r ev.args = s6 := ⟨_, rfl⟩
    rw [hs6] at M6
    clear a1 a2 a3 DW q0 q1 q2 q3 HG HW ho hy hW hok hs6 M5 hm
    go_wp2_with fail
    have B6 := Lib.hid (Below.refl w6.heap.size w6)
    go_loopw [16, 66] (fun _ j wx => ∃ q : Nat, j = .int .i64 (q : Int) ∧ q ≤ m ∧ Hid (Below w6.heap.size w6 wx)) (fun _ j _ => m - (intOf j).toNat)
    case atStart => exact ⟨0, rfl, Nat.zero_le _, B6⟩
    case round =>
     obtain ⟨q, rfl, hq, BX⟩ := hrel
     clear B6
     by_cases hqm : q < m
     ·obtain ⟨b9, off9, A9, c9, wr9, rfl, d0, d1, RW⟩ := (FI.out.laid BX.out).at' hqm
      have hq0 : (0 : Int) ≤ (q : Int) := by omega
      have hqm' : (q : Int) < (m : Int) := by omega
      have hinc2 : IntKind.i64.wrap ((q : Int) + 1) = (q : Int) + 1 := IntWalk.i64_in _ (by omega)
      obtain ⟨g7, hg7⟩ : ∃ g7, wr.heap.size = g7 := ⟨_, rfl⟩
      obtain ⟨w7, hw7⟩ : ∃ w7, wr.alloc (.cells #[.slice A9 wd c9, .bool wr9] 40) = w7 := ⟨_, rfl⟩
      have b7 : Below wr.heap.size wr w7 := by rw [← hw7]; exact (Below.refl _ _).alloc (Nat.le_refl _) _
      have r7 : RowAt w7 g7 (.slice A9 wd c9) wr9 := by rw [← hw7, ← hg7]; exact heap_alloc_new wr _
      have k0 : w7.cell? ⟨g7, 0, none⟩ = some (.slice A9 wd c9) := r7.get 0
      have k1 : w7.cell? ⟨g7, 1, none⟩ = some (.bool wr9) := r7.get 1
      have R7 := Lib.hid r7
      have RW7 := Lib.hid (RW w7 b7)
      have B7 := Lib.hid (BX.out.trans (b7.mono BX.out.size))
      have HG := Lib.hid hg7
      have HW := Lib.hid hw7
      clear RW b7 r7 hg7 hw7 BX
      go_wp2_with fail
      first
       | (rw [HW.out]; rw [HG.out])
       | rw [HW.out]
       | skip
      refine RW7.out.mono ?_
      rintro e w8 ⟨rfl, b8⟩
      have k8 : w8.cell? ⟨g7, 0, none⟩ = some (.slice A9 wd c9) := (b8.cell (p := ⟨g7, 0, none⟩) R7.out.lt).trans k0
      have B8 := Lib.hid (B7.out.trans (b8.mono B7.out.size))
      clear b8 B7 RW7 k0 k1
      go_wp2
      try rw [HG.out]
      go_roundw
      case rel => exact ⟨q + 1, by first | rfl | (congr 1; done) | (congr 1; omega), by omega, B8⟩
      case measure => first | (simp [intOf]; done) | (simp [intOf]; omega)
     ·obtain rfl : q = m := by omega
      have M7 := Lib.hid (M6.out.laid BX.out)
      have M6d := M6.out.dims
      have CW := Lib.hid (cursor_walk wr M7.out.wp.scr)
      have hrow := M7.out.wp.scr.ok.row
      have hcol := M7.out.wp.scr.ok.col
      rw [M6d.2] at hrow
      rw [M6d.1] at hcol
      have OK6 := Lib.hid M7.out.wp.scr.ok
      obtain ⟨rr, hrr⟩ : ∃ rr, s6.r = rr := ⟨_, rfl⟩
      obtain ⟨cc, hcc⟩ : ∃ cc, s6.c = cc := ⟨_, rfl⟩
      rw [hrr, hcc] at CW
      rw [hrr] at hrow
      rw [hcc] at hcol
      clear hrr hcc M6 BX FI
      go_wp2_with fail
      refine CW.out.mono ?_
      rintro e w8 ⟨rfl, b8⟩
      have M8 := Lib.hid (M7.out.laid b8)
      obtain ⟨g9, hg9⟩ : ∃ g9, w8.heap.size = g9 := ⟨_, rfl⟩
      obtain ⟨w9, hw9⟩ : ∃ w9, w8.alloc (.cells #[.int .i64 (rr : Int), .int .i64 (cc : Int)] 68) = w9 := ⟨_, rfl⟩
      have b9 : Below w8.heap.size w8 w9 := by rw [← hw9]; exact (Below.refl _ _).alloc (Nat.le_refl _) _
      have p9 : RowAt2 w9 g9 (rr : Int) (cc : Int) := by rw [← hw9, ← hg9]; exact heap_alloc_new w8 _
      have M9 := Lib.hid (M8.out.laid b9)
      have SH := Lib.hid (show Calls Tryz.prog 48 #[ptrS p] w9 fun e w' => ∃ v ys, e = .returned v ∧ Shown w9 wd s6.rows v ys w' from by
       have h := rows_walk w9 M9.out.wp.scr
       rw [M6d.1] at h
       exact h)
      have P9 := Lib.hid p9
      have HG := Lib.hid hg9
      have HW := Lib.hid hw9
      clear CW b8 M7 M8 b9 hg9 hw9 p9
      go_wp2_with fail
      first
       | (rw [HW.out]; rw [HG.out])
       | rw [HW.out]
       | skip
      refine SH.out.mono ?_
      rintro e w10 ⟨v10, us, rfl, H10⟩
      obtain ⟨A10, c10, rfl, _⟩ := H10.rows.shape
      have hul : us.length = hh := by rw [← M6d.2, ← H10.same, List.length_map]
      have M10 := Lib.hid (M9.out.laid H10.old)
      rw [hul]
      have SH2 := Lib.hid (show Calls Tryz.prog 48 #[ptrS p] w10 fun e w' => ∃ v ys, e = .returned v ∧ Shown w10 wd s6.rows v ys w' from by
       have h := rows_walk w10 M10.out.wp.scr
       rw [M6d.1] at h
       exact h)
      have c0 : w10.cell? ⟨g9, 0, none⟩ = some (.int .i64 (rr : Int)) := (H10.old.cell (p := ⟨g9, 0, none⟩) P9.out.lt).trans (cell_of_row _ _ 0 _ _ (0, 0) P9.out)
      have c1 : w10.cell? ⟨g9, 1, none⟩ = some (.int .i64 (cc : Int)) := (H10.old.cell (p := ⟨g9, 1, none⟩) P9.out.lt).trans (cell_of_row _ _ 1 _ _ (0, 0) P9.out)
      have n1 : ¬ ((rr : Int) < 0) := by omega
      have n2 : ¬ ((hh : Int) ≤ (rr : Int)) := by omega
      have n3 : ¬ ((cc : Int) < 0) := by omega
      have n4 : ¬ ((wd : Int) < (cc : Int)) := by omega
      clear SH H10 M9 HW hul
      go_wp2_with fail
      refine SH2.out.mono ?_
      rintro e w11 ⟨v11, us2, rfl, H11⟩
      obtain ⟨A11, c11, rfl, _⟩ := H11.rows.shape
      have hul : us2.length = hh := by rw [← M6d.2, ← H11.same, List.length_map]
      have FI := Lib.hid (show Fine w11 A11 hh wd us2 from by
       have h := H11.rows
       rw [hul] at h
       refine fine_of h (fun y hy => (H11.each y hy).1) (by omega) H11.same (fun x hx => ?_)
       have := OK6.out.each x hx
       rw [M6d.1] at this
       exact this)
      have M11 := Lib.hid (M10.out.laid H11.old)
      rw [hul]
      clear SH2 H11 M10 hul c0 c1 n1 n2 n3 n4 OK6 M6d P9 HG
      go_wp2_with fail
      have B11 := Lib.hid (Below.refl w11.heap.size w11)
      go_loopw [19, 113] (fun _ j wx => ∃ q : Nat, j = .int .i64 (q : Int) ∧ q ≤ hh ∧ Hid (Below w11.heap.size w11 wx)) (fun _ j _ => hh - (intOf j).toNat)
      case atStart => exact ⟨0, rfl, Nat.zero_le _, B11⟩
      case round =>
       obtain ⟨z, rfl, hz, BX⟩ := hrel
       clear B11
       by_cases hzm : z < hh
       ·obtain ⟨b9, off9, A9, c9, wr9, rfl, d0, d1, RW⟩ := (FI.out.laid BX.out).at' hzm
        have hz0 : (0 : Int) ≤ (z : Int) := by omega
        have hzm' : (z : Int) < (hh : Int) := by omega
        have hinc2 : IntKind.i64.wrap ((z : Int) + 1) = (z : Int) + 1 := IntWalk.i64_in _ (by omega)
        obtain ⟨g7, hg7⟩ : ∃ g7, wr.heap.size = g7 := ⟨_, rfl⟩
        obtain ⟨w7, hw7⟩ : ∃ w7, wr.alloc (.cells #[.slice A9 wd c9, .bool wr9] 40) = w7 := ⟨_, rfl⟩
        have b7 : Below wr.heap.size wr w7 := by rw [← hw7]; exact (Below.refl _ _).alloc (Nat.le_refl _) _
        have r7 : RowAt w7 g7 (.slice A9 wd c9) wr9 := by rw [← hw7, ← hg7]; exact heap_alloc_new wr _
        have k0 : w7.cell? ⟨g7, 0, none⟩ = some (.slice A9 wd c9) := r7.get 0
        have k1 : w7.cell? ⟨g7, 1, none⟩ = some (.bool wr9) := r7.get 1
        have R7 := Lib.hid r7
        have RW7 := Lib.hid (RW w7 b7)
        have B7 := Lib.hid (BX.out.trans (b7.mono BX.out.size))
        have HG := Lib.hid hg7
        have HW := Lib.hid hw7
        clear RW b7 r7 hg7 hw7 BX
        go_wp2_with fail
        first
         | (rw [HW.out]; rw [HG.out])
         | rw [HW.out]
         | skip
        refine RW7.out.mono ?_
        rintro e w8 ⟨rfl, b8⟩
        have k8 : w8.cell? ⟨g7, 0, none⟩ = some (.slice A9 wd c9) := (b8.cell (p := ⟨g7, 0, none⟩) R7.out.lt).trans k0
        have B8 := Lib.hid (B7.out.trans (b8.mono B7.out.size))
        clear b8 B7 RW7 k0 k1
        go_wp2
        try rw [HG.out]
        go_roundw
        case rel => exact ⟨z + 1, by first | rfl | (congr 1; done) | (congr 1; omega), by omega, B8⟩
        case measure => first | (simp [intOf]; done) | (simp [intOf]; omega)
       ·obtain rfl : z = hh := by omega
        have M12 := Lib.hid (M11.out.laid BX.out)
        clear FI M11 BX
        go_wp2
        go_roundw
        case rel => exact ⟨k + 1, v4, s6, _, by first | rfl | (congr 1; done) | (congr 1; omega), by omega, by omega, M12⟩
        case measure => first | (simp [intOf]; done) | (simp [intOf]; omega)
  ·have hno : ¬ ((k : Int) < (n : Int)) ∨ ¬ ((k : Int) < 150) := by omega
   have B := Lib.hid M.out.wp.old
   by_cases g1 : k < n
   ·have g2 : ¬ ((k : Int) < 150) := by omega
    have g3 : (k : Int) < (n : Int) := by omega
    clear hno hlt M
    go_wp2
    go_ret
    exact ⟨rfl, B.out⟩
   ·have g3 : ¬ ((k : Int) < (n : Int)) := by omega
    clear hno hlt M
    go_wp2
    go_ret
    exact ⟨rfl, B.out⟩
set_option maxRecDepth 100000 in
theorem contract (H : Type) (enc : TypeId × Value → H) (W : World) (base : Nat) (args : Array Value) (ds gs : List (DataW H)) (before : List MemPlace)
  (hval : ∀ (j : Nat) t v, Tryz.f10.params[j]? = some t → args[j]? = some v → Value.okWide Tryz.prog W .any base t v)
  (hW : DataW.Whole enc Tryz.prog Tryz.f10.params.toList Rows.screenMaySpec.vars false W args.toList ds gs before) (hL : laidMetH Tryz.prog Rows.screenMayRow.laid W) :
  Calls Tryz.prog 10 args W fun e W' => ∃ v, e = .returned v ∧ Rows.screenMaySpec.post enc Tryz.prog Tryz.f10 false true false false W args v W' := by
 have hW' := hW
 obtain ⟨p, q, hA0, hV, rfl, hfz, hnd⟩ := hW
 have hA : DataW.TrodAll enc Tryz.prog W 0 (fun _ => true) true Tryz.f10.params.toList args.toList ds p := hA0
 rw [Tryz.params10] at hA hval
 obtain ⟨v0, vs0, d0, ds0, p0, q0, hargs, rfl, rfl, h0, r0⟩ := trodAll_cons hA
 obtain ⟨v1, vs1, d1, ds1, p1, q1, rfl, rfl, rfl, h1, r1⟩ := trodAll_cons r0
 obtain ⟨v2, vs2, d2, ds2, p2, q2, rfl, rfl, rfl, h2, r2⟩ := trodAll_cons r1
 obtain ⟨rfl, rfl, rfl⟩ := trodAll_nil r2
 obtain rfl : args = #[v0, v1, v2] := by cases args; simp_all
 obtain ⟨rfl, rfl⟩ := trodVars_none hV
 obtain ⟨x, rfl, rfl, rfl, wx⟩ := open_int Tryz.underlying3 (hval 0 3 v0 rfl rfl) h0
 obtain ⟨y, rfl, rfl, rfl, wy⟩ := open_int Tryz.underlying3 (hval 1 3 v1 rfl rfl) h1
 obtain ⟨Az, nz, cz, z, rfl, hcz, hmz, hrz, hqz⟩ := open_runes (hval 2 72 v2 rfl rfl) h2
 clear hA0
 refine (walk x (wf_i64 wx) y (wf_i64 wy) Az nz cz z hcz hmz hrz W (spans_of hL) hqz).mono fun e W' ⟨he, hg⟩ => ?_
 subst he
 exact ⟨_, rfl, close rfl hW' ⟨rfl, rfl, rfl⟩ (by kernel_rfl) (by kernel_rfl) hg⟩
set_option maxRecDepth 100000 in
theorem laid_met (os : Os) : laidMet Tryz.prog Rows.screenMayRow.laid ((laidWorld os).forCall (fun _ _ => 0) ⟨#[], #[.int .i64 0, .int .i64 0, .slice none 0 0], []⟩).memory :=
 laidMet_of_run' 8 (by kernel_rfl) (by kernel_rfl)
set_option maxRecDepth 100000 in
theorem reads (os : Os) {H : Type} (enc : TypeId × Value → H) : ∃ places, DataW.whole enc Tryz.prog ((laidWorld os).forCall (fun _ _ => 0) ⟨#[], #[.int .i64 0, .int .i64 0, .slice none 0 0], []⟩).memory Tryz.f10.params.toList Rows.screenMaySpec.vars false (#[.int .i64 0, .int .i64 0, .slice none 0 0] : Array Value).toList 8 = some ([.lit (.int .i64 0), .lit (.int .i64 0), .nil], [], places) :=
 ⟨[], by kernel_rfl⟩
set_option maxRecDepth 100000 in
theorem lifted (os : Os) (started : os.Started) (H : Type) (enc : TypeId × Value → H) (F : Stop.Interp) :
  ReturnsInHanded {} Tryz.checked os 10 .any ((OpenSpec.ofChange Rows.screenMaySpec).preRow enc Tryz.prog Tryz.f10 Rows.screenMayRow.domain false Rows.screenMayRow.laid) (((OpenSpec.ofChange Rows.screenMaySpec).at F).post enc Tryz.prog Tryz.f10 false true false false) := by
 obtain ⟨places, hx⟩ := reads os enc
 refine returnsInHanded_of_row (C := Tryz.checked) (s := OpenSpec.ofChange Rows.screenMaySpec) ownNone started (by kernel_rfl) Tryz.func10
  (witness_row_at (enc := enc) (C := Tryz.checked) false (laidWorld os) #[.int .i64 0, .int .i64 0, .slice none 0 0] rfl (by kernel_rfl) (by kernel_rfl) (by kernel_rfl)
   (OpenSpec.preRow_of_cond 8 hx (by kernel_rfl) (fun k hk => by cases hk) (by kernel_rfl) (laid_met os))) ?_
 intro W base args ds gs before hval hW _ _ _ hL _ _
 exact contract H enc W base args ds gs before hval hW hL
set_option maxRecDepth 100000 in
set_option maxHeartbeats 0 in
theorem facts : joinedFacts Tryz.checked.prog 10 Tryz.f10 (OpenSpec.ofChange Rows.screenMaySpec).bare Rows.screenMayRow = true := by
 have h1 := Sum.tables.1
 have h2 := Sum.tables.2.1
 have h3 := Sum.tables.2.2
 have h4 := Sum.mayEnter
 have e1 : Rows.screenMayRow.lifted = Rows.rowSpanRow.lifted := by kernel_rfl
 have e2 : Rows.screenMayRow.make = Rows.rowSpanRow.make := by kernel_rfl
 have h5 : (Rows.screenMayRow.lifted == Tryz.checked.prog.liftsFinal) = true := by rw [e1]; exact Sum.lifts
 have h6 : (Tryz.checked.prog.make == some Rows.screenMayRow.make) = true := by rw [e2]; exact Sum.make
 unfold joinedFacts
 repeat' (with_reducible refine Sum.and_mk ?_ ?_)
 all_goals first
  | with_reducible exact h1
  | with_reducible exact h2
  | with_reducible exact h4
  | with_reducible exact h5
  | with_reducible exact h6
  | (rw [h3]; as_aux_lemma => kernel_rfl)
  | (clear h1 h2 h3 h4 h5 h6 e1 e2; as_aux_lemma => kernel_rfl)
set_option maxRecDepth 100000 in
theorem said : Rows.ScreenMaySaid :=
 OpenClaim.holds_of_cond 10 Tryz.f10 rfl rfl rfl rfl rfl rfl rfl ⟨rfl, rfl, rfl, rfl, rfl⟩ rfl rfl rfl rfl rfl (by kernel_rfl) Tryz.func10 facts
  (of_decide_eq_true (by kernel_rfl)) (by unfold Func.isWrapper; first | (rw [if_pos (by decide +kernel)]; kernel_rfl) | (rw [if_neg (by decide +kernel)]; exact ⟨rfl, rfl⟩))
  (fun os started H enc _ F => by rw [OpenClaim.pre_eq_preRow]; exact lifted os started H enc F)
set_option maxRecDepth 100000 in
theorem plain (f : FuncId) (fn : Func) (hf : Tryz.pinned.checked.prog.funcNamed "rotulus/rotuluslaw7.ScreenMay" = some f) (hfn : Tryz.pinned.checked.prog.funcs[f]? = some fn) :
  false = Tryz.pinned.checked.prog.looks [] ∧ ∀ (j : Nat) t, fn.params[j]? = some t → Tryz.pinned.checked.prog.wantsStandIn t = false := by
 obtain rfl : f = 10 := Option.some.inj ((show Tryz.prog.funcNamed "rotulus/rotuluslaw7.ScreenMay" = some 10 by kernel_rfl).symm.trans hf) |>.symm
 obtain rfl : fn = Tryz.f10 := (Option.some.inj (Tryz.func10.symm.trans hfn)).symm
 refine ⟨by kernel_rfl, fun j t ht => ?_⟩
 rw [Tryz.params10] at ht
 have hm := Array.mem_of_getElem? ht
 simp at hm
 rcases hm with rfl | rfl
 ·exact (show Tryz.prog.wantsStandIn 3 = false by kernel_rfl)
 ·exact (show Tryz.prog.wantsStandIn 72 = false by kernel_rfl)
set_option maxRecDepth 100000 in
theorem card : Rows.ScreenMayCardSaid :=
 Claim7.holds_tied_plain_at .later [] _ _ _ _ said (fun _ h => by cases h) (by kernel_rfl) (fun _ h => by cases h) screenMay_row_tie rfl ⟨rfl, rfl⟩ (by kernel_rfl) rfl plain (by kernel_rfl)
end Go.Proofs.YtaclmhopcfgbmaaGreatDoor.screenMay
