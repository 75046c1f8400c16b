/-
  The statement ScreenErase: a row that is erased up to the cursor, and from it on, is as one that is erased whole. For every text (of which the statement reads the first 60 bytes) and every integer (taken modulo 8); it holds where the table of widths is as its initialiser lays it, which the card ties to the program's text.
-/
import Derived.Test.YtaclmhopcfgbmaaGreatDoorQBegun0
import Derived.Test.YtaclmhopcfgbmaaGreatDoorQBase4
import Derived.Test.YtaclmhopcfgbmaaGreatDoorQSum0
import Derived.Test.YtaclmhopcfgbmaaGreatDoorQLaw1
namespace Go.Proofs.YtaclmhopcfgbmaaGreatDoor.screenErase
open Go.ChangeShapes Go.WideShapes Go.ChangeAt Go.RowKit
open Sc Rw
theorem mod_range (x : Int) (m : Int) (hm : 0 < m) : -m < x.tmod m ∧ x.tmod m < m := by
 have h1 := Int.tmod_lt_of_pos x hm
 have h2 := Int.tmod_lt_of_pos (-x) hm
 rw [Int.neg_tmod] at h2
 omega
theorem both_ways {w c : Nat} {x : SR} (h : RowOk w x) (hc : c < w) (h3 : w ≤ 300) : eraseR (c : Int) (w : Int) (eraseR 0 ((c : Int) + 1) x) = (blanksL w, false) := by
 have e1 := eraseR_at (k := 0) (m := c + 1) h h3 (by omega) (by omega)
 have h1 := eraseR_ok (f := 0) (t := (c : Int) + 1) h
 rw [show ((0 + (c + 1) : Nat) : Int) = (c : Int) + 1 by omega] at e1
 have e0 : eraseR ((0 : Nat) : Int) ((c : Int) + 1) x = eraseR 0 ((c : Int) + 1) x := rfl
 rw [e0] at e1
 obtain ⟨y, hy⟩ : ∃ y, eraseR 0 ((c : Int) + 1) x = y := ⟨_, rfl⟩
 rw [hy] at h1 e1 ⊢
 have e2 := eraseR_at (k := c) (m := w - c) h1 h3 (by omega) (by omega)
 rw [show c + (w - c) = w by omega, if_pos rfl] at e2
 rw [e2]
 congr 1
 refine ext_cAt (by rw [ovL_length, h1.2.1, blanksL_length]) fun i hi => ?_
 rw [ovL_length, h1.2.1] at hi
 rw [ovL_at (by rw [h1.2.1]; exact hi), cAt_blanksL]
 have hy1 : y.1 = ovL x.1 0 (blanksL (c + 1)) := congrArg Prod.fst e1
 have low : i < c + 1 → cAt y.1 i = (32, 1, 0) := fun hic => by
  rw [hy1, ovL_at (by rw [h.2.1]; omega)]
  unfold ovS
  rw [if_pos ⟨Nat.zero_le _, by rw [blanksL_length]; omega⟩, cAt_blanksL]
 unfold ovS
 rw [blanksL_length]
 by_cases h5 : c ≤ i
 ·rw [if_pos ⟨h5, by omega⟩, cAt_blanksL]
 ·rw [if_neg (by omega)]
  split
  ·rfl
  ·split
   ·rfl
   ·exact low (by omega)
theorem same {s : Scr} (h : Sc.Ok s) (hc : s.c < s.w) : (doS (doS s 3 75 [1]) 3 75 []).rows = (doS s 3 75 [2]).rows ∧ (doS (doS s 3 75 [1]) 3 75 []).r = (doS s 3 75 [2]).r ∧ (doS (doS s 3 75 [1]) 3 75 []).c = (doS s 3 75 [2]).c := by
 have hl : leaveS s = s := by
  have e : min s.c (s.w - 1) = s.c := by omega
  unfold leaveS
  rw [e]
 have e1 : doS s 3 75 [1] = eraseS s s.r 0 ((s.c : Int) + 1) := by
  show rowE (leaveS s) 1 = _
  rw [hl]; rfl
 have e2 : doS s 3 75 [2] = eraseS s s.r 0 (s.w : Int) := by
  show rowE (leaveS s) 2 = _
  rw [hl]; rfl
 have hl2 : leaveS (eraseS s s.r 0 ((s.c : Int) + 1)) = eraseS s s.r 0 ((s.c : Int) + 1) := by
  have e : min s.c (s.w - 1) = s.c := by omega
  show { eraseS s s.r 0 ((s.c : Int) + 1) with c := min s.c (s.w - 1) } = _
  rw [e]; rfl
 have e3 : doS (eraseS s s.r 0 ((s.c : Int) + 1)) 3 75 [] = eraseS (eraseS s s.r 0 ((s.c : Int) + 1)) s.r (s.c : Int) (s.w : Int) := by
  show rowE (leaveS (eraseS s s.r 0 ((s.c : Int) + 1))) 0 = _
  rw [hl2]; rfl
 rw [e1, e3, e2]
 refine ⟨?_, rfl, rfl⟩
 show (s.rows.modify s.r (eraseR 0 ((s.c : Int) + 1))).modify s.r (eraseR (s.c : Int) (s.w : Int)) = s.rows.modify s.r (eraseR 0 (s.w : Int))
 refine List.ext_getElem? fun i => ?_
 rw [List.getElem?_modify, List.getElem?_modify, List.getElem?_modify]
 cases hx : s.rows[i]? with
 | none => rfl
 | some x =>
  have hr := h.each x (List.mem_of_getElem? hx)
  simp only [Option.map_eq_map, Option.map_some]
  split
  ·rw [both_ways hr hc h.w3, eraseR_all hr (by omega) h.w3]
  ·rfl
theorem after_home {s : Scr} (h : Sc.Ok s) (l : List Int) : (doS s 3 72 l).c < (doS s 3 72 l).w := by
 have h2 := h.w2
 show (min (max (cntL l 1 - 1) 0) ((s.w : Int) - 1)).toNat < s.w
 omega
structure K (w0 : World) (p g p2 g2 bs : Nat) (s1 s2 : Scr) (k : Nat) (W : World) : Prop where
 a : ∃ xs, Wp w0 p g (if 0 < k then s2 else s1) xs W
 b : ∃ xs, Wp w0 p2 g2 (if 1 < k then s2 else s1) xs W
 list : W.heap[bs]? = some (.cells #[ptrS p, ptrS p2] 58 (0, 0))
theorem K.next {w0 W : World} {p g p2 g2 bs : Nat} {s1 : Scr} {k : Nat} {l : List Int} {n : Nat} (h : K w0 p g p2 g2 bs s1 (doS s1 3 72 l) k W) (hk : k < 2) (hp : p ≠ p2) (hg : g ≠ g2) (hl : l.length = n) (hn : n ≤ 1000000) :
  ∃ q, W.cell? ⟨bs, k, none⟩ = some (ptrS q) ∧ ∀ W4 b, Below W.heap.size W W4 → W4.heap[b]? = some (.cells (l.map (Value.int .i64)).toArray 3 (0, 0)) →
   Calls Tryz.prog 39 #[ptrS q, .agg #[.int .i64 3, .int .i32 72, .slice (some ⟨b, 0, none⟩) n n, .string ⟨#[]⟩]] W4 fun e W' => (∃ v, e = .returned v) ∧ K w0 p g p2 g2 bs s1 (doS s1 3 72 l) (k + 1) W' := by
 obtain ⟨⟨xs, ha⟩, ⟨ys, hb⟩, hls⟩ := h
 have hlt := (Array.getElem?_eq_some_iff.1 hls).1
 have hkk : k = 0 ∨ k = 1 := by omega
 rcases hkk with rfl | rfl
 ·refine ⟨p, cell_of_row _ bs 0 _ _ (0, 0) hls, fun W4 b b4 h4 => ?_⟩
  have A4 := ha.laid b4
  have B4 := hb.laid b4
  rw [if_neg (by omega)] at A4 B4
  refine (A4.do' 3 72 (some ⟨b, 0, none⟩) n n ⟨#[]⟩ l (by omega) (by omega) (fun _ => by omega) hn (fun W zs a => block_arg hl h4 A4.scr a)).mono ?_
  rintro e W5 ⟨Ao, co, zs, rfl, P5, T5⟩
  refine ⟨⟨_, rfl⟩, ⟨zs, by rw [if_pos (by omega)]; exact P5⟩, ⟨ys, by rw [if_neg (by omega)]; exact B4.beside A4 (Ne.symm hp) (Ne.symm hg) T5⟩, ?_⟩
  refine (T5.turned.block bs (Nat.lt_of_lt_of_le hlt b4.size) (fun m => ?_)).trans ((b4.block bs hlt).trans hls)
  have ty : Typed W4 58 bs := ⟨_, _, (b4.block bs hlt).trans hls⟩
  rcases m with rfl | rfl
  ·exact A4.scr.typ.apart ty (by decide) rfl
  ·exact A4.scr.tyg.apart ty (by decide) rfl
 ·refine ⟨p2, cell_of_row _ bs 1 _ _ (0, 0) hls, fun W4 b b4 h4 => ?_⟩
  have A4 := ha.laid b4
  have B4 := hb.laid b4
  rw [if_pos (by omega)] at A4
  rw [if_neg (by omega)] at B4
  refine (B4.do' 3 72 (some ⟨b, 0, none⟩) n n ⟨#[]⟩ l (by omega) (by omega) (fun _ => by omega) hn (fun W zs a => block_arg hl h4 B4.scr a)).mono ?_
  rintro e W5 ⟨Ao, co, zs, rfl, P5, T5⟩
  refine ⟨⟨_, rfl⟩, ⟨xs, by rw [if_pos (by omega)]; exact A4.beside B4 hp hg T5⟩, ⟨zs, by rw [if_pos (by omega)]; exact P5⟩, ?_⟩
  refine (T5.turned.block bs (Nat.lt_of_lt_of_le hlt b4.size) (fun m => ?_)).trans ((b4.block bs hlt).trans hls)
  have ty : Typed W4 58 bs := ⟨_, _, (b4.block bs hlt).trans hls⟩
  rcases m with rfl | rfl
  ·exact B4.scr.typ.apart ty (by decide) rfl
  ·exact B4.scr.tyg.apart ty (by decide) rfl
def Two (w0 : World) (p g p2 g2 : Nat) (s u : Scr) (W : World) : Prop := (∃ xs, Wp w0 p g s xs W) ∧ ∃ ys, Wp w0 p2 g2 u ys W
theorem Two.laid {w0 W W' : World} {p g p2 g2 : Nat} {s u : Scr} (h : Two w0 p g p2 g2 s u W) (hb : Below W.heap.size W W') : Two w0 p g p2 g2 s u W' :=
 let ⟨⟨xs, a⟩, ⟨ys, b⟩⟩ := h
 ⟨⟨xs, a.laid hb⟩, ⟨ys, b.laid hb⟩⟩
theorem Two.swap {w0 W : World} {p g p2 g2 : Nat} {s u : Scr} (h : Two w0 p g p2 g2 s u W) : Two w0 p2 g2 p g u s W := ⟨h.2, h.1⟩
theorem Two.do' {w0 W : World} {p g p2 g2 : Nat} {s u : Scr} (h : Two w0 p g p2 g2 s u W) (hp : p ≠ p2) (hg : g ≠ g2) (r : Int) (l : List Int) (hr : 0 ≤ r ∧ r < 128) {n c : Nat} {A : Option Addr} (hn : n ≤ 1000000)
  (ARG : (A = none ∧ n = 0 ∧ l = []) ∨ ∃ b, A = some ⟨b, 0, none⟩ ∧ l.length = n ∧ W.heap[b]? = some (.cells (l.map (Value.int .i64)).toArray 3 (0, 0))) :
  Calls Tryz.prog 39 #[ptrS p, .agg #[.int .i64 3, .int .i32 r, .slice A n c, .string ⟨#[]⟩]] W fun e W' => (∃ v, e = .returned v) ∧ Two w0 p g p2 g2 (doS s 3 r l) u W' := by
 obtain ⟨⟨xs, a⟩, ⟨ys, b⟩⟩ := h
 refine (a.do' 3 r A n c ⟨#[]⟩ l (by omega) (by omega) (fun _ => hr) hn (fun W' zs t => ?_)).mono ?_
 ·rcases ARG with ⟨rfl, rfl, rfl⟩ | ⟨q, rfl, hl, hq⟩
  ·exact Sq.nothing _ _ _ _
  ·exact block_arg hl hq a.scr t
 ·rintro e W' ⟨Ao, co, zs, rfl, P, T⟩
  exact ⟨⟨_, rfl⟩, ⟨zs, P⟩, ⟨ys, b.beside a (Ne.symm hp) (Ne.symm hg) T⟩⟩
theorem Two.show' {w0 W : World} {p g p2 g2 : Nat} {s u : Scr} (h : Two w0 p g p2 g2 s u W) {m : Nat} (hm : s.rows.length = m) : Calls Tryz.prog 48 #[ptrS p] W fun e W' => ∃ A c ys, e = .returned (.slice A m c) ∧ Sc.Rd W' A m ys ∧ ys.map sr = s.rows ∧ Below W.heap.size W W' := by
 obtain ⟨⟨xs, a⟩, _⟩ := h
 rw [← hm]
 exact a.show'
theorem Two.cur {w0 W : World} {p g p2 g2 : Nat} {s u : Scr} (h : Two w0 p g p2 g2 s u W) {r c : Nat} (hr : s.r = r) (hc : s.c = c) : Calls Tryz.prog 47 #[ptrS p] W fun e w' => e = .returned (.agg #[.int .i64 (r : Int), .int .i64 (c : Int)]) ∧ Below W.heap.size W w' := by
 obtain ⟨⟨xs, a⟩, _⟩ := h
 rw [← hr, ← hc]
 exact cursor_walk W a.scr
theorem Two.old {w0 W : World} {p g p2 g2 : Nat} {s u : Scr} (h : Two w0 p g p2 g2 s u W) : Below w0.heap.size w0 W := let ⟨⟨_, a⟩, _⟩ := h; a.old
theorem Two.ok {w0 W : World} {p g p2 g2 : Nat} {s u : Scr} (h : Two w0 p g p2 g2 s u W) : Sc.Ok s := let ⟨⟨_, a⟩, _⟩ := h; a.scr.ok
theorem Two.feed {w0 W : World} {p g p2 g2 : Nat} {s u : Scr} (h : Two w0 p g p2 g2 s u W) (hp : p ≠ p2) (hg : g ≠ g2) (t : ByteArray) (ht : t.size ≤ 1000) : Calls Tryz.prog 49 #[ptrS p, .string t] W fun e W' => (∃ v, e = .returned v) ∧ Two w0 p g p2 g2 (feedS s t) u W' := by
 obtain ⟨⟨xs, a⟩, ⟨ys, b⟩⟩ := h
 refine (a.feed t ht).mono ?_
 rintro e W' ⟨m, rfl, zs, P, T⟩
 exact ⟨⟨_, rfl⟩, ⟨zs, P⟩, ⟨ys, b.beside a (Ne.symm hp) (Ne.symm hg) T⟩⟩
set_option maxRecDepth 100000 in
set_option maxHeartbeats 6400000 in
theorem walk (t : ByteArray) (_ht : t.size ≤ 9223372036854775807) (x : Int) (hx : -9223372036854775808 ≤ x ∧ x ≤ 9223372036854775807) (w : World) (hs : Spans w) :
  Calls Tryz.prog 14 #[.string t, .int .i64 x] w fun e w' => e = .returned (.bool true) ∧ Below w.heap.size w w' := by
 have tx := (And.intro hx (mod_range x 8 (by omega))).2
 have ux := mod_range (x.tmod 8 + 8) 8 (by omega)
 have px := Int.tmod_nonneg 8 (show 0 ≤ x.tmod 8 + 8 by omega)
 obtain ⟨col, hcol⟩ : ∃ col, 1 + (x.tmod 8 + 8).tmod 8 = col := ⟨_, rfl⟩
 have e1 : IntKind.i64.wrap (x.tmod 8 + 8) = x.tmod 8 + 8 := IntWalk.i64_in _ (by omega)
 have e2 : IntKind.i64.wrap (1 + (x.tmod 8 + 8).tmod 8) = col := by rw [hcol]; exact IntWalk.i64_in _ (by omega)
 have S := Lib.hid hs
 clear hs hx tx ux px hcol
 go_enter Tryz.func14, Tryz.ntmps14
 go_wp2_with fail
 refine (Bg.begun7_walk w S.out).mono ?_
 rintro e w1 ⟨rfl, b1⟩
 have NW := Lib.hid (Wp.new' (w0 := w) 8 2 b1 (S.out.below b1 S.out.size))
 clear b1
 go_wp2_with fail
 refine NW.out.mono ?_
 rintro e w2 ⟨p, g, xs, rfl, P2, _, _, _⟩
 have P2' := Lib.hid P2
 have NW := Lib.hid (Wp.new' (w0 := w) 8 2 P2.old P2.spans)
 clear P2
 go_wp2_with fail
 refine NW.out.mono ?_
 rintro e w3 ⟨p2, g2, xs2, rfl, P3, hp, hg, b3⟩
 have T3 := Lib.hid (show Two w p g p2 g2 (newS 8 2) (newS 8 2) w3 from ⟨⟨_, P2'.out.laid b3⟩, ⟨_, P3⟩⟩)
 have HP := Lib.hid (show p ≠ p2 by have := P2'.out.scr.ltp; omega)
 have HG := Lib.hid (show g ≠ g2 by have := P2'.out.scr.ltg; omega)
 clear NW P2' P3 hp hg b3
 go_wp2_with fail
 refine (short_walk t 60 w3).mono ?_
 rintro e w' ⟨rfl, rfl⟩
 have hz : (shortS t 60).size ≤ 1000 := by have := shortS_size t 60; omega
 have F := Lib.hid (T3.out.feed HP.out HG.out (shortS t 60) hz)
 go_wp2_with fail
 refine F.out.mono ?_
 rintro e w4 ⟨⟨v4, rfl⟩, T4⟩
 have T4' := Lib.hid T4
 clear F T4
 go_wp2_with fail
 refine (short_walk t 60 w4).mono ?_
 rintro e w' ⟨rfl, rfl⟩
 have F := Lib.hid (T4'.out.swap.feed (Ne.symm HP.out) (Ne.symm HG.out) (shortS t 60) hz)
 go_wp2_with fail
 refine F.out.mono ?_
 rintro e w5 ⟨⟨v5, rfl⟩, T5⟩
 obtain ⟨s1, hs1⟩ : ∃ s1, feedS (newS 8 2) (shortS t 60) = s1 := ⟨_, rfl⟩
 have D1 := Lib.hid (show s1.w = 8 ∧ s1.rows.length = 2 by
  have := feedS_dims (s := newS 8 2) (shortS t 60) (by rw [(newS_dims 8 2).2]; decide)
  rw [hs1, (newS_dims 8 2).1, (newS_dims 8 2).2] at this
  exact this)
 rw [hs1] at T5
 obtain ⟨bs, hbs⟩ : ∃ bs, w5.heap.size = bs := ⟨_, rfl⟩
 obtain ⟨w6, hw6⟩ : ∃ w6, w5.alloc (.cells #[ptrS p, ptrS p2] 58) = w6 := ⟨_, rfl⟩
 have K0 := Lib.hid (show K w p g p2 g2 bs s1 (doS s1 3 72 [1, col]) 0 w6 from by
  have T6 := T5.swap.laid (W' := w6) (by rw [← hw6]; exact (Below.refl _ _).alloc (Nat.le_refl _) _)
  exact ⟨T6.1, T6.2, by rw [← hw6, ← hbs]; exact heap_alloc_new w5 _⟩)
 have HB := Lib.hid hbs
 have HW := Lib.hid hw6
 clear F T5 T4' T3 hs1 hz hbs hw6
 go_wp2_with fail
 rw [HB.out]
 change Code.wp _ _ _ _ (w5.alloc (.cells #[ptrS p, ptrS p2] 58))
 rw [HW.out]
 clear HB HW
 go_loopw [9, 32] (fun _ i wr => ∃ k : Nat, i = .int .i64 (k : Int) ∧ k ≤ 2 ∧ Hid (K w p g p2 g2 bs s1 (doS s1 3 72 [1, col]) k wr)) (fun _ i _ => 2 - (intOf i).toNat)
 case atStart => exact ⟨0, rfl, by omega, K0⟩
 case round =>
  obtain ⟨k, rfl, hk, KK⟩ := hrel
  clear K0
  by_cases hlt : k < 2
  ·obtain ⟨q, hq, DQ⟩ := KK.out.next (n := 2) hlt HP.out HG.out rfl (by omega)
   have DQ' := Lib.hid DQ
   have hk0 : (0 : Int) ≤ (k : Int) := by omega
   have hk2 : (k : Int) < 2 := by omega
   have hinc : IntKind.i64.wrap ((k : Int) + 1) = (k : Int) + 1 := IntWalk.i64_in _ (by omega)
   obtain ⟨b, hb⟩ : ∃ b, wr.heap.size = b := ⟨_, rfl⟩
   obtain ⟨w7, hw7⟩ : ∃ w7, wr.alloc (.cells #[.int .i64 1, .int .i64 col] 3) = w7 := ⟨_, rfl⟩
   have DO := Lib.hid (DQ'.out w7 b (by rw [← hw7]; exact (Below.refl _ _).alloc (Nat.le_refl _) _) (by rw [← hw7, ← hb]; exact heap_alloc_new wr _))
   have HB := Lib.hid hb
   have HW := Lib.hid hw7
   clear DQ DQ' KK hb hw7
   go_wp2_with fail
   first
    | (rw [HW.out]; rw [HB.out])
    | rw [HW.out]
    | skip
   refine DO.out.mono ?_
   rintro e w8 ⟨⟨v8, rfl⟩, K8⟩
   have K8' := Lib.hid K8
   clear DO K8 HB HW hq
   go_wp2
   go_roundw
   case rel => exact ⟨k + 1, by first | rfl | (congr 1; done) | (congr 1; omega), by omega, K8'⟩
   case measure => first | (simp [intOf]; done) | (simp [intOf]; omega)
  ·obtain rfl : k = 2 := by omega
   obtain ⟨s2, hs2⟩ : ∃ s2, doS s1 3 72 [1, col] = s2 := ⟨_, rfl⟩
   have T := Lib.hid (show Two w p g p2 g2 s2 s2 wr from by
    have h := KK.out
    rw [hs2] at h
    exact ⟨h.a, h.b⟩)
   have C2 := Lib.hid (show s2.c < s2.w ∧ s2.rows.length = 2 from by
    have h1 := D1.out
    rw [← hs2]
    obtain ⟨xs, h⟩ := KK.out.a
    have h2 : 2 ≤ s1.w := by omega
    refine ⟨?_, by rw [(doS_dims 3 72 [1, col] (by omega)).2]; exact h1.2⟩
    show (min (max (cntL [1, col] 1 - 1) 0) ((s1.w : Int) - 1)).toNat < s1.w
    omega)
   have SM := Lib.hid (same T.out.ok C2.out.1)
   clear KK D1 hs2
   obtain ⟨b, hb⟩ : ∃ b, wr.heap.size = b := ⟨_, rfl⟩
   obtain ⟨w7, hw7⟩ : ∃ w7, wr.alloc (.cells #[.int .i64 1] 3) = w7 := ⟨_, rfl⟩
   have DO := Lib.hid ((T.out.laid (W' := w7) (by rw [← hw7]; exact (Below.refl _ _).alloc (Nat.le_refl _) _)).do' HP.out HG.out 75 [1] (n := 1) (c := 1) (A := some ⟨b, 0, none⟩) (by omega) (by omega) (.inr ⟨b, rfl, rfl, by rw [← hw7, ← hb]; exact heap_alloc_new wr _⟩))
   have HB := Lib.hid hb
   have HW := Lib.hid hw7
   clear T hb hw7
   go_wp2_with fail
   first
    | (rw [HW.out]; rw [HB.out])
    | rw [HW.out]
    | skip
   refine DO.out.mono ?_
   rintro e w8 ⟨⟨v8, rfl⟩, T8⟩
   have DO2 := Lib.hid (T8.do' HP.out HG.out 75 [] (n := 0) (c := 0) (A := none) (by omega) (by omega) (.inl ⟨rfl, rfl, rfl⟩))
   clear DO T8 HB HW
   go_wp2_with fail
   refine DO2.out.mono ?_
   rintro e w9 ⟨⟨v9, rfl⟩, T9⟩
   obtain ⟨b, hb⟩ : ∃ b, w9.heap.size = b := ⟨_, rfl⟩
   obtain ⟨w10, hw10⟩ : ∃ w10, w9.alloc (.cells #[.int .i64 2] 3) = w10 := ⟨_, rfl⟩
   have DO3 := Lib.hid ((T9.swap.laid (W' := w10) (by rw [← hw10]; exact (Below.refl _ _).alloc (Nat.le_refl _) _)).do' (Ne.symm HP.out) (Ne.symm HG.out) 75 [2] (n := 1) (c := 1) (A := some ⟨b, 0, none⟩) (by omega) (by omega) (.inr ⟨b, rfl, rfl, by rw [← hw10, ← hb]; exact heap_alloc_new w9 _⟩))
   have HB := Lib.hid hb
   have HW := Lib.hid hw10
   clear DO2 T9 hb hw10
   go_wp2_with fail
   first
    | (rw [HW.out]; rw [HB.out])
    | rw [HW.out]
    | skip
   refine DO3.out.mono ?_
   rintro e w11 ⟨⟨v11, rfl⟩, T11⟩
   obtain ⟨sa, hsa⟩ : ∃ sa, doS (doS s2 3 75 [1]) 3 75 [] = sa := ⟨_, rfl⟩
   obtain ⟨ub, hub⟩ : ∃ ub, doS s2 3 75 [2] = ub := ⟨_, rfl⟩
   rw [hsa, hub] at SM T11
   have LU : ub.rows.length = 2 := by rw [← hub, (doS_dims 3 75 [2] (by have := C2.out.2; omega)).2]; exact C2.out.2
   have LS : sa.rows.length = 2 := by rw [SM.out.1]; exact LU
   have T11' := Lib.hid T11
   have SH := Lib.hid (T11.swap.show' LS)
   clear DO3 T11 HB HW hsa hub C2
   go_wp2_with fail
   refine SH.out.mono ?_
   rintro e w12 ⟨A12, c12, vs, rfl, R12, e12, b12⟩
   have T12 := Lib.hid (T11'.out.laid b12)
   have SH2 := Lib.hid (T12.out.show' LU)
   have R12' := Lib.hid (And.intro R12 e12)
   clear SH R12 e12 b12 T11'
   go_wp2_with fail
   refine SH2.out.mono ?_
   rintro e w13 ⟨A13, c13, us, rfl, R13, e13, b13⟩
   have T13 := Lib.hid (T12.out.laid b13)
   have EQ := Lib.hid (eqRows_walk A12 A13 2 c12 c13 vs us w13 (by omega) (R12'.out.1.below b13) R13 (by rw [R12'.out.2, e13]; exact SM.out.1))
   clear SH2 R13 e13 b13 T12 R12'
   go_wp2_with fail
   refine EQ.out.mono ?_
   rintro e w14 ⟨rfl, b14⟩
   have T14 := Lib.hid (T13.out.laid b14)
   obtain ⟨r, hr⟩ : ∃ r, ub.r = r := ⟨_, rfl⟩
   obtain ⟨c, hc⟩ : ∃ c, ub.c = c := ⟨_, rfl⟩
   have CW := Lib.hid (T14.out.swap.cur (SM.out.2.1.trans hr) (SM.out.2.2.trans hc))
   have HR := Lib.hid (And.intro hr hc)
   clear EQ b14 T13 hr hc
   go_wp2_with fail
   refine CW.out.mono ?_
   rintro e w15 ⟨rfl, b15⟩
   have T15 := Lib.hid (T14.out.laid b15)
   have CW2 := Lib.hid (T15.out.cur HR.out.1 HR.out.2)
   clear CW b15 T14
   go_wp2_with fail
   refine CW2.out.mono ?_
   rintro e w16 ⟨rfl, b16⟩
   have B16 := Lib.hid (T15.out.laid b16).old
   clear CW2 b16 T15 SM
   have hE : ∀ w, (binOp .eql 68 (.agg #[.int .i64 (r : Int), .int .i64 (c : Int)]) (.agg #[.int .i64 (r : Int), .int .i64 (c : Int)])).run Tryz.prog w = .ok (.bool true) w := eql_pos _ _
   go_wp2
   go_ret
   exact ⟨rfl, B16.out⟩
set_option maxRecDepth 100000 in
theorem contract (H : Type) (enc : TypeId × Value → H) (W : World) (base : Nat) (args : Array Value) (ds gs : List (DataW H)) (before : List MemPlace)
  (hval : ∀ (j : Nat) t v, Tryz.f14.params[j]? = some t → args[j]? = some v → Value.okWide Tryz.prog W .any base t v)
  (hW : DataW.Whole enc Tryz.prog Tryz.f14.params.toList Rows.screenEraseSpec.vars false W args.toList ds gs before) (hL : laidMetH Tryz.prog Rows.screenEraseRow.laid W) :
  Calls Tryz.prog 14 args W fun e W' => ∃ v, e = .returned v ∧ Rows.screenEraseSpec.post enc Tryz.prog Tryz.f14 false true false false W args v W' := by
 have hW' := hW
 obtain ⟨p, q, hA0, hV, rfl, hfz, hnd⟩ := hW
 have hA : DataW.TrodAll enc Tryz.prog W 0 (fun _ => true) true Tryz.f14.params.toList args.toList ds p := hA0
 rw [Tryz.params14] at hA hval
 obtain ⟨v0, vs0, d0, ds0, p0, q0, hargs, rfl, rfl, h0, r0⟩ := trodAll_cons hA
 obtain ⟨v1, vs1, d1, ds1, p1, q1, rfl, rfl, rfl, h1, r1⟩ := trodAll_cons r0
 obtain ⟨rfl, rfl, rfl⟩ := trodAll_nil r1
 obtain rfl : args = #[v0, v1] := by cases args; simp_all
 obtain ⟨rfl, rfl⟩ := trodVars_none hV
 obtain ⟨x, rfl, rfl, rfl, wx⟩ := Go.ChangeMaps.open_string Tryz.underlying9 (hval 0 9 v0 rfl rfl) h0
 obtain ⟨y, rfl, rfl, rfl, wy⟩ := open_int Tryz.underlying3 (hval 1 3 v1 rfl rfl) h1
 clear hA0
 refine (walk x wx y (wf_i64 wy) W (spans_of hL) ).mono fun e W' ⟨he, hg⟩ => ?_
 subst he
 exact ⟨_, rfl, close rfl hW' ⟨rfl, rfl, rfl⟩ (by kernel_rfl) (by kernel_rfl) hg⟩
set_option maxRecDepth 100000 in
theorem laid_met (os : Os) : laidMet Tryz.prog Rows.screenEraseRow.laid ((laidWorld os).forCall (fun _ _ => 0) ⟨#[], #[.string .empty, .int .i64 0], []⟩).memory :=
 laidMet_of_run' 8 (by kernel_rfl) (by kernel_rfl)
set_option maxRecDepth 100000 in
theorem reads (os : Os) {H : Type} (enc : TypeId × Value → H) : ∃ places, DataW.whole enc Tryz.prog ((laidWorld os).forCall (fun _ _ => 0) ⟨#[], #[.string .empty, .int .i64 0], []⟩).memory Tryz.f14.params.toList Rows.screenEraseSpec.vars false (#[.string .empty, .int .i64 0] : Array Value).toList 8 = some ([.lit (.string []), .lit (.int .i64 0)], [], places) :=
 ⟨[], by kernel_rfl⟩
set_option maxRecDepth 100000 in
theorem lifted (os : Os) (started : os.Started) (H : Type) (enc : TypeId × Value → H) (F : Stop.Interp) :
  ReturnsInHanded {} Tryz.checked os 14 .any ((OpenSpec.ofChange Rows.screenEraseSpec).preRow enc Tryz.prog Tryz.f14 Rows.screenEraseRow.domain false Rows.screenEraseRow.laid) (((OpenSpec.ofChange Rows.screenEraseSpec).at F).post enc Tryz.prog Tryz.f14 false true false false) := by
 obtain ⟨places, hx⟩ := reads os enc
 refine returnsInHanded_of_row (C := Tryz.checked) (s := OpenSpec.ofChange Rows.screenEraseSpec) ownNone started (by kernel_rfl) Tryz.func14
  (witness_row_at (enc := enc) (C := Tryz.checked) false (laidWorld os) #[.string .empty, .int .i64 0] rfl (by kernel_rfl) (by kernel_rfl) (by kernel_rfl)
   (OpenSpec.preRow_of_cond 8 hx (by kernel_rfl) (fun k hk => by cases hk) (by kernel_rfl) (laid_met os))) ?_
 intro W base args ds gs before hval hW _ _ _ hL _ _
 exact contract H enc W base args ds gs before hval hW hL
set_option maxRecDepth 100000 in
set_option maxHeartbeats 0 in
theorem facts : joinedFacts Tryz.checked.prog 14 Tryz.f14 (OpenSpec.ofChange Rows.screenEraseSpec).bare Rows.screenEraseRow = true := by
 have h1 := Sum.tables.1
 have h2 := Sum.tables.2.1
 have h3 := Sum.tables.2.2
 have h4 := Sum.mayEnter
 have e1 : Rows.screenEraseRow.lifted = Rows.rowSpanRow.lifted := by kernel_rfl
 have e2 : Rows.screenEraseRow.make = Rows.rowSpanRow.make := by kernel_rfl
 have h5 : (Rows.screenEraseRow.lifted == Tryz.checked.prog.liftsFinal) = true := by rw [e1]; exact Sum.lifts
 have h6 : (Tryz.checked.prog.make == some Rows.screenEraseRow.make) = true := by rw [e2]; exact Sum.make
 unfold joinedFacts
 repeat' (with_reducible refine Sum.and_mk ?_ ?_)
 all_goals first
  | with_reducible exact h1
  | with_reducible exact h2
  | with_reducible exact h4
  | with_reducible exact h5
  | with_reducible exact h6
  | (rw [h3]; as_aux_lemma => kernel_rfl)
  | (clear h1 h2 h3 h4 h5 h6 e1 e2; as_aux_lemma => kernel_rfl)
set_option maxRecDepth 100000 in
theorem said : Rows.ScreenEraseSaid :=
 OpenClaim.holds_of_cond 14 Tryz.f14 rfl rfl rfl rfl rfl rfl rfl ⟨rfl, rfl, rfl, rfl, rfl⟩ rfl rfl rfl rfl rfl (by kernel_rfl) Tryz.func14 facts
  (of_decide_eq_true (by kernel_rfl)) (by unfold Func.isWrapper; first | (rw [if_pos (by decide +kernel)]; kernel_rfl) | (rw [if_neg (by decide +kernel)]; exact ⟨rfl, rfl⟩))
  (fun os started H enc _ F => by rw [OpenClaim.pre_eq_preRow]; exact lifted os started H enc F)
set_option maxRecDepth 100000 in
theorem plain (f : FuncId) (fn : Func) (hf : Tryz.pinned.checked.prog.funcNamed "rotulus/rotuluslaw7.ScreenErase" = some f) (hfn : Tryz.pinned.checked.prog.funcs[f]? = some fn) :
  false = Tryz.pinned.checked.prog.looks [] ∧ ∀ (j : Nat) t, fn.params[j]? = some t → Tryz.pinned.checked.prog.wantsStandIn t = false := by
 obtain rfl : f = 14 := Option.some.inj ((show Tryz.prog.funcNamed "rotulus/rotuluslaw7.ScreenErase" = some 14 by kernel_rfl).symm.trans hf) |>.symm
 obtain rfl : fn = Tryz.f14 := (Option.some.inj (Tryz.func14.symm.trans hfn)).symm
 refine ⟨by kernel_rfl, fun j t ht => ?_⟩
 rw [Tryz.params14] at ht
 have hm := Array.mem_of_getElem? ht
 simp at hm
 rcases hm with rfl | rfl
 ·exact (show Tryz.prog.wantsStandIn 9 = false by kernel_rfl)
 ·exact (show Tryz.prog.wantsStandIn 3 = false by kernel_rfl)
set_option maxRecDepth 100000 in
theorem card : Rows.ScreenEraseCardSaid :=
 Claim7.holds_tied_plain_at .later [] _ _ _ _ said (fun _ h => by cases h) (by kernel_rfl) (fun _ h => by cases h) screenErase_row_tie rfl ⟨rfl, rfl⟩ (by kernel_rfl) rfl plain (by kernel_rfl)
end Go.Proofs.YtaclmhopcfgbmaaGreatDoor.screenErase
