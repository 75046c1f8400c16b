import Derived.Test.YtgcfpfhmjhkgnaaGreatDoorCards
import Derived.Test.YtgcfpfhmjhkgnaaGreatDoorTie
import Derived.Test.YtgcfpfhmjhkgnaaGreatDoorQLaw0
import Derived.Test.YtgcfpfhmjhkgnaaGreatDoorQEsc1
set_option maxRecDepth 100000
set_option maxHeartbeats 1600000
namespace Go.Proofs.YtgcfpfhmjhkgnaaGreatDoor
open Go.ChangeShapes Go.WideShapes Go.ChangeAt Go.RowKit
theorem begun_walk (w : World) (hs : Spans w) : Calls Tryz.prog 126 #[] w fun e w' => e = .returned (.bool true) ∧ Below w.heap.size w w' := by
 have RD1 : Rd (w.alloc (.cells #[.int .i32 0, .int .i64 0, .int .i64 0, .int .u8 0, .int .u8 0] 162)) w.heap.size st0 := ⟨heap_alloc_new w _, st0_ok⟩
 have B1 := (Below.refl w.heap.size w).alloc (Nat.le_refl _) (.cells #[.int .i32 0, .int .i64 0, .int .i64 0, .int .u8 0, .int .u8 0] 162)
 have R := Lib.hid (And.intro RD1 B1)
 have S := Lib.hid hs
 clear RD1 B1 hs
 go_enter Tryz.func126, Tryz.ntmps126
 go_wp2_with fail
 refine (put_any w.heap.size 195 (by omega) (by omega) _ st0 R.out.1).mono ?_
 rintro e w2 ⟨va, rfl, ha, rd2, kp2, _⟩
 rw [st_195.1] at rd2
 rw [st_195.2] at ha
 obtain ⟨Aa, ca, rfl⟩ := ha.shape
 have R2 := Lib.hid (And.intro rd2 (R.out.2.trans (kp2.below (B := w.heap.size) (by simp) (fun k e => by injection e with e; omega) (fun k e => by simp [Value.ownBlock] at e))))
 clear rd2 kp2 ha R
 go_wp2_with fail
 refine (put_any w.heap.size 169 (by omega) (by omega) _ _ R2.out.1).mono ?_
 rintro e w3 ⟨vb, rfl, hb, rd3, kp3, _⟩
 rw [st_169.1] at rd3
 rw [st_169.2] at hb
 obtain ⟨gb, cb, rfl, _, _, hgb, hcb⟩ := own_at hb (by simp)
 have hb0 := hcb 0 _ rfl
 have R3 := Lib.hid (And.intro rd3 (And.intro (R2.out.2.trans (kp3.below (B := w.heap.size) R2.out.2.size (fun k e => by injection e with e; omega) (fun k e => by simp [Value.ownBlock] at e))) (And.intro hb0 hgb)))
 clear rd3 kp3 hb hcb R2 hb0 hgb
 go_wp2_with fail
 refine (all_walk _ (by decide) _).mono ?_
 rintro e w4 ⟨vl, rfl, hl, bl4⟩
 rw [theL_all] at hl
 obtain ⟨gl, cl, rfl, _, _, hgl, hcl⟩ := own_at (show w4.ownsRow w3.heap.size 21 1 vl 3 (theL.map (Value.int .i32)) from hl) (by omega)
 have R4 := Lib.hid (And.intro bl4 (And.intro hgl hcl))
 clear bl4 hl hgl hcl
 go_wp2_with fail
 have S4 := S.out.below (R3.out.2.1.trans (R4.out.1.mono R3.out.2.1.size)) S.out.size
 refine (cellOf_walk 20013 3 (by omega) (by omega) _ S4).mono ?_
 rintro e w5 ⟨vc, rfl, hc, bl5⟩
 rw [theC_of] at hc
 obtain ⟨gc, cc, rfl, hcc, _, hgc, hcells⟩ := own_at (show w5.ownsRow w4.heap.size 33 3 vc 2 (flat theC) from hc) (by omega)
 have BG : Beg w.heap.size gb gl gc w5 := by
  have b3 := R3.out
  have b4 := R4.out
  exact ⟨S4.below bl5 S4.size, ⟨(bl5.block _ (Nat.lt_of_lt_of_le b3.1.lt b4.1.size)).trans ((b4.1.block _ b3.1.lt).trans b3.1.row), st0_ok⟩,
   (bl5.cell (p := ⟨gb, 0, none⟩) (Nat.lt_of_lt_of_le b3.2.2.2 b4.1.size)).trans ((b4.1.cell (p := ⟨gb, 0, none⟩) b3.2.2.2).trans b3.2.2.1),
   fun j u hu => (bl5.cell (p := ⟨gl, j, none⟩) b4.2.1).trans (b4.2.2 j u hu), hcells, Nat.lt_of_lt_of_le b3.2.2.2 (Nat.le_trans b4.1.size bl5.size), Nat.lt_of_lt_of_le b4.2.1 bl5.size, hgc⟩
 have B5 : Below w.heap.size w w5 := by
  have h3 := R3.out.2.1
  have h4 := h3.trans (R4.out.1.mono h3.size)
  exact h4.trans (bl5.mono h4.size)
 have R5 := Lib.hid (BB.mk BG B5)
 clear R3 R4 S S4 hc bl5 hgc hcells BG B5
 go_wp2_with fail
 refine begun_region (ca := ca) (cb := cb) (cl := cl) (cc := cc) (Aa := Aa) ⟨by kernel_rfl, by kernel_rfl⟩ (by kernel_rfl) (fun k hk => by rcases hk with rfl | rfl | rfl <;> kernel_rfl) (fun _ _ _ _ _ h => h) hcc _ _ ⟨rfl, rfl, rfl, rfl, rfl, rfl, rfl⟩ R5.out ?_
 intro a6 w6 h0 hd h6
 have R6 := Lib.hid h6.old
 have H0 := Lib.hid h0
 clear h6 h0 R5
 go_wp2
 refine bodyPost_ret (v := .bool true) ?_ hd ⟨rfl, R6.out⟩
 have e := H0.out
 unfold Chain.At at e
 simp [results, Tryz.results126, go_sem, e]
theorem ownNone : ownKnob Tryz.prog.godebug = none := by kernel_rfl
def spanCells : Array Value := #[.int .i32 (-2147483648), .int .i32 31, .int .i64 0, .int .i32 127, .int .i32 159, .int .i64 0, .int .i32 768, .int .i32 879, .int .i64 0, .int .i32 4352, .int .i32 4447, .int .i64 2, .int .i32 8203, .int .i32 8207, .int .i64 0, .int .i32 11904, .int .i32 12350, .int .i64 2, .int .i32 12353, .int .i32 13311, .int .i64 2, .int .i32 13312, .int .i32 19903, .int .i64 2, .int .i32 19968, .int .i32 40959, .int .i64 2, .int .i32 40960, .int .i32 42191, .int .i64 2, .int .i32 44032, .int .i32 55203, .int .i64 2, .int .i32 55296, .int .i32 57343, .int .i64 0, .int .i32 63744, .int .i32 64255, .int .i64 2, .int .i32 65024, .int .i32 65039, .int .i64 0, .int .i32 65072, .int .i32 65135, .int .i64 2, .int .i32 65280, .int .i32 65376, .int .i64 2, .int .i32 65504, .int .i32 65510, .int .i64 2, .int .i32 127744, .int .i32 128591, .int .i64 2, .int .i32 129280, .int .i32 129535, .int .i64 2, .int .i32 131072, .int .i32 262141, .int .i64 2, .int .i32 1114112, .int .i32 2147483647, .int .i64 0]
noncomputable def laidWorld (os : Os) : World :=
 {World.holding Tryz.prog os ⟨#[], #[], []⟩ with heap := (World.holding Tryz.prog os ⟨#[], #[], []⟩).heap.modify 0 fun
   | .cells _ t frozen => .cells spanCells t frozen
   | o => o }
namespace Sc
open Rw
end Sc
theorem cellsEvent : Tryz.prog.cellsOf 43 = 4 := by kernel_rfl
theorem cellsNums : Tryz.prog.cellsOf 41 = 1 := by kernel_rfl
theorem cellsStr : Tryz.prog.cellsOf 9 = 1 := by kernel_rfl
structure EvIn where
 k : Int
 r : Int
 A : Option Addr
 n : Nat
 c : Nat
 l : List Int
 t : ByteArray
structure EvIn.Ok (W : World) (B : Nat) (x : EvIn) : Prop where
 r0 : -2147483648 ≤ x.r
 r1 : x.r ≤ 2147483647
 le : x.n ≤ x.c
 cap : x.c ≤ maxLen
 nums : ∀ y ∈ x.l, -9223372036854775808 ≤ y ∧ y ≤ 9223372036854775807
 sq : Sq W B 1 x.n x.A (x.l.map (Value.int .i64))
def EvIn.vals (x : EvIn) : List Value := [.int .i64 x.k, .int .i32 x.r, .slice x.A x.n x.c, .string x.t]
theorem EvIn.Ok.below {W W' : World} {B : Nat} {x : EvIn} (h : x.Ok W B) (hb : Below B W W') : x.Ok W' B := ⟨h.r0, h.r1, h.le, h.cap, h.nums, h.sq.below hb⟩
theorem EvIn.Ok.up {W : World} {B B' : Nat} {x : EvIn} (h : x.Ok W B) (hb : B ≤ B') : x.Ok W B' := ⟨h.r0, h.r1, h.le, h.cap, h.nums, h.sq.up hb⟩
section
variable {H : Type} {enc : TypeId × Value → H} {W : World} {base : Nat} {sp : Nat → Bool}
theorem nums_parts {fuel : Nat} {cs : List Value} {x : DataW H × List MemPlace} (hf : DataW.trod enc Tryz.prog W base sp true fuel 41 cs = some x) :
  ∃ (A : Option Addr) (n c : Nat) (l : List Int), cs = [.slice A n c] ∧ n ≤ c ∧ c ≤ maxLen ∧ (∀ y ∈ l, -9223372036854775808 ≤ y ∧ y ≤ 9223372036854775807) ∧ Sq W W.heap.size 1 n A (l.map (Value.int .i64)) := by
 rcases open_ints Tryz.underlying41 Tryz.underlying3 cellsI hf with ⟨hcs, _⟩ | ⟨a, len, cap, zs, hcs, _, hl, hm, hz, _, hcell, hwz⟩
 ·exact ⟨none, 0, 0, [], hcs, Nat.le_refl _, Nat.zero_le _, (fun r h => by cases h), Sq.nothing _ _ _ _⟩
 ·have hzl : len ≤ zs.length := by rw [hz]; split <;> omega
  refine ⟨some a, len, cap, zs.take len, hcs, hl, hm, fun r h => wf_i64 (hwz r (List.mem_of_mem_take h)), ⟨by simp; omega, fun hn => ?_⟩⟩
  obtain ⟨b, off, rfl, hc⟩ := ints_at hcell (by omega)
  refine ⟨b, off, rfl, World.block_lt_of_cell? W _ (hc 0 (by omega)), fun j u hu => ?_⟩
  rw [List.getElem?_map, Option.map_eq_some_iff] at hu
  obtain ⟨z, hz', rfl⟩ := hu
  rw [List.getElem?_take] at hz'
  split at hz'
  ·rename_i hj
   have hj2 : j < zs.length := by omega
   rw [hc j hj2]
   rw [List.getElem?_eq_getElem hj2] at hz'
   injection hz' with hz'
   simp [List.getD, hj2, hz']
  ·cases hz'
theorem event_parts {fuel : Nat} {cs : List Value} {x : DataW H × List MemPlace} (h : DataW.trod enc Tryz.prog W base sp true fuel 43 cs = some x) : ∃ e : EvIn, cs = e.vals ∧ e.Ok W W.heap.size := by
 obtain ⟨xs, m, rfl, rfl, hl, hn, hf⟩ := DataW.trod_struct Tryz.underlying43 h
 rw [cellsEvent] at hl
 match cs, hl with
 | [c0, c1, c2, c3], _ =>
  have f0 : DataW.trod enc Tryz.prog W base sp true m 3 [c0] = xs[0]? := by have := hf 0 _ rfl; simpa [cellsI] using this
  have f1 : DataW.trod enc Tryz.prog W base sp true m 21 [c1] = xs[1]? := by have := hf 1 _ rfl; simpa [cellsI, cellsR] using this
  have f2 : DataW.trod enc Tryz.prog W base sp true m 41 [c2] = xs[2]? := by have := hf 2 _ rfl; simpa [cellsI, cellsR, cellsNums] using this
  have f3 : DataW.trod enc Tryz.prog W base sp true m 9 [c3] = xs[3]? := by have := hf 3 _ rfl; simpa [cellsI, cellsR, cellsNums, cellsStr] using this
  match xs, hn with
  | [x0, x1, x2, x3], _ =>
   simp only [List.getElem?_cons_zero, List.getElem?_cons_succ] at f0 f1 f2 f3
   obtain ⟨z0, e0, _, _⟩ := DataW.trod_int Tryz.underlying3 f0
   obtain ⟨z1, e1, _, wz⟩ := DataW.trod_int Tryz.underlying21 f1
   obtain ⟨A, n, c, l, e2, h1, h2, h3, h4⟩ := nums_parts f2
   obtain ⟨t, e3, _⟩ := DataW.trod_string Tryz.underlying9 f3
   simp at e0 e1 e2 e3
   have hz := wf_i32 wz
   exact ⟨⟨z0, z1, A, n, c, l, t⟩, by rw [e0, e1, e2, e3]; rfl, hz.1, hz.2, h1, h2, h3, h4⟩
theorem open_events {v : Value} {d : DataW H} {p : List MemPlace} (hok : Value.okWide Tryz.prog W .any base 36 v) (h : DataW.Trod enc Tryz.prog W 0 (fun _ => true) true 36 v d p) :
  ∃ (A : Option Addr) (n c : Nat) (l : List EvIn), v = .slice A n c ∧ n ≤ c ∧ c ≤ maxLen ∧ (∀ r ∈ l, r.Ok W W.heap.size) ∧ Sq W W.heap.size 4 n A (l.flatMap EvIn.vals) := by
 obtain ⟨a0, len, cap, rfl⟩ := okWide_slice Tryz.underlying36 hok
 obtain ⟨fuel, hf⟩ := h
 rcases DataW.trod_slice Tryz.underlying36 hf with ⟨hcs, _⟩ | ⟨a, len', cap', elems, rest, m, _, hcs, _, _, hl, hm, hlen, hel, _, _⟩
 ·simp only [Value.cells, List.cons.injEq, Value.slice.injEq, and_true] at hcs
  obtain ⟨rfl, rfl, rfl⟩ := hcs
  exact ⟨none, 0, 0, [], rfl, Nat.le_refl _, Nat.zero_le _, (fun r h => by cases h), Sq.nothing _ _ _ _⟩
 ·simp only [Value.cells, List.cons.injEq, Value.slice.injEq, and_true] at hcs
  obtain ⟨rfl, rfl, rfl⟩ := hcs
  have each : ∀ i, i < len → ∃ t : EvIn, t.Ok W W.heap.size ∧ ∀ (k : Nat) (u : Value), t.vals[k]? = some u → W.cell? ((a.add (i * 4)).add k) = some u := by
   intro i hi
   have h1 := hel i hi
   rw [List.getElem?_eq_getElem (by omega), cellsEvent, Option.bind_eq_some_iff] at h1
   obtain ⟨cs, hc, ht⟩ := h1
   obtain ⟨r, rfl, hr⟩ := event_parts ht
   obtain ⟨_, _, hcell⟩ := World.cells?_some hc
   refine ⟨r, hr, fun k u hu => ?_⟩
   have hk : k < 4 := by have := (List.getElem?_eq_some_iff.1 hu).1; simpa [EvIn.vals] using this
   rw [hcell k hk]
   exact hu
  obtain ⟨l, hll, hp⟩ := exists_list each
  exact ⟨some a, len, cap, l, rfl, hl, hm, fun r hr => by obtain ⟨i, hi, rfl⟩ := List.mem_iff_getElem.1 hr; exact (hp i hi).1, sq_of_each EvIn.vals 4 (fun _ => rfl) (by omega) hll fun i hi k u hu => (hp i hi).2 k u hu⟩
end
theorem ev_at {W : World} {B n k : Nat} {A : Option Addr} {l : List EvIn} {e : EvIn} (hq : Sq W B 4 n A (l.flatMap EvIn.vals)) (hr : l[k]? = some e) (hk : k < n) :
  ∃ b off, A = some ⟨b, off, none⟩ ∧ b < B ∧ W.cell? ⟨b, off + k * 4, none⟩ = some (.int .i64 e.k) ∧ W.cell? ⟨b, off + k * 4 + 1, none⟩ = some (.int .i32 e.r) ∧ W.cell? ⟨b, off + k * 4 + 2, none⟩ = some (.slice e.A e.n e.c) ∧ W.cell? ⟨b, off + k * 4 + 3, none⟩ = some (.string e.t) := by
 obtain ⟨b, off, e', hb, hc⟩ := hq.spot (by omega)
 have g : ∀ j u, e.vals[j]? = some u → W.cell? ⟨b, off + (k * 4 + j), none⟩ = some u := fun j u hu => hc (k * 4 + j) _ (flatMap_get EvIn.vals 4 (fun _ => rfl) l k e hr j u hu)
 exact ⟨b, off, e', hb, by simpa using g 0 _ rfl, by rw [Nat.add_assoc]; exact g 1 _ rfl, by rw [Nat.add_assoc]; exact g 2 _ rfl, by rw [Nat.add_assoc]; exact g 3 _ rfl⟩
def zeroRows : List (Int × Int) := [(-2147483648, 31), (127, 159), (768, 879), (8203, 8207), (65024, 65039), (1114112, 2147483647), (55296, 57343)]
def wideRows : List (Int × Int) := [(4352, 4447), (11904, 12350), (12353, 13311), (13312, 19903), (19968, 40959), (40960, 42191), (44032, 55203), (63744, 64255), (65072, 65135), (65280, 65376), (65504, 65510), (127744, 128591), (129280, 129535), (131072, 262141)]
def zLo (i : Nat) : Int := (zeroRows.getD i (0, 0)).1
def zHi (i : Nat) : Int := (zeroRows.getD i (0, 0)).2
def wLo (i : Nat) : Int := (wideRows.getD i (0, 0)).1
def wHi (i : Nat) : Int := (wideRows.getD i (0, 0)).2
def zeroCells : Array Value := #[.int .i32 (-2147483648), .int .i32 31, .int .i32 127, .int .i32 159, .int .i32 768, .int .i32 879, .int .i32 8203, .int .i32 8207, .int .i32 65024, .int .i32 65039, .int .i32 1114112, .int .i32 2147483647, .int .i32 55296, .int .i32 57343]
def wideCells : Array Value := #[.int .i32 4352, .int .i32 4447, .int .i32 11904, .int .i32 12350, .int .i32 12353, .int .i32 13311, .int .i32 13312, .int .i32 19903, .int .i32 19968, .int .i32 40959, .int .i32 40960, .int .i32 42191, .int .i32 44032, .int .i32 55203, .int .i32 63744, .int .i32 64255, .int .i32 65072, .int .i32 65135, .int .i32 65280, .int .i32 65376, .int .i32 65504, .int .i32 65510, .int .i32 127744, .int .i32 128591, .int .i32 129280, .int .i32 129535, .int .i32 131072, .int .i32 262141]
theorem wof_zero (r : Int) (i : Nat) (hi : i < 7) (h0 : zLo i ≤ r) (h1 : r ≤ zHi i) : wof r = 0 := by
 unfold wof
 match i, hi with
 | 0, _ => simp only [zLo, zHi, zeroRows, List.getD_cons_zero] at h0 h1; (repeat rw [if_neg (by omega)]); rw [if_pos (by omega)]
 | 1, _ => simp only [zLo, zHi, zeroRows, List.getD_cons_zero, List.getD_cons_succ] at h0 h1; (repeat rw [if_neg (by omega)]); rw [if_pos (by omega)]
 | 2, _ => simp only [zLo, zHi, zeroRows, List.getD_cons_zero, List.getD_cons_succ] at h0 h1; (repeat rw [if_neg (by omega)]); rw [if_pos (by omega)]
 | 3, _ => simp only [zLo, zHi, zeroRows, List.getD_cons_zero, List.getD_cons_succ] at h0 h1; (repeat rw [if_neg (by omega)]); rw [if_pos (by omega)]
 | 4, _ => simp only [zLo, zHi, zeroRows, List.getD_cons_zero, List.getD_cons_succ] at h0 h1; (repeat rw [if_neg (by omega)]); rw [if_pos (by omega)]
 | 5, _ => simp only [zLo, zHi, zeroRows, List.getD_cons_zero, List.getD_cons_succ] at h0 h1; (repeat rw [if_neg (by omega)]); rw [if_pos (by omega)]
 | 6, _ => simp only [zLo, zHi, zeroRows, List.getD_cons_zero, List.getD_cons_succ] at h0 h1; (repeat rw [if_neg (by omega)]); rw [if_pos (by omega)]
 | n + 7, h => omega
theorem wof_wide (r : Int) (i : Nat) (hi : i < 14) (h0 : wLo i ≤ r) (h1 : r ≤ wHi i) : wof r = 2 := by
 unfold wof
 match i, hi with
 | 0, _ => simp only [wLo, wHi, wideRows, List.getD_cons_zero] at h0 h1; (repeat rw [if_neg (by omega)]); rw [if_pos (by omega)]
 | 1, _ => simp only [wLo, wHi, wideRows, List.getD_cons_zero, List.getD_cons_succ] at h0 h1; (repeat rw [if_neg (by omega)]); rw [if_pos (by omega)]
 | 2, _ => simp only [wLo, wHi, wideRows, List.getD_cons_zero, List.getD_cons_succ] at h0 h1; (repeat rw [if_neg (by omega)]); rw [if_pos (by omega)]
 | 3, _ => simp only [wLo, wHi, wideRows, List.getD_cons_zero, List.getD_cons_succ] at h0 h1; (repeat rw [if_neg (by omega)]); rw [if_pos (by omega)]
 | 4, _ => simp only [wLo, wHi, wideRows, List.getD_cons_zero, List.getD_cons_succ] at h0 h1; (repeat rw [if_neg (by omega)]); rw [if_pos (by omega)]
 | 5, _ => simp only [wLo, wHi, wideRows, List.getD_cons_zero, List.getD_cons_succ] at h0 h1; (repeat rw [if_neg (by omega)]); rw [if_pos (by omega)]
 | 6, _ => simp only [wLo, wHi, wideRows, List.getD_cons_zero, List.getD_cons_succ] at h0 h1; (repeat rw [if_neg (by omega)]); rw [if_pos (by omega)]
 | 7, _ => simp only [wLo, wHi, wideRows, List.getD_cons_zero, List.getD_cons_succ] at h0 h1; (repeat rw [if_neg (by omega)]); rw [if_pos (by omega)]
 | 8, _ => simp only [wLo, wHi, wideRows, List.getD_cons_zero, List.getD_cons_succ] at h0 h1; (repeat rw [if_neg (by omega)]); rw [if_pos (by omega)]
 | 9, _ => simp only [wLo, wHi, wideRows, List.getD_cons_zero, List.getD_cons_succ] at h0 h1; (repeat rw [if_neg (by omega)]); rw [if_pos (by omega)]
 | 10, _ => simp only [wLo, wHi, wideRows, List.getD_cons_zero, List.getD_cons_succ] at h0 h1; (repeat rw [if_neg (by omega)]); rw [if_pos (by omega)]
 | 11, _ => simp only [wLo, wHi, wideRows, List.getD_cons_zero, List.getD_cons_succ] at h0 h1; (repeat rw [if_neg (by omega)]); rw [if_pos (by omega)]
 | 12, _ => simp only [wLo, wHi, wideRows, List.getD_cons_zero, List.getD_cons_succ] at h0 h1; (repeat rw [if_neg (by omega)]); rw [if_pos (by omega)]
 | 13, _ => simp only [wLo, wHi, wideRows, List.getD_cons_zero, List.getD_cons_succ] at h0 h1; (repeat rw [if_neg (by omega)]); rw [if_pos (by omega)]
 | n + 14, h => omega
theorem wof_none (r : Int) (hr0 : -2147483648 ≤ r) (hr1 : r ≤ 2147483647) (h : ∀ i, i < 7 → ¬ (zLo i ≤ r ∧ r ≤ zHi i)) (k : ∀ i, i < 14 → ¬ (wLo i ≤ r ∧ r ≤ wHi i)) : wof r = 1 := by
 have h0 := h 0 (by omega); have h1 := h 1 (by omega); have h2 := h 2 (by omega); have h3 := h 3 (by omega); have h4 := h 4 (by omega); have h5 := h 5 (by omega); have h6 := h 6 (by omega)
 have k0 := k 0 (by omega); have k1 := k 1 (by omega); have k2 := k 2 (by omega); have k3 := k 3 (by omega); have k4 := k 4 (by omega); have k5 := k 5 (by omega); have k6 := k 6 (by omega); have k7 := k 7 (by omega); have k8 := k 8 (by omega); have k9 := k 9 (by omega); have k10 := k 10 (by omega); have k11 := k 11 (by omega); have k12 := k 12 (by omega); have k13 := k 13 (by omega)
 simp only [zLo, zHi, wLo, wHi, zeroRows, wideRows, List.getD_cons_zero, List.getD_cons_succ] at h0 h1 h2 h3 h4 h5 h6 k0 k1 k2 k3 k4 k5 k6 k7 k8 k9 k10 k11 k12 k13
 unfold wof
 repeat rw [if_neg (by omega)]
theorem zero_cells (i : Nat) (hi : i < 7) : zeroCells[i * 2]? = some (.int .i32 (zLo i)) ∧ zeroCells[i * 2 + 1]? = some (.int .i32 (zHi i)) := by
 match i, hi with
 | 0, _ => exact ⟨rfl, rfl⟩
 | 1, _ => exact ⟨rfl, rfl⟩
 | 2, _ => exact ⟨rfl, rfl⟩
 | 3, _ => exact ⟨rfl, rfl⟩
 | 4, _ => exact ⟨rfl, rfl⟩
 | 5, _ => exact ⟨rfl, rfl⟩
 | 6, _ => exact ⟨rfl, rfl⟩
 | n + 7, h => omega
theorem wide_cells (i : Nat) (hi : i < 14) : wideCells[i * 2]? = some (.int .i32 (wLo i)) ∧ wideCells[i * 2 + 1]? = some (.int .i32 (wHi i)) := by
 match i, hi with
 | 0, _ => exact ⟨rfl, rfl⟩
 | 1, _ => exact ⟨rfl, rfl⟩
 | 2, _ => exact ⟨rfl, rfl⟩
 | 3, _ => exact ⟨rfl, rfl⟩
 | 4, _ => exact ⟨rfl, rfl⟩
 | 5, _ => exact ⟨rfl, rfl⟩
 | 6, _ => exact ⟨rfl, rfl⟩
 | 7, _ => exact ⟨rfl, rfl⟩
 | 8, _ => exact ⟨rfl, rfl⟩
 | 9, _ => exact ⟨rfl, rfl⟩
 | 10, _ => exact ⟨rfl, rfl⟩
 | 11, _ => exact ⟨rfl, rfl⟩
 | 12, _ => exact ⟨rfl, rfl⟩
 | 13, _ => exact ⟨rfl, rfl⟩
 | n + 14, h => omega
abbrev refWorld (w : World) : World := (w.alloc (.cells #[.int .i32 (-2147483648), .int .i32 31, .int .i32 127, .int .i32 159, .int .i32 768, .int .i32 879, .int .i32 8203, .int .i32 8207, .int .i32 65024, .int .i32 65039, .int .i32 1114112, .int .i32 2147483647, .int .i32 55296, .int .i32 57343] 92)).alloc (.cells #[.int .i32 4352, .int .i32 4447, .int .i32 11904, .int .i32 12350, .int .i32 12353, .int .i32 13311, .int .i32 13312, .int .i32 19903, .int .i32 19968, .int .i32 40959, .int .i32 40960, .int .i32 42191, .int .i32 44032, .int .i32 55203, .int .i32 63744, .int .i32 64255, .int .i32 65072, .int .i32 65135, .int .i32 65280, .int .i32 65376, .int .i32 65504, .int .i32 65510, .int .i32 127744, .int .i32 128591, .int .i32 129280, .int .i32 129535, .int .i32 131072, .int .i32 262141] 92)
theorem ref_zero (w : World) (i : Nat) (hi : i < 7) : (refWorld w).cell? ⟨w.heap.size, i * 2, none⟩ = some (.int .i32 (zLo i)) ∧ (refWorld w).cell? ⟨w.heap.size, i * 2 + 1, none⟩ = some (.int .i32 (zHi i)) := by
 have hb : (refWorld w).heap[w.heap.size]? = some (.cells zeroCells 92 (0, 0)) := by
  rw [refWorld, Below.heap_alloc _ _ _ (by simp)]; exact heap_alloc_new w _
 rw [cell_of_row _ _ _ _ _ (0, 0) hb, cell_of_row _ _ _ _ _ (0, 0) hb]
 exact zero_cells i hi
theorem ref_wide (w : World) (i : Nat) (hi : i < 14) : (refWorld w).cell? ⟨w.heap.size + 1, i * 2, none⟩ = some (.int .i32 (wLo i)) ∧ (refWorld w).cell? ⟨w.heap.size + 1, i * 2 + 1, none⟩ = some (.int .i32 (wHi i)) := by
 have hb : (refWorld w).heap[w.heap.size + 1]? = some (.cells wideCells 92 (0, 0)) := by
  have h := heap_alloc_new (w.alloc (.cells zeroCells 92)) (.cells wideCells 92)
  rw [World.size_alloc] at h
  exact h
 rw [cell_of_row _ _ _ _ _ (0, 0) hb, cell_of_row _ _ _ _ _ (0, 0) hb]
 exact wide_cells i hi
theorem refWidth_walk (r : Int) (hr0 : -2147483648 ≤ r) (hr1 : r ≤ 2147483647) (w : World) :
  Calls Tryz.prog 36 #[.int .i32 r] w fun e w' => e = .returned (.int .i64 (wof r)) ∧ Below w.heap.size w w' := by
 have hz := ref_zero w
 have hw := ref_wide w
 have ZH := Lib.hid hz
 have WH := Lib.hid hw
 clear hz hw
 have hbl : Below w.heap.size w (refWorld w) := ((Below.refl _ _).alloc (Nat.le_refl _) _).alloc (by simp) _
 have BL := Lib.hid hbl
 clear hbl
 go_enter Tryz.func36, Tryz.ntmps36
 go_wp2
 go_loop [5] (fun i => ∃ k : Nat, k ≤ 7 ∧ i = .int .i64 k ∧ (∀ j, j < k → ¬ (zLo j ≤ r ∧ r ≤ zHi j))) (fun i => 7 - (intOf i).toNat)
 case atStart => exact ⟨0, by omega, rfl, fun j h => by omega⟩
 case round =>
  obtain ⟨k, hk, rfl, hno⟩ := hrel
  by_cases hlt : k < 7
  ·obtain ⟨z0, z1⟩ := ZH.out k hlt
   have NO := Lib.hid hno
   have HIT := Lib.hid (wof_zero r k hlt)
   clear hno
   by_cases c1 : zLo k ≤ r
   ·by_cases c2 : r ≤ zHi k
    ·go_wp2
     go_ret
     exact ⟨ret_int (HIT.out c1 c2).symm, BL.out⟩
    ·go_wp2
     go_round
     case rel => exact ⟨k + 1, by omega, by go_num, fun j h => (Nat.lt_or_eq_of_le (Nat.le_of_lt_succ h)).elim (NO.out j) (fun e => by subst e; omega)⟩
     case measure => simp [intOf]; omega
   ·go_wp2
    go_round
    case rel => exact ⟨k + 1, by omega, by go_num, fun j h => (Nat.lt_or_eq_of_le (Nat.le_of_lt_succ h)).elim (NO.out j) (fun e => by subst e; omega)⟩
    case measure => simp [intOf]; omega
  ·obtain rfl : k = 7 := by omega
   have NO := Lib.hid hno
   clear hno
   go_wp2
   go_loop [6] (fun i => ∃ k : Nat, k ≤ 14 ∧ i = .int .i64 k ∧ (∀ j, j < k → ¬ (wLo j ≤ r ∧ r ≤ wHi j))) (fun i => 14 - (intOf i).toNat)
   case atStart => exact ⟨0, by omega, rfl, fun j h => by omega⟩
   case round =>
    obtain ⟨k, hk, rfl, hno⟩ := hrel
    by_cases hlt : k < 14
    ·obtain ⟨z0, z1⟩ := WH.out k hlt
     have NW := Lib.hid hno
     have HIT := Lib.hid (wof_wide r k hlt)
     clear hno
     by_cases c1 : wLo k ≤ r
     ·by_cases c2 : r ≤ wHi k
      ·go_wp2
       go_ret
       exact ⟨ret_int (HIT.out c1 c2).symm, BL.out⟩
      ·go_wp2
       go_round
       case rel => exact ⟨k + 1, by omega, by go_num, fun j h => (Nat.lt_or_eq_of_le (Nat.le_of_lt_succ h)).elim (NW.out j) (fun e => by subst e; omega)⟩
       case measure => simp [intOf]; omega
     ·go_wp2
      go_round
      case rel => exact ⟨k + 1, by omega, by go_num, fun j h => (Nat.lt_or_eq_of_le (Nat.le_of_lt_succ h)).elim (NW.out j) (fun e => by subst e; omega)⟩
      case measure => simp [intOf]; omega
    ·obtain rfl : k = 14 := by omega
     have M := Lib.hid (wof_none r hr0 hr1 NO.out hno)
     clear hno
     go_wp2
     go_ret
     exact ⟨ret_int M.out.symm, BL.out⟩
