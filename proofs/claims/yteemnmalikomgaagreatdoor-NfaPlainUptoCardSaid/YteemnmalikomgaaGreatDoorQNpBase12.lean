/-
  A pattern's machine, as a law has it: what it weighs, where it ends; a text's signs; a number of one digit. Texts of signs below 128; numbers brought into a range. What the machine of utf makes of a sign's bytes: the sign again, or FFFD of one that may not be. Signs that are told with a \ ahead of each, as bytes: what they write. Nothing of the program.
-/
import Derived.Test.YteemnmalikomgaaGreatDoorQNpBase8
import Derived.Test.YteemnmalikomgaaGreatDoorQNpBase11
import Derived.Test.YteemnmalikomgaaGreatDoorQNpBase4
import Derived.Test.YteemnmalikomgaaGreatDoorQNpLaw0
import Derived.Test.YteemnmalikomgaaGreatDoorQNpBase0
import Derived.Lib.RuneBytes
import Derived.Test.YteemnmalikomgaaGreatDoorQNpBase7
namespace Go.Proofs.YteemnmalikomgaaGreatDoor
open Go.ChangeShapes Go.WideShapes Go.ChangeAt Go.RowKit
namespace NF
theorem all_sets' (n : Nd) : sets (fun _ => True) n := by
 have key : ∀ (k : Nat) (n : Nd), deep n ≤ k → sets (fun _ => True) n := by
  intro k
  induction k with
  | zero => intro n h; cases n; rw [deep] at h; omega
  | succ k ih =>
   intro n h
   obtain ⟨a, s, nt, ks, mn, mx⟩ := n
   rw [deep] at h
   rw [sets]
   refine ⟨trivial, ?_⟩
   have : ∀ (l : List Nd), deeps l ≤ k → setss (fun _ => True) l := by
    intro l
    induction l with
    | nil => intro _; rw [setss]; trivial
    | cons x xs ihl =>
     intro hl
     rw [deeps] at hl
     rw [setss]
     exact ⟨ih x (by omega), ihl (by omega)⟩
   exact this ks (by omega)
 exact key (deep n) n (Nat.le_refl _)
def Prg (w : World) (B p : Nat) (t : Nd) : Prop := may t = true ∧ ∃ t2, OwnOf t t2 ∧ MAt w B p (mach t2) (start t2) ∧ (mach t2).length = wt t
theorem Prg.below {w w' : World} {B p : Nat} {t : Nd} (h : Prg w B p t) (hb : Below B w w') : Prg w' B p t := by
 obtain ⟨h1, t2, h2, h3, h4⟩ := h
 refine ⟨h1, t2, h2, ?_, h4⟩
 obtain ⟨b, c, e1, e2, e3⟩ := h3.box
 exact ⟨⟨b, c, (hb.cell (p := ⟨p, _, none⟩) h3.low).trans e1, e2, fun q s hs => (e3 q s hs).below hb e2⟩, (hb.cell (p := ⟨p, _, none⟩) h3.low).trans h3.start, h3.low, h3.big, h3.ok⟩
theorem Prg.up {w : World} {B B' p : Nat} {t : Nd} (h : Prg w B p t) (hB : B ≤ B') : Prg w B' p t := by
 obtain ⟨h1, t2, h2, h3, h4⟩ := h
 refine ⟨h1, t2, h2, ?_, h4⟩
 obtain ⟨b, c, e1, e2, e3⟩ := h3.box
 exact ⟨⟨b, c, e1, by omega, fun q s hs => (e3 q s hs).up hB⟩, h3.start, by have := h3.low; omega, h3.big, h3.ok⟩
def CompOk (t : Nd) (w : World) (e : Ending) (w' : World) : Prop := ∃ p, e = .returned (.tuple #[.pointer (some ⟨p, 0, none⟩), .int .i64 0]) ∧ Prg w' w'.heap.size p t ∧ Below w.heap.size w w'
theorem compile_ok (t : Nd) (x : Nv) (lo : Nat) (w : World) (hx : NdIn w lo w.heap.size t x) (hm : may t = true) (hd : deep t ≤ 40) (hc : count t ≤ 2000) (hw : wt t ≤ 20000) :
  Calls Tryz.prog 15 #[x.v] w fun e w' => CompOk t w e w' := by
 refine (compile_walk t x lo w hx hd hc).mono ?_
 rintro e w' ⟨b, _, _, h⟩
 obtain ⟨p, t2, rfl, h1, h2, h3, _, _⟩ := h hm hw
 exact ⟨p, rfl, ⟨hm, t2, h1, h2, h3⟩, b⟩
theorem prg_ends {w : World} {B p : Nat} {t : Nd} (h : Prg w B p t) (A : Option Addr) (n c a : Nat) (l : List Int) (ha : a ≤ n) (hn : n ≤ 1000000) (hB : B ≤ w.heap.size) (hl : l.length = n) (hq : Sq w w.heap.size 1 n A (runesV l)) :
  Calls Tryz.prog 16 #[.pointer (some ⟨p, 0, none⟩), .slice A n c, .int .i64 (a : Int)] w fun e w' => EndsPost (endsL (fun e => Mat l t a e) (n + 1)) w e w' := by
 obtain ⟨h1, t2, h2, h3, h4⟩ := h
 obtain ⟨m1, m2, _, _⟩ := own_same l t t2 h2 h1
 have hst : start t2 ≤ (mach t2).length := by
  rw [mach_len m1]
  exact (lead_ok (wt t2) (fun _ => True) trivial t2 0 (wt t2) m1 (all_sets' t2) (by omega) (Nat.le_refl _)).2.1
 have := ends_in B p (mach t2) (start t2) A n c a l w h3 (by rw [h4]; exact wt_pos _ h1) ha hn hst hB hl hq
 rwa [endsL_congr (Q := fun e => Mat l t a e) (n + 1) fun e _ => rch_end h1 h2 a e] at this
def TextP (s : ByteArray) (k : Nat) (w : World) (e : Ending) (w' : World) : Prop := ∃ A c n, e = .returned (.slice A n c) ∧ Sq w' w'.heap.size 1 n A (runesV ((runO st0 (octs s)).take k)) ∧ ((runO st0 (octs s)).take k).length = n ∧ n ≤ k ∧ n ≤ c ∧ Below w.heap.size w w'
set_option maxRecDepth 100000 in
set_option maxHeartbeats 3200000 in
theorem text_walk (s : ByteArray) (hs : s.size ≤ 274877906944) (k : Nat) (hk : k ≤ 1000) (w : World) : Calls Tryz.prog 12 #[.string s, .int .i64 (k : Int)] w fun e w' => TextP s k w e w' := by
 have RW := Lib.hid (refAll_walk s hs w)
 unfold TextP
 unfold RefAllPost at RW
 obtain ⟨l, hl⟩ : ∃ l, runO st0 (octs s) = l := ⟨_, rfl⟩
 obtain ⟨q, hq⟩ : ∃ q, (runS st0 (octs s)).waits = q := ⟨_, rfl⟩
 rw [hl, hq] at RW
 rw [hl]
 have hln := runO_length (octs s) st0
 rw [hl, octs_length] at hln
 have LN := Lib.hid hln
 clear hl hq hln
 go_enter Tryz.func12, Tryz.ntmps12
 go_wp2_with fail
 refine RW.out.mono ?_
 rintro e w1 ⟨v, rfl, hh, b⟩
 obtain ⟨A, c, rfl⟩ := hh.shape
 have hsq := (hh.sq).2
 have hnc : l.length ≤ c := by
  rcases hh.2 with ⟨h1, h2⟩ | ⟨g, cap, cur, h1, _, _, h3, _⟩
  ·rw [h2]; exact Nat.zero_le _
  ·injection h1 with _ _ h1; omega
 obtain ⟨m, hm⟩ : ∃ m, min l.length k = m := ⟨_, rfl⟩
 have hmi : min (l.length : Int) (k : Int) = (m : Int) := by omega
 have SQ := Lib.hid (show Sq w1 w1.heap.size 1 m A (runesV (l.take k)) from by
  refine ⟨by simp [runesV]; omega, fun h0 => ?_⟩
  obtain ⟨b, off, e1, e2, e3⟩ := hsq.spot (by omega)
  refine ⟨b, off, e1, e2, fun j u hu => e3 j u ?_⟩
  have : runesV (l.take k) = (l.map (Value.int .i32)).take k := by unfold runesV; rw [List.map_take]
  rw [this, List.getElem?_take] at hu
  split at hu
  ·exact hu
  ·cases hu)
 have TL := Lib.hid (show (l.take k).length = m by rw [List.length_take]; omega)
 have BB := Lib.hid b
 have hmk : m ≤ k := by omega
 have hm0 : (0 : Int) ≤ (m : Int) := by omega
 have hmc : (m : Int) ≤ (c : Int) := by omega
 have hmc' : m ≤ c := by omega
 have hml : (m : Int) ≤ (l.length : Int) := by omega
 obtain ⟨n, hn⟩ : ∃ n, l.length = n := ⟨_, rfl⟩
 rw [hn] at hmi hml
 rw [hn]
 clear hh b RW hsq hnc hm hn
 go_wp2_with fail
 go_ret
 exact ⟨_, _, _, rfl, SQ.out, TL.out, hmk, hmc', BB.out⟩
end NF
end Go.Proofs.YteemnmalikomgaaGreatDoor
namespace Go.Proofs.YteemnmalikomgaaGreatDoor
open Go.ChangeShapes Go.WideShapes Go.ChangeAt Go.RowKit
namespace NF
theorem octs_app (a b : ByteArray) : octs (a ++ b) = octs a ++ octs b := by
 unfold octs
 rw [← List.map_append, ByteArray.data_append, Array.toList_append]
theorem parsed {s : ByteArray} {t : Nd} {w : World} {e : Ending} {w' : World} (h : ParseP (parseS s) w e w') (ht : parseS s = .some t) : ∃ k A n c nt A2 n2 c2 mn mx, e = .returned (.tuple #[Nv.v ⟨k, A, n, c, nt, A2, n2, c2, mn, mx⟩, .int .i64 0]) ∧ NdO w' (fun b => w.heap.size ≤ b) t ⟨k, A, n, c, nt, A2, n2, c2, mn, mx⟩ ∧ Below w.heap.size w w' := by
 rw [ht] at h
 obtain ⟨⟨k, A, n, c, nt, A2, n2, c2, mn, mx⟩, h1, h2, h3⟩ := h
 exact ⟨k, A, n, c, nt, A2, n2, c2, mn, mx, h1, h2, h3⟩
theorem ends_some {L : List Nat} {w : World} {e : Ending} {w' : World} (h : EndsPost L w e w') : ∃ A c, e = .returned (.slice A L.length c) ∧ Sq w' w'.heap.size 1 L.length A (nums L) ∧ L.length ≤ c ∧ Below w.heap.size w w' := by
 obtain ⟨v, rfl, ho, hb⟩ := h
 obtain ⟨A, c, rfl⟩ := own_len ho
 refine ⟨A, c, rfl, Sq.own ho, ?_, hb⟩
 rcases ho.2 with ⟨h1, h2⟩ | ⟨g, cap, cur, h1, _, _, h3, _⟩
 ·rw [h2]; exact Nat.zero_le _
 ·injection h1 with _ _ h1; omega
theorem bulk_le {H : Type} {l : List (DataW H)} (hk : Rows.uptoSmall H l = true) : Rows.uptoBulkAll l ≤ 1048576 := of_decide_eq_true hk
end NF
end Go.Proofs.YteemnmalikomgaaGreatDoor
namespace Go.Proofs.YteemnmalikomgaaGreatDoor
def fixR (r : Int) : Int := if r < 0 ∨ 1114111 < r ∨ (55296 ≤ r ∧ r ≤ 57343) then 65533 else r
theorem goes_no0 (b : Int) : ¬ goes st0 b := by intro h; exact absurd h.1 (by simp [st0])
theorem brk_st0 : brk st0 = [] := rfl
theorem st_first {b m lo hi : Int} (h128 : ¬ b < 128) (hf : fol b = (m, lo, hi)) (hm : ¬ m = 0) : stS st0 b = ⟨lead b m, 1, m, lo, hi⟩ ∧ stO st0 b = [] := by
 have g := goes_no0 b
 simp [stS, stO, g, begS, begO, h128, hf, hm, brk_st0]
theorem st_next {s w m lo hi b : Int} (hw : 0 < w) (h0 : lo ≤ b) (h1 : b ≤ hi) (hm : ¬ m = 1) : stS ⟨s, w, m, lo, hi⟩ b = ⟨s * 64 + b % 64, w + 1, m - 1, 128, 191⟩ ∧ stO ⟨s, w, m, lo, hi⟩ b = [] := by
 have g : goes ⟨s, w, m, lo, hi⟩ b := ⟨hw, h0, h1⟩
 simp [stS, stO, g, onS, onO, hm]
theorem st_last {s w lo hi b : Int} (hw : 0 < w) (h0 : lo ≤ b) (h1 : b ≤ hi) : stS ⟨s, w, 1, lo, hi⟩ b = st0 ∧ stO ⟨s, w, 1, lo, hi⟩ b = [s * 64 + b % 64] := by
 have g : goes ⟨s, w, 1, lo, hi⟩ b := ⟨hw, h0, h1⟩
 simp [stS, stO, g, onS, onO]
theorem fol_two {b : Int} (h0 : 194 ≤ b) (h1 : b < 224) : fol b = (1, 128, 191) := by
 unfold fol; rw [if_neg (by omega), if_pos h1]
theorem fol_224 : fol 224 = (2, 160, 191) := by decide
theorem fol_237 : fol 237 = (2, 128, 159) := by decide
theorem fol_three {b : Int} (h0 : 224 < b) (h1 : b < 240) (h2 : b ≠ 237) : fol b = (2, 128, 191) := by
 unfold fol; rw [if_neg (by omega), if_neg (by omega), if_neg (by omega), if_neg h2, if_pos h1]
theorem fol_240 : fol 240 = (3, 144, 191) := by decide
theorem fol_four {b : Int} (h0 : 240 < b) (h1 : b < 244) : fol b = (3, 128, 191) := by
 unfold fol; rw [if_neg (by omega), if_neg (by omega), if_neg (by omega), if_neg (by omega), if_neg (by omega), if_neg (by omega), if_pos h1]
theorem fol_244 : fol 244 = (3, 128, 143) := by decide
theorem run_two (b c : Int) (h0 : 194 ≤ b) (h1 : b < 224) (c0 : 128 ≤ c) (c1 : c ≤ 191) : runS st0 [b, c] = st0 ∧ runO st0 [b, c] = [b % 32 * 64 + c % 64] := by
 have a := st_first (b := b) (by omega) (fol_two h0 h1) (by omega)
 have l : lead b 1 = b % 32 := by simp [lead]
 rw [l] at a
 have d := st_last (s := b % 32) (w := 1) (lo := 128) (hi := 191) (b := c) (by omega) c0 c1
 simp only [runS, runO, a.1, a.2, d.1, d.2, List.nil_append, List.append_nil, and_self]
theorem run_three (b c d lo hi : Int) (hb : ¬ b < 128) (hf : fol b = (2, lo, hi)) (c0 : lo ≤ c) (c1 : c ≤ hi) (d0 : 128 ≤ d) (d1 : d ≤ 191) : runS st0 [b, c, d] = st0 ∧ runO st0 [b, c, d] = [(b % 16 * 64 + c % 64) * 64 + d % 64] := by
 have a := st_first (b := b) hb hf (by omega)
 have l : lead b 2 = b % 16 := by simp [lead]
 rw [l] at a
 have x := st_next (s := b % 16) (w := 1) (m := 2) (b := c) (by omega) c0 c1 (by omega)
 have y := st_last (s := b % 16 * 64 + c % 64) (w := 1 + 1) (lo := 128) (hi := 191) (b := d) (by omega) d0 d1
 have e : (2 : Int) - 1 = 1 := by omega
 rw [e] at x
 simp only [runS, runO, a.1, a.2, x.1, x.2, y.1, y.2, List.nil_append, List.append_nil, and_self]
theorem run_four (b c d f lo hi : Int) (hb : ¬ b < 128) (hf : fol b = (3, lo, hi)) (c0 : lo ≤ c) (c1 : c ≤ hi) (d0 : 128 ≤ d) (d1 : d ≤ 191) (f0 : 128 ≤ f) (f1 : f ≤ 191) : runS st0 [b, c, d, f] = st0 ∧ runO st0 [b, c, d, f] = [((b % 8 * 64 + c % 64) * 64 + d % 64) * 64 + f % 64] := by
 have a := st_first (b := b) hb hf (by omega)
 have l : lead b 3 = b % 8 := by simp [lead]
 rw [l] at a
 have x := st_next (s := b % 8) (w := 1) (m := 3) (b := c) (by omega) c0 c1 (by omega)
 have x2 := st_next (s := b % 8 * 64 + c % 64) (w := 1 + 1) (m := 3 - 1) (lo := 128) (hi := 191) (b := d) (by omega) d0 d1 (by omega)
 have y := st_last (s := (b % 8 * 64 + c % 64) * 64 + d % 64) (w := 1 + 1 + 1) (lo := 128) (hi := 191) (b := f) (by omega) f0 f1
 have e : (3 : Int) - 1 - 1 = 1 := by omega
 rw [e] at x2
 simp only [runS, runO, a.1, a.2, x.1, x.2, x2.1, x2.2, y.1, y.2, List.nil_append, List.append_nil, and_self]
theorem run_enc (r : Int) : runS st0 (Lib.encodeRuneZ r) = st0 ∧ runO st0 (Lib.encodeRuneZ r) = [fixR r] := by
 by_cases h0 : r < 0 ∨ 1114111 < r ∨ (55296 ≤ r ∧ r ≤ 57343)
 ·rw [Lib.encodeRuneZ_bad (by omega)]
  have k := run_three 239 191 189 128 191 (by omega) (fol_three (by omega) (by omega) (by omega)) (by omega) (by omega) (by omega) (by omega)
  refine ⟨k.1, ?_⟩
  rw [k.2]
  simp [fixR, h0]
 ·have hfix : fixR r = r := by simp [fixR, h0]
  rw [hfix]
  by_cases h1 : r < 128
  ·rw [Lib.encodeRuneZ_one (by omega) (by omega)]
   have g := goes_no0 r
   simp [runS, runO, stS, stO, g, begS, begO, h1, brk_st0]
  ·by_cases h2 : r < 2048
   ·rw [Lib.encodeRuneZ_two (by omega) (by omega)]
    have k := run_two (192 + r / 64) (128 + r % 64) (by omega) (by omega) (by omega) (by omega)
    refine ⟨k.1, k.2.trans ?_⟩
    congr 1; omega
   ·by_cases h3 : r < 65536
    ·rw [Lib.encodeRuneZ_three (by omega)]
     have k : runS st0 [224 + r / 4096, 128 + r / 64 % 64, 128 + r % 64] = st0 ∧ runO st0 [224 + r / 4096, 128 + r / 64 % 64, 128 + r % 64] = [((224 + r / 4096) % 16 * 64 + (128 + r / 64 % 64) % 64) * 64 + (128 + r % 64) % 64] := by
      by_cases a : r < 4096
      ·have e : (224 + r / 4096 : Int) = 224 := by omega
       rw [e]
       exact run_three 224 _ _ 160 191 (by omega) fol_224 (by omega) (by omega) (by omega) (by omega)
      ·by_cases b : r / 4096 = 13
       ·have e : (224 + r / 4096 : Int) = 237 := by omega
        rw [e]
        exact run_three 237 _ _ 128 159 (by omega) fol_237 (by omega) (by omega) (by omega) (by omega)
       ·exact run_three _ _ _ 128 191 (by omega) (fol_three (by omega) (by omega) (by omega)) (by omega) (by omega) (by omega) (by omega)
     refine ⟨k.1, k.2.trans ?_⟩
     congr 1; omega
    ·rw [Lib.encodeRuneZ_four (by omega) (by omega)]
     have k : runS st0 [240 + r / 262144, 128 + r / 4096 % 64, 128 + r / 64 % 64, 128 + r % 64] = st0 ∧ runO st0 [240 + r / 262144, 128 + r / 4096 % 64, 128 + r / 64 % 64, 128 + r % 64] = [(((240 + r / 262144) % 8 * 64 + (128 + r / 4096 % 64) % 64) * 64 + (128 + r / 64 % 64) % 64) * 64 + (128 + r % 64) % 64] := by
      by_cases a : r < 262144
      ·have e : (240 + r / 262144 : Int) = 240 := by omega
       rw [e]
       exact run_four 240 _ _ _ 144 191 (by omega) fol_240 (by omega) (by omega) (by omega) (by omega) (by omega) (by omega)
      ·by_cases b : r < 1048576
       ·exact run_four _ _ _ _ 128 191 (by omega) (fol_four (by omega) (by omega)) (by omega) (by omega) (by omega) (by omega) (by omega) (by omega)
       ·have e : (240 + r / 262144 : Int) = 244 := by omega
        rw [e]
        exact run_four 244 _ _ _ 128 143 (by omega) fol_244 (by omega) (by omega) (by omega) (by omega) (by omega) (by omega)
     refine ⟨k.1, k.2.trans ?_⟩
     congr 1; omega
end Go.Proofs.YteemnmalikomgaaGreatDoor
namespace Go.Proofs.YteemnmalikomgaaGreatDoor
open Go.ChangeShapes Go.WideShapes Go.ChangeAt Go.RowKit
namespace NF
theorem octs_one (r : Int) : octs ⟨(Lib.encodeRune r).toArray⟩ = Lib.encodeRuneZ r := by
 unfold octs Lib.encodeRune
 simp only
 rw [List.map_map]
 conv => rhs; rw [← List.map_id (Lib.encodeRuneZ r)]
 refine List.map_congr_left fun x hx => ?_
 obtain ⟨h0, h1⟩ := Lib.encodeRuneZ_byte r x hx
 obtain ⟨n, rfl⟩ := Int.eq_ofNat_of_zero_le h0
 have : n < 256 := by omega
 simp [Nat.mod_eq_of_lt this]
theorem run_encZ (l : List Int) : runS st0 (l.flatMap Lib.encodeRuneZ) = st0 ∧ runO st0 (l.flatMap Lib.encodeRuneZ) = l.map fixR := by
 induction l with
 | nil => exact ⟨rfl, rfl⟩
 | cons r l ih =>
  have h := run_enc r
  rw [List.flatMap_cons, runS_append, runO_append, h.1, h.2, ih.1, ih.2]
  exact ⟨rfl, rfl⟩
theorem all_encZ (l : List Int) : allO (l.flatMap Lib.encodeRuneZ) = l.map fixR := by
 unfold allO
 rw [(run_encZ l).1, (run_encZ l).2]
 simp [brk, st0]
theorem fix_ok {r : Int} (h : okSign r = true) : fixR r = r := by
 unfold okSign at h
 simp at h
 unfold fixR
 rw [if_neg (by omega)]
theorem escL_snoc : ∀ (l : List Int) (r : Int), escL (l ++ [r]) = escL l ++ [92, r]
 | [], r => rfl
 | s :: l, r => by rw [List.cons_append, escL, escL_snoc l r]; rfl
theorem escL_mem : ∀ {l : List Int} {x : Int}, x ∈ escL l → x = 92 ∨ x ∈ l
 | [], x, h => by simp [escL] at h
 | s :: l, x, h => by
  simp [escL] at h
  rcases h with h | h | h
  ·exact .inl h
  ·exact .inr (by simp [h])
  ·rcases escL_mem h with h | h
   ·exact .inl h
   ·exact .inr (List.mem_cons_of_mem _ h)
theorem parse_bytes {T : ByteArray} {l : List Int} (h : octs T = (escL l).flatMap Lib.encodeRuneZ) (ho : ∀ r ∈ l, okSign r = true) : parseS T = if 60 < T.size then .none else parseL (escL l) := by
 have hok : ∀ x ∈ escL l, okSign x = true := fun x hx => by
  rcases escL_mem hx with rfl | hx
  ·rfl
  ·exact ho x hx
 have e : allO (octs T) = escL l := by
  rw [h, all_encZ]
  conv => rhs; rw [← List.map_id (escL l)]
  exact List.map_congr_left fun x hx => fix_ok (hok x hx)
 unfold parseS
 rw [e]
 split
 ·rfl
 ·rw [if_neg fun hm => by have := hok _ hm; exact absurd this (by decide)]
theorem bytes_next {T : ByteArray} {l : List Int} {r : Int} (h : octs T = (escL l).flatMap Lib.encodeRuneZ) : octs (T ++ ({ data := #[92] } ++ ⟨(Lib.encodeRune r).toArray⟩)) = (escL (l ++ [r])).flatMap Lib.encodeRuneZ := by
 rw [octs_app, octs_app, h, octs_one, escL_snoc, List.flatMap_append]
 have e : octs { data := #[92] } = Lib.encodeRuneZ 92 := by decide +kernel
 rw [e]
 simp
theorem deeps_ones : ∀ l : List Int, deeps (l.map oneN) ≤ 1
 | [] => by simp [deeps]
 | s :: l => by
  have := deeps_ones l
  rw [List.map_cons, deeps]
  have e : deep (oneN s) = 1 := by simp [oneN, deep, deeps]
  omega
theorem wts_ones : ∀ l : List Int, wts (l.map oneN) = l.length * wt (oneN 0)
 | [] => by simp [wts]
 | s :: l => by
  have := wts_ones l
  rw [List.map_cons, wts, this, List.length_cons, Nat.succ_mul]
  have e : wt (oneN s) = wt (oneN 0) := by simp [oneN, wt]
  omega
theorem plain_small (s : Int) (l : List Int) (h : l.length ≤ 12) : deep (oneOrAll 3 (oneN s :: l.map oneN)) ≤ 40 ∧ wt (oneOrAll 3 (oneN s :: l.map oneN)) ≤ 20000 := by
 have e1 : wt (oneN 0) ≤ 10 := by simp [oneN, wt, wts]
 cases l with
 | nil =>
  simp only [List.map_nil, oneOrAll]
  exact ⟨by simp [oneN, deep, deeps], by simp [oneN, wt, wts]⟩
 | cons b l =>
  have hd := deeps_ones (s :: b :: l)
  have hw := wts_ones (s :: b :: l)
  have h13 : (s :: b :: l).length ≤ 13 := by simp at h ⊢; omega
  have h130 : (s :: b :: l).length * wt (oneN 0) ≤ 130 := Nat.mul_le_mul h13 e1
  simp only [List.map_cons] at hd hw
  simp only [List.map_cons, oneOrAll]
  constructor
  ·rw [deep]
   omega
  ·rw [wt]
   simp
   omega
theorem text_ok {s : ByteArray} {k : Nat} {r : Int} (h : r ∈ (runO st0 (octs s)).take k) : okSign r = true ∨ r = 65533 :=
 all_signs (octs s) (fun x hx => (octs_range s x hx).1) r (by unfold allO; exact List.mem_append_left _ (List.mem_of_mem_take h))
end NF
end Go.Proofs.YteemnmalikomgaaGreatDoor
