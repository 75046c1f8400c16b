/-
  A pattern's machine, as a law has it: what it weighs, where it ends; a text's signs; a number of one digit. Texts of signs below 128; numbers brought into a range.
-/
import Derived.Test.YtbmldpodcipncaaGreatDoorQEBase8
import Derived.Test.YtbmldpodcipncaaGreatDoorQEBase11
import Derived.Test.YtbmldpodcipncaaGreatDoorQEBase4
import Derived.Test.YtbmldpodcipncaaGreatDoorQELaw0
namespace Go.Proofs.YtbmldpodcipncaaGreatDoor
open Go.ChangeShapes Go.WideShapes Go.ChangeAt Go.RowKit
namespace NF
theorem all_sets' (n : Nd) : sets (fun _ => True) n := by
 have key : ∀ (k : Nat) (n : Nd), deep n ≤ k → sets (fun _ => True) n := by
  intro k
  induction k with
  | zero => intro n h; cases n; rw [deep] at h; omega
  | succ k ih =>
   intro n h
   obtain ⟨a, s, nt, ks, mn, mx⟩ := n
   rw [deep] at h
   rw [sets]
   refine ⟨trivial, ?_⟩
   have : ∀ (l : List Nd), deeps l ≤ k → setss (fun _ => True) l := by
    intro l
    induction l with
    | nil => intro _; rw [setss]; trivial
    | cons x xs ihl =>
     intro hl
     rw [deeps] at hl
     rw [setss]
     exact ⟨ih x (by omega), ihl (by omega)⟩
   exact this ks (by omega)
 exact key (deep n) n (Nat.le_refl _)
def Prg (w : World) (B p : Nat) (t : Nd) : Prop := may t = true ∧ ∃ t2, OwnOf t t2 ∧ MAt w B p (mach t2) (start t2) ∧ (mach t2).length = wt t
theorem Prg.below {w w' : World} {B p : Nat} {t : Nd} (h : Prg w B p t) (hb : Below B w w') : Prg w' B p t := by
 obtain ⟨h1, t2, h2, h3, h4⟩ := h
 refine ⟨h1, t2, h2, ?_, h4⟩
 obtain ⟨b, c, e1, e2, e3⟩ := h3.box
 exact ⟨⟨b, c, (hb.cell (p := ⟨p, _, none⟩) h3.low).trans e1, e2, fun q s hs => (e3 q s hs).below hb e2⟩, (hb.cell (p := ⟨p, _, none⟩) h3.low).trans h3.start, h3.low, h3.big, h3.ok⟩
def CompOk (t : Nd) (w : World) (e : Ending) (w' : World) : Prop := ∃ p, e = .returned (.tuple #[.pointer (some ⟨p, 0, none⟩), .int .i64 0]) ∧ Prg w' w'.heap.size p t ∧ Below w.heap.size w w'
theorem compile_ok (t : Nd) (x : Nv) (lo : Nat) (w : World) (hx : NdIn w lo w.heap.size t x) (hm : may t = true) (hd : deep t ≤ 40) (hc : count t ≤ 2000) (hw : wt t ≤ 20000) :
  Calls Tryz.prog 15 #[x.v] w fun e w' => CompOk t w e w' := by
 refine (compile_walk t x lo w hx hd hc).mono ?_
 rintro e w' ⟨b, _, _, h⟩
 obtain ⟨p, t2, rfl, h1, h2, h3⟩ := h hm hw
 exact ⟨p, rfl, ⟨hm, t2, h1, h2, h3⟩, b⟩
theorem prg_ends {w : World} {B p : Nat} {t : Nd} (h : Prg w B p t) (A : Option Addr) (n c a : Nat) (l : List Int) (ha : a ≤ n) (hn : n ≤ 1000000) (hB : B ≤ w.heap.size) (hl : l.length = n) (hq : Sq w w.heap.size 1 n A (runesV l)) :
  Calls Tryz.prog 20 #[.pointer (some ⟨p, 0, none⟩), .slice A n c, .int .i64 (a : Int)] w fun e w' => EndsPost (endsL (fun e => Mat l t a e) (n + 1)) w e w' := by
 obtain ⟨h1, t2, h2, h3, h4⟩ := h
 obtain ⟨m1, m2, _, _⟩ := own_same l t t2 h2 h1
 have hst : start t2 ≤ (mach t2).length := by
  rw [mach_len m1]
  exact (lead_ok (wt t2) (fun _ => True) trivial t2 0 (wt t2) m1 (all_sets' t2) (by omega) (Nat.le_refl _)).2.1
 have := ends_in B p (mach t2) (start t2) A n c a l w h3 (by rw [h4]; exact wt_pos _ h1) ha hn hst hB hl hq
 rwa [endsL_congr (Q := fun e => Mat l t a e) (n + 1) fun e _ => rch_end h1 h2 a e] at this
def TextP (s : ByteArray) (k : Nat) (w : World) (e : Ending) (w' : World) : Prop := ∃ A c n, e = .returned (.slice A n c) ∧ Sq w' w'.heap.size 1 n A (runesV ((runO st0 (octs s)).take k)) ∧ ((runO st0 (octs s)).take k).length = n ∧ n ≤ k ∧ n ≤ c ∧ Below w.heap.size w w'
set_option maxRecDepth 100000 in
set_option maxHeartbeats 3200000 in
theorem text_walk (s : ByteArray) (hs : s.size ≤ 274877906944) (k : Nat) (hk : k ≤ 1000) (w : World) : Calls Tryz.prog 14 #[.string s, .int .i64 (k : Int)] w fun e w' => TextP s k w e w' := by
 have RW := Lib.hid (refAll_walk s hs w)
 unfold TextP
 unfold RefAllPost at RW
 obtain ⟨l, hl⟩ : ∃ l, runO st0 (octs s) = l := ⟨_, rfl⟩
 obtain ⟨q, hq⟩ : ∃ q, (runS st0 (octs s)).waits = q := ⟨_, rfl⟩
 rw [hl, hq] at RW
 rw [hl]
 have hln := runO_length (octs s) st0
 rw [hl, octs_length] at hln
 have LN := Lib.hid hln
 clear hl hq hln
 go_enter Tryz.func14, Tryz.ntmps14
 go_wp2_with fail
 refine RW.out.mono ?_
 rintro e w1 ⟨v, rfl, hh, b⟩
 obtain ⟨A, c, rfl⟩ := hh.shape
 have hsq := (hh.sq).2
 have hnc : l.length ≤ c := by
  rcases hh.2 with ⟨h1, h2⟩ | ⟨g, cap, cur, h1, _, _, h3, _⟩
  ·rw [h2]; exact Nat.zero_le _
  ·injection h1 with _ _ h1; omega
 obtain ⟨m, hm⟩ : ∃ m, min l.length k = m := ⟨_, rfl⟩
 have hmi : min (l.length : Int) (k : Int) = (m : Int) := by omega
 have SQ := Lib.hid (show Sq w1 w1.heap.size 1 m A (runesV (l.take k)) from by
  refine ⟨by simp [runesV]; omega, fun h0 => ?_⟩
  obtain ⟨b, off, e1, e2, e3⟩ := hsq.spot (by omega)
  refine ⟨b, off, e1, e2, fun j u hu => e3 j u ?_⟩
  have : runesV (l.take k) = (l.map (Value.int .i32)).take k := by unfold runesV; rw [List.map_take]
  rw [this, List.getElem?_take] at hu
  split at hu
  ·exact hu
  ·cases hu)
 have TL := Lib.hid (show (l.take k).length = m by rw [List.length_take]; omega)
 have BB := Lib.hid b
 have hmk : m ≤ k := by omega
 have hm0 : (0 : Int) ≤ (m : Int) := by omega
 have hmc : (m : Int) ≤ (c : Int) := by omega
 have hmc' : m ≤ c := by omega
 have hml : (m : Int) ≤ (l.length : Int) := by omega
 obtain ⟨n, hn⟩ : ∃ n, l.length = n := ⟨_, rfl⟩
 rw [hn] at hmi hml
 rw [hn]
 clear hh b RW hsq hnc hm hn
 go_wp2_with fail
 go_ret
 exact ⟨_, _, _, rfl, SQ.out, TL.out, hmk, hmc', BB.out⟩
end NF
end Go.Proofs.YtbmldpodcipncaaGreatDoor
namespace Go.Proofs.YtbmldpodcipncaaGreatDoor
open Go.ChangeShapes Go.WideShapes Go.ChangeAt Go.RowKit
namespace NF
theorem octs_app (a b : ByteArray) : octs (a ++ b) = octs a ++ octs b := by
 unfold octs
 rw [← List.map_append, ByteArray.data_append, Array.toList_append]
theorem run_ascii : ∀ (l : List Int), (∀ x ∈ l, 0 ≤ x ∧ x < 128) → runO st0 l = l ∧ runS st0 l = st0
 | [], _ => ⟨rfl, rfl⟩
 | x :: l, h => by
  have hx := h x List.mem_cons_self
  have hg : ¬ goes st0 x := fun hg => by have := hg.1; simp [st0] at this
  have h1 : stO st0 x = [x] := by
   unfold stO
   rw [if_neg hg]
   unfold begO brk
   rw [if_pos hx.2]
   rfl
  have h2 : stS st0 x = st0 := by
   unfold stS
   rw [if_neg hg]
   unfold begS
   rw [if_pos hx.2]
  obtain ⟨i1, i2⟩ := run_ascii l fun y hy => h y (List.mem_cons_of_mem _ hy)
  constructor
  ·rw [runO, h1, h2, i1]; rfl
  ·rw [runS, h2, i2]
theorem all_ascii {l : List Int} (h : ∀ x ∈ l, 0 ≤ x ∧ x < 128) : allO l = l := by
 unfold allO
 rw [(run_ascii l h).1, (run_ascii l h).2]
 simp [brk, st0]
theorem parseS_ascii {s : ByteArray} {l : List Int} (hs : octs s = l) (h : ∀ x ∈ l, 0 ≤ x ∧ x < 128) (hn : l.length ≤ 60) : parseS s = parseL l := by
 unfold parseS
 have hz : s.size = l.length := by rw [← hs, octs_length]
 rw [if_neg (by omega), hs, all_ascii h, if_neg fun hm => by have := h _ hm; omega]
theorem mod_range (y k : Int) (hk : 0 < k) (hk2 : k ≤ 1000) : ∃ (r : Int) (d : Nat), y.tmod k = r ∧ IntKind.i64.wrap (r + k) = r + k ∧ (r + k).tmod k = (d : Int) ∧ (d : Int) < k := by
 have h1 := Int.tmod_lt_of_pos y hk
 have h2 := Int.tmod_lt_of_pos (-y) hk
 rw [Int.neg_tmod] at h2
 obtain ⟨r, hr⟩ : ∃ r, y.tmod k = r := ⟨_, rfl⟩
 rw [hr] at h1 h2
 have h3 := Int.tmod_nonneg k (show 0 ≤ r + k by omega)
 have h4 := Int.tmod_lt_of_pos (r + k) hk
 exact ⟨r, ((r + k).tmod k).toNat, hr, IntWalk.i64_in _ (by omega), by omega, by omega⟩
theorem parsed {s : ByteArray} {t : Nd} {w : World} {e : Ending} {w' : World} (h : ParseP (parseS s) w e w') (ht : parseS s = .some t) : ∃ k A n c nt A2 n2 c2 mn mx, e = .returned (.tuple #[Nv.v ⟨k, A, n, c, nt, A2, n2, c2, mn, mx⟩, .int .i64 0]) ∧ NdO w' (fun b => w.heap.size ≤ b) t ⟨k, A, n, c, nt, A2, n2, c2, mn, mx⟩ ∧ Below w.heap.size w w' := by
 rw [ht] at h
 obtain ⟨⟨k, A, n, c, nt, A2, n2, c2, mn, mx⟩, h1, h2, h3⟩ := h
 exact ⟨k, A, n, c, nt, A2, n2, c2, mn, mx, h1, h2, h3⟩
theorem ends_some {L : List Nat} {w : World} {e : Ending} {w' : World} (h : EndsPost L w e w') : ∃ A c, e = .returned (.slice A L.length c) ∧ Sq w' w'.heap.size 1 L.length A (nums L) ∧ L.length ≤ c ∧ Below w.heap.size w w' := by
 obtain ⟨v, rfl, ho, hb⟩ := h
 obtain ⟨A, c, rfl⟩ := own_len ho
 refine ⟨A, c, rfl, Sq.own ho, ?_, hb⟩
 rcases ho.2 with ⟨h1, h2⟩ | ⟨g, cap, cur, h1, _, _, h3, _⟩
 ·rw [h2]; exact Nat.zero_le _
 ·injection h1 with _ _ h1; omega
theorem star_ascii : ∀ d, ∀ x ∈ starL d, 0 ≤ x ∧ x < 128
 | 0 => by intro x hx; simp [starL] at hx; omega
 | d + 1 => by
  intro x hx
  simp [starL] at hx
  rcases hx with hx | hx | hx
  ·omega
  ·exact star_ascii d x hx
  ·omega
theorem star_len : ∀ d, (starL d).length = 3 * d + 2
 | 0 => rfl
 | d + 1 => by simp [starL, star_len d]; omega
theorem star_wt : ∀ d, wt (starN d) = d + 2
 | 0 => by simp [starN, timesN, oneN, wt, wts]
 | d + 1 => by rw [starN, timesN, wt, wts, wts, star_wt d]; simp
theorem bulk_le {H : Type} {l : List (DataW H)} (hk : Rows.uptoSmall H l = true) : Rows.uptoBulkAll l ≤ 1048576 := of_decide_eq_true hk
end NF
end Go.Proofs.YtbmldpodcipncaaGreatDoor
