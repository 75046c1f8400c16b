/-
  A pattern's machine, as a law has it: what it weighs, where it ends; a text's signs; a number of one digit. Texts of signs below 128; numbers brought into a range. A number of one digit as a text. The reference's Count and Deep. The reference's Weight. Repeats of repeats as a text: what is read, what it weighs. Nothing of the program. Nested repeats as a text, in memory: what is read of them.
-/
import Derived.Test.YtbmldpodcipncaaGreatDoorQFBase8
import Derived.Test.YtbmldpodcipncaaGreatDoorQFBase11
import Derived.Test.YtbmldpodcipncaaGreatDoorQFBase4
import Derived.Test.YtbmldpodcipncaaGreatDoorQFLaw0
import Derived.Test.YtbmldpodcipncaaGreatDoorQFBase9
namespace Go.Proofs.YtbmldpodcipncaaGreatDoor
open Go.ChangeShapes Go.WideShapes Go.ChangeAt Go.RowKit
namespace NF
theorem all_sets' (n : Nd) : sets (fun _ => True) n := by
 have key : ∀ (k : Nat) (n : Nd), deep n ≤ k → sets (fun _ => True) n := by
  intro k
  induction k with
  | zero => intro n h; cases n; rw [deep] at h; omega
  | succ k ih =>
   intro n h
   obtain ⟨a, s, nt, ks, mn, mx⟩ := n
   rw [deep] at h
   rw [sets]
   refine ⟨trivial, ?_⟩
   have : ∀ (l : List Nd), deeps l ≤ k → setss (fun _ => True) l := by
    intro l
    induction l with
    | nil => intro _; rw [setss]; trivial
    | cons x xs ihl =>
     intro hl
     rw [deeps] at hl
     rw [setss]
     exact ⟨ih x (by omega), ihl (by omega)⟩
   exact this ks (by omega)
 exact key (deep n) n (Nat.le_refl _)
def Prg (w : World) (B p : Nat) (t : Nd) : Prop := may t = true ∧ ∃ t2, OwnOf t t2 ∧ MAt w B p (mach t2) (start t2) ∧ (mach t2).length = wt t
theorem Prg.below {w w' : World} {B p : Nat} {t : Nd} (h : Prg w B p t) (hb : Below B w w') : Prg w' B p t := by
 obtain ⟨h1, t2, h2, h3, h4⟩ := h
 refine ⟨h1, t2, h2, ?_, h4⟩
 obtain ⟨b, c, e1, e2, e3⟩ := h3.box
 exact ⟨⟨b, c, (hb.cell (p := ⟨p, _, none⟩) h3.low).trans e1, e2, fun q s hs => (e3 q s hs).below hb e2⟩, (hb.cell (p := ⟨p, _, none⟩) h3.low).trans h3.start, h3.low, h3.big, h3.ok⟩
theorem Prg.up {w : World} {B B' p : Nat} {t : Nd} (h : Prg w B p t) (hB : B ≤ B') : Prg w B' p t := by
 obtain ⟨h1, t2, h2, h3, h4⟩ := h
 refine ⟨h1, t2, h2, ?_, h4⟩
 obtain ⟨b, c, e1, e2, e3⟩ := h3.box
 exact ⟨⟨b, c, e1, by omega, fun q s hs => (e3 q s hs).up hB⟩, h3.start, by have := h3.low; omega, h3.big, h3.ok⟩
def CompOk (t : Nd) (w : World) (e : Ending) (w' : World) : Prop := ∃ p, e = .returned (.tuple #[.pointer (some ⟨p, 0, none⟩), .int .i64 0]) ∧ Prg w' w'.heap.size p t ∧ Below w.heap.size w w'
theorem compile_ok (t : Nd) (x : Nv) (lo : Nat) (w : World) (hx : NdIn w lo w.heap.size t x) (hm : may t = true) (hd : deep t ≤ 40) (hc : count t ≤ 2000) (hw : wt t ≤ 20000) :
  Calls Tryz.prog 15 #[x.v] w fun e w' => CompOk t w e w' := by
 refine (compile_walk t x lo w hx hd hc).mono ?_
 rintro e w' ⟨b, _, _, h⟩
 obtain ⟨p, t2, rfl, h1, h2, h3⟩ := h hm hw
 exact ⟨p, rfl, ⟨hm, t2, h1, h2, h3⟩, b⟩
theorem prg_size {w : World} {B p : Nat} {t : Nd} (h : Prg w B p t) : Calls Tryz.prog 18 #[.pointer (some ⟨p, 0, none⟩)] w fun e w' => e = .returned (.int .i64 (wt t : Int)) ∧ w' = w := by
 obtain ⟨h1, t2, h2, h3, h4⟩ := h
 rw [← h4]
 exact size_walk B p (mach t2) (start t2) w h3
theorem prg_ends {w : World} {B p : Nat} {t : Nd} (h : Prg w B p t) (A : Option Addr) (n c a : Nat) (l : List Int) (ha : a ≤ n) (hn : n ≤ 1000000) (hB : B ≤ w.heap.size) (hl : l.length = n) (hq : Sq w w.heap.size 1 n A (runesV l)) :
  Calls Tryz.prog 20 #[.pointer (some ⟨p, 0, none⟩), .slice A n c, .int .i64 (a : Int)] w fun e w' => EndsPost (endsL (fun e => Mat l t a e) (n + 1)) w e w' := by
 obtain ⟨h1, t2, h2, h3, h4⟩ := h
 obtain ⟨m1, m2, _, _⟩ := own_same l t t2 h2 h1
 have hst : start t2 ≤ (mach t2).length := by
  rw [mach_len m1]
  exact (lead_ok (wt t2) (fun _ => True) trivial t2 0 (wt t2) m1 (all_sets' t2) (by omega) (Nat.le_refl _)).2.1
 have := ends_in B p (mach t2) (start t2) A n c a l w h3 (by rw [h4]; exact wt_pos _ h1) ha hn hst hB hl hq
 rwa [endsL_congr (Q := fun e => Mat l t a e) (n + 1) fun e _ => rch_end h1 h2 a e] at this
def TextP (s : ByteArray) (k : Nat) (w : World) (e : Ending) (w' : World) : Prop := ∃ A c n, e = .returned (.slice A n c) ∧ Sq w' w'.heap.size 1 n A (runesV ((runO st0 (octs s)).take k)) ∧ ((runO st0 (octs s)).take k).length = n ∧ n ≤ k ∧ n ≤ c ∧ Below w.heap.size w w'
set_option maxRecDepth 100000 in
set_option maxHeartbeats 3200000 in
theorem text_walk (s : ByteArray) (hs : s.size ≤ 274877906944) (k : Nat) (hk : k ≤ 1000) (w : World) : Calls Tryz.prog 14 #[.string s, .int .i64 (k : Int)] w fun e w' => TextP s k w e w' := by
 have RW := Lib.hid (refAll_walk s hs w)
 unfold TextP
 unfold RefAllPost at RW
 obtain ⟨l, hl⟩ : ∃ l, runO st0 (octs s) = l := ⟨_, rfl⟩
 obtain ⟨q, hq⟩ : ∃ q, (runS st0 (octs s)).waits = q := ⟨_, rfl⟩
 rw [hl, hq] at RW
 rw [hl]
 have hln := runO_length (octs s) st0
 rw [hl, octs_length] at hln
 have LN := Lib.hid hln
 clear hl hq hln
 go_enter Tryz.func14, Tryz.ntmps14
 go_wp2_with fail
 refine RW.out.mono ?_
 rintro e w1 ⟨v, rfl, hh, b⟩
 obtain ⟨A, c, rfl⟩ := hh.shape
 have hsq := (hh.sq).2
 have hnc : l.length ≤ c := by
  rcases hh.2 with ⟨h1, h2⟩ | ⟨g, cap, cur, h1, _, _, h3, _⟩
  ·rw [h2]; exact Nat.zero_le _
  ·injection h1 with _ _ h1; omega
 obtain ⟨m, hm⟩ : ∃ m, min l.length k = m := ⟨_, rfl⟩
 have hmi : min (l.length : Int) (k : Int) = (m : Int) := by omega
 have SQ := Lib.hid (show Sq w1 w1.heap.size 1 m A (runesV (l.take k)) from by
  refine ⟨by simp [runesV]; omega, fun h0 => ?_⟩
  obtain ⟨b, off, e1, e2, e3⟩ := hsq.spot (by omega)
  refine ⟨b, off, e1, e2, fun j u hu => e3 j u ?_⟩
  have : runesV (l.take k) = (l.map (Value.int .i32)).take k := by unfold runesV; rw [List.map_take]
  rw [this, List.getElem?_take] at hu
  split at hu
  ·exact hu
  ·cases hu)
 have TL := Lib.hid (show (l.take k).length = m by rw [List.length_take]; omega)
 have BB := Lib.hid b
 have hmk : m ≤ k := by omega
 have hm0 : (0 : Int) ≤ (m : Int) := by omega
 have hmc : (m : Int) ≤ (c : Int) := by omega
 have hmc' : m ≤ c := by omega
 have hml : (m : Int) ≤ (l.length : Int) := by omega
 obtain ⟨n, hn⟩ : ∃ n, l.length = n := ⟨_, rfl⟩
 rw [hn] at hmi hml
 rw [hn]
 clear hh b RW hsq hnc hm hn
 go_wp2_with fail
 go_ret
 exact ⟨_, _, _, rfl, SQ.out, TL.out, hmk, hmc', BB.out⟩
end NF
end Go.Proofs.YtbmldpodcipncaaGreatDoor
namespace Go.Proofs.YtbmldpodcipncaaGreatDoor
open Go.ChangeShapes Go.WideShapes Go.ChangeAt Go.RowKit
namespace NF
theorem octs_app (a b : ByteArray) : octs (a ++ b) = octs a ++ octs b := by
 unfold octs
 rw [← List.map_append, ByteArray.data_append, Array.toList_append]
theorem run_ascii : ∀ (l : List Int), (∀ x ∈ l, 0 ≤ x ∧ x < 128) → runO st0 l = l ∧ runS st0 l = st0
 | [], _ => ⟨rfl, rfl⟩
 | x :: l, h => by
  have hx := h x List.mem_cons_self
  have hg : ¬ goes st0 x := fun hg => by have := hg.1; simp [st0] at this
  have h1 : stO st0 x = [x] := by
   unfold stO
   rw [if_neg hg]
   unfold begO brk
   rw [if_pos hx.2]
   rfl
  have h2 : stS st0 x = st0 := by
   unfold stS
   rw [if_neg hg]
   unfold begS
   rw [if_pos hx.2]
  obtain ⟨i1, i2⟩ := run_ascii l fun y hy => h y (List.mem_cons_of_mem _ hy)
  constructor
  ·rw [runO, h1, h2, i1]; rfl
  ·rw [runS, h2, i2]
theorem all_ascii {l : List Int} (h : ∀ x ∈ l, 0 ≤ x ∧ x < 128) : allO l = l := by
 unfold allO
 rw [(run_ascii l h).1, (run_ascii l h).2]
 simp [brk, st0]
theorem parseS_ascii {s : ByteArray} {l : List Int} (hs : octs s = l) (h : ∀ x ∈ l, 0 ≤ x ∧ x < 128) (hn : l.length ≤ 60) : parseS s = parseL l := by
 unfold parseS
 have hz : s.size = l.length := by rw [← hs, octs_length]
 rw [if_neg (by omega), hs, all_ascii h, if_neg fun hm => by have := h _ hm; omega]
theorem mod_range (y k : Int) (hk : 0 < k) (hk2 : k ≤ 1000) : ∃ (r : Int) (d : Nat), y.tmod k = r ∧ IntKind.i64.wrap (r + k) = r + k ∧ (r + k).tmod k = (d : Int) ∧ (d : Int) < k := by
 have h1 := Int.tmod_lt_of_pos y hk
 have h2 := Int.tmod_lt_of_pos (-y) hk
 rw [Int.neg_tmod] at h2
 obtain ⟨r, hr⟩ : ∃ r, y.tmod k = r := ⟨_, rfl⟩
 rw [hr] at h1 h2
 have h3 := Int.tmod_nonneg k (show 0 ≤ r + k by omega)
 have h4 := Int.tmod_lt_of_pos (r + k) hk
 exact ⟨r, ((r + k).tmod k).toNat, hr, IntWalk.i64_in _ (by omega), by omega, by omega⟩
theorem parsed {s : ByteArray} {t : Nd} {w : World} {e : Ending} {w' : World} (h : ParseP (parseS s) w e w') (ht : parseS s = .some t) : ∃ k A n c nt A2 n2 c2 mn mx, e = .returned (.tuple #[Nv.v ⟨k, A, n, c, nt, A2, n2, c2, mn, mx⟩, .int .i64 0]) ∧ NdO w' (fun b => w.heap.size ≤ b) t ⟨k, A, n, c, nt, A2, n2, c2, mn, mx⟩ ∧ Below w.heap.size w w' := by
 rw [ht] at h
 obtain ⟨⟨k, A, n, c, nt, A2, n2, c2, mn, mx⟩, h1, h2, h3⟩ := h
 exact ⟨k, A, n, c, nt, A2, n2, c2, mn, mx, h1, h2, h3⟩
theorem ends_some {L : List Nat} {w : World} {e : Ending} {w' : World} (h : EndsPost L w e w') : ∃ A c, e = .returned (.slice A L.length c) ∧ Sq w' w'.heap.size 1 L.length A (nums L) ∧ L.length ≤ c ∧ Below w.heap.size w w' := by
 obtain ⟨v, rfl, ho, hb⟩ := h
 obtain ⟨A, c, rfl⟩ := own_len ho
 refine ⟨A, c, rfl, Sq.own ho, ?_, hb⟩
 rcases ho.2 with ⟨h1, h2⟩ | ⟨g, cap, cur, h1, _, _, h3, _⟩
 ·rw [h2]; exact Nat.zero_le _
 ·injection h1 with _ _ h1; omega
theorem star_ascii : ∀ d, ∀ x ∈ starL d, 0 ≤ x ∧ x < 128
 | 0 => by intro x hx; simp [starL] at hx; omega
 | d + 1 => by
  intro x hx
  simp [starL] at hx
  rcases hx with hx | hx | hx
  ·omega
  ·exact star_ascii d x hx
  ·omega
theorem star_len : ∀ d, (starL d).length = 3 * d + 2
 | 0 => rfl
 | d + 1 => by simp [starL, star_len d]; omega
theorem star_wt : ∀ d, wt (starN d) = d + 2
 | 0 => by simp [starN, timesN, oneN, wt, wts]
 | d + 1 => by rw [starN, timesN, wt, wts, wts, star_wt d]; simp
theorem times_wt (s a b : Int) : wt (timesN (oneN s) a b) = if b < 0 then a.toNat + 2 else b.toNat + 1 := by
 simp [timesN, oneN, wt, wts]
theorem first_cell {w : World} {B m c k : Nat} {A : Option Addr} {L : List Nat} (h : Sq w B 1 (c + 1) A (nums L)) (hL : List.range' m k = L) (hl : L.length = c + 1) :
  ∃ b off, A = some ⟨b, off, none⟩ ∧ w.cell? ⟨b, off, none⟩ = some (.int .i64 (m : Int)) ∧ w.cell? ⟨b, off + c, none⟩ = some (.int .i64 ((m + c : Nat) : Int)) := by
 obtain ⟨b, off, e, _, hc⟩ := h.spot (by omega)
 have hk : k = c + 1 := by rw [← hl, ← hL, List.length_range']
 have g : ∀ i, i ≤ c → (nums L)[i]? = some (.int .i64 ((m + i : Nat) : Int)) := fun i hi => by
  unfold nums
  rw [List.getElem?_map, ← hL, List.getElem?_range' (by omega)]
  simp
 exact ⟨b, off, e, hc 0 _ (g 0 (Nat.zero_le _)), hc c _ (g c (Nat.le_refl _))⟩
theorem bulk_le {H : Type} {l : List (DataW H)} (hk : Rows.uptoSmall H l = true) : Rows.uptoBulkAll l ≤ 1048576 := of_decide_eq_true hk
end NF
end Go.Proofs.YtbmldpodcipncaaGreatDoor
namespace Go.Proofs.YtbmldpodcipncaaGreatDoor
open Go.ChangeShapes Go.WideShapes Go.ChangeAt Go.RowKit
namespace NF
def digT (k : Nat) : ByteArray := ⟨#[UInt8.ofNat (48 + k)]⟩
theorem octs_dig {k : Nat} (hk : k < 10) : octs (digT k) = [48 + (k : Int)] := by
 unfold octs digT
 simp
 omega
theorem conv_dig (w : World) (n k : Nat) (hn : w.heap.size = n) (hk : k < 10) :
  (convert 83 9 (.slice (some ⟨n, 0, none⟩) 1 1)).run Tryz.prog (w.alloc (.cells #[.int .u8 (48 + (k : Int))] 5)) = .ok (.string (digT k)) (w.alloc (.cells #[.int .u8 (48 + (k : Int))] 5)) := by
 subst hn
 have key := run_convert_bytes_back (P := Tryz.prog) (w.alloc (.cells #[.int .u8 (48 + (k : Int))] 5)) 83 9 5 ⟨w.heap.size, 0, none⟩ 1 [UInt8.ofNat (48 + k)] Tryz.underlying83 Tryz.underlying5 Tryz.underlying9 (fun j hj => by
  obtain rfl : j = 0 := by simp at hj; omega
  rw [add_spot, cell_of_row _ _ _ _ _ (0, 0) (heap_alloc_new w _)]
  simp
  omega)
 exact key
set_option maxRecDepth 100000 in
set_option maxHeartbeats 1600000 in
theorem number_walk (k : Nat) (hk : k < 10) (w : World) : Calls Tryz.prog 26 #[.int .i64 (k : Int)] w fun e w' => e = .returned (.string (digT k)) ∧ Below w.heap.size w w' := by
 have h1 : (k : Int) < 10 := by omega
 have h2 : IntKind.i64.wrap (48 + (k : Int)) = 48 + (k : Int) := IntWalk.i64_in _ (by omega)
 have CD := Lib.hid (conv_dig w w.heap.size k rfl hk)
 go_enter Tryz.func26, Tryz.ntmps26
 go_wp2_with fail
 rw [CD.out]
 go_wp2_with fail
 go_ret
 exact ⟨rfl, (Below.refl _ _).alloc (Nat.le_refl _) _⟩
end NF
end Go.Proofs.YtbmldpodcipncaaGreatDoor

namespace Go.Proofs.YtbmldpodcipncaaGreatDoor
open Go.ChangeShapes Go.WideShapes Go.ChangeAt Go.RowKit
namespace NF
theorem may_leaf {k : Int} {s : Sg} {nt : Bool} {n : Nat} {mn mx : Int} (h : mayAlone k s nt n mn mx = true) (h3 : k ≠ 3) (h4 : k ≠ 4) (h5 : k ≠ 5) : n = 0 := by
 unfold mayAlone at h
 split at h
 ·simp at h; exact h.1.1.2
 ·rw [if_neg (by omega)] at h
  try rw [if_neg h5] at h
  split at h
  ·simp at h; exact h.1.1.2
  ·cases h
theorem mul_cap {c m k C : Nat} (hk : 0 < k) (h : m = min c C) : min (m * k + 1) C = min (c * k + 1) C := by
 subst h
 rcases Nat.le_total c C with h1 | h1
 ·rw [Nat.min_eq_left h1]
 ·rw [Nat.min_eq_right h1]
  have h2 : C * 1 ≤ C * k := Nat.mul_le_mul_left C hk
  have h3 : C * k ≤ c * k := Nat.mul_le_mul_right k h1
  omega
theorem mul_ten {m k C : Nat} (hm : m ≤ C) (hk : k ≤ 10) : m * k ≤ C * 10 := Nat.mul_le_mul hm hk
theorem wrap_small (x : Nat) (h : x ≤ 100000000) : IntKind.i64.wrap (x : Int) = (x : Int) := IntWalk.i64_in _ (by omega)
theorem min_over {v C : Nat} (h : (C : Int) < (v : Int)) : min C C = min v C := by omega
theorem not_over {v C : Nat} (h : ¬ (C : Int) < (v : Int)) : v ≤ C + 1 := by omega
theorem min_cast {v u C : Nat} (h : min v C = u) : min (v : Int) (C : Int) = (u : Int) := by omega
theorem min_idem {v u C : Nat} (h : min v C = u) : u ≤ C + 1 ∧ min u C = min v C := by omega
theorem rep_facts {a : Int} {m c : Nat} (h0 : 0 ≤ a) (h9 : a ≤ 9) (hm : m ≤ 1000000) (hmc : m = min c 1000000) :
  ∃ (P : Int) (v : Nat), IntKind.i64.wrap (a + 1) = a + 1 ∧ IntKind.i64.wrap ((m : Int) * (a + 1)) = P ∧ IntKind.i64.wrap (P + 1) = (v : Int) ∧ min v 1000000 = min (c * (a.toNat + 1) + 1) 1000000 := by
 obtain ⟨k, hk⟩ : ∃ k, a.toNat + 1 = k := ⟨_, rfl⟩
 have hak : a + 1 = (k : Int) := by omega
 have hk1 : 0 < k := by omega
 have hk10 : k ≤ 10 := by omega
 have hmk := mul_ten hm hk10
 rw [hak, hk, ← mul_cap hk1 hmc, show (m : Int) * (k : Int) = ((m * k : Nat) : Int) from (Int.natCast_mul m k).symm]
 generalize m * k = q at hmk ⊢
 refine ⟨(q : Int), q + 1, wrap_small k (by omega), wrap_small q (by omega), ?_, rfl⟩
 rw [show (q : Int) + 1 = ((q + 1 : Nat) : Int) from rfl]
 exact wrap_small _ (by omega)
theorem rep_facts2 {b : Int} {m c : Nat} (h0 : 0 ≤ b) (h9 : b ≤ 9) (hm : m ≤ 1000000) (hmc : m = min c 1000000) :
  ∃ (P : Int) (v : Nat), IntKind.i64.wrap ((m : Int) * b) = P ∧ IntKind.i64.wrap (P + 1) = (v : Int) ∧ min v 1000000 = min (c * b.toNat + 1) 1000000 := by
 obtain ⟨k, rfl⟩ : ∃ k : Nat, b = (k : Int) := ⟨b.toNat, by omega⟩
 have hk10 : k ≤ 10 := by omega
 have hmk := mul_ten hm hk10
 have he : min (m * k + 1) 1000000 = min (c * k + 1) 1000000 := by
  rcases Nat.eq_zero_or_pos k with h | h
  ·rw [h]; simp
  ·exact mul_cap h hmc
 rw [Int.toNat_natCast, ← he, show (m : Int) * (k : Int) = ((m * k : Nat) : Int) from (Int.natCast_mul m k).symm]
 generalize m * k = q at hmk ⊢
 refine ⟨(q : Int), q + 1, wrap_small q (by omega), ?_, rfl⟩
 rw [show (q : Int) + 1 = ((q + 1 : Nat) : Int) from rfl]
 exact wrap_small _ (by omega)
theorem wts_take : ∀ {ks : List Nd} {i : Nat} {y : Nd}, ks[i]? = some y → wts (ks.take (i + 1)) = wts (ks.take i) + wt y
 | [], i, y, h => by simp at h
 | z :: zs, 0, y, h => by
  simp at h
  subst h
  simp [wts]
 | z :: zs, i + 1, y, h => by
  have := wts_take (ks := zs) (i := i) (y := y) (by simpa using h)
  rw [List.take_succ_cons, List.take_succ_cons, wts, wts, this]
  omega
set_option maxRecDepth 100000 in
set_option maxHeartbeats 3200000 in
theorem refWeight_walk : ∀ (fuel : Nat) (t : Nd) (x : Nv) (lo B : Nat) (w : World), deep t ≤ fuel → may t = true → B ≤ w.heap.size → NdIn w lo B t x →
  Calls Tryz.prog 17 #[x.v] w fun e w' => ∃ v : Nat, e = .returned (.int .i64 (v : Int)) ∧ v ≤ 1000001 ∧ min v 1000000 = min (wt t) 1000000 ∧ Below w.heap.size w w' := by
 intro fuel
 induction fuel with
 | zero =>
  intro t x lo B w hf
  cases t
  rw [deep] at hf
  omega
 | succ fuel ih =>
  intro t x lo B w hf hct hBw hx
  obtain ⟨k0, s0, nt0, ks, mn0, mx0⟩ := t
  rw [NdIn] at hx
  obtain ⟨e1, e2, e3, e4, xs, ho, hk⟩ := hx
  obtain ⟨k, A, n, c, nt, A2, n2, c2, mn, mx⟩ := x
  dsimp only at e1 e2 e3 e4
  subst e1 e2 e3 e4
  obtain ⟨w1, hw1, k1, b1, z1⟩ := boxed_node w k A n c nt A2 n2 c2 mn mx
  rw [deep] at hf
  obtain ⟨ma, mk⟩ := mays_kind hct
  have hwt : wt (.mk k s0 nt ks mn mx) = if k = 3 then wts ks else if k = 5 then (if mx < 0 then wts ks * (mn.toNat + 1) + 1 else wts ks * mx.toNat + 1) else wts ks + 1 := by rw [wt]
  rw [hwt]
  have MA := Lib.hid ma
  have hlen : ks.length = n2 := ho.len
  have hm2 : n2 ≤ 1759218604441 := ho.many2
  have K1 := Lib.hid k1
  have OW := Lib.hid ho
  have KW := Lib.hid hk
  have HF := Lib.hid hf
  have CT := Lib.hid mk
  have HL := Lib.hid hlen
  have HB := Lib.hid hBw
  have Z1 := Lib.hid z1
  have I0 := Lib.hid (show Below w.heap.size w w1 ∧ Below w1.heap.size w1 w1 from ⟨b1, Below.refl _ _⟩)
  obtain ⟨CK, hCK⟩ : ∃ v, wts ks = v := ⟨_, rfl⟩
  have CKH := Lib.hid hCK
  rw [hCK]
  dsimp only [Nv.v]
  clear ho hk k1 b1 z1 hlen hBw hf hct hCK ma mk hwt
  go_enter Tryz.func17, Tryz.ntmps17
  go_wp2_with fail
  go_loopw [4, 3] (fun y s3 wr => ∃ i m : Nat, y = .int .i64 (i : Int) ∧ i ≤ n2 ∧ s3 = .int .i64 (m : Int) ∧ m ≤ 1000000 ∧ Hid (m = min (wts (ks.take i)) 1000000) ∧ Hid (Below w.heap.size w wr ∧ Below w1.heap.size w1 wr)) (fun y _ _ => n2 - (intOf y).toNat)
  case atStart => exact ⟨0, 0, rfl, Nat.zero_le _, rfl, by omega, Lib.hid (by simp [wts]), I0⟩
  case round =>
   obtain ⟨i, m, rfl, hi, rfl, hm, MH, I⟩ := hrel
   clear I0 hw1
   have hi0 : (0 : Int) ≤ (i : Int) := by omega
   have hinc : IntKind.i64.wrap ((i : Int) + 1) = (i : Int) + 1 := IntWalk.i64_in _ (by omega)
   have nb := K1.out.below I.out.2 (by rw [Z1.out]; omega)
   obtain ⟨y0, y1, y2, y3, y4, y5⟩ := nv_bk nb
   by_cases hlt : i < n2
   ·obtain ⟨y, hy⟩ : ∃ y, ks[i]? = some y := ⟨_, List.getElem?_eq_getElem (by rw [HL.out]; exact hlt)⟩
    obtain ⟨xi, hxi, hin⟩ := (KW.out.below (I.out.1.mono HB.out)).at i y hy
    obtain ⟨b, off, rfl, _, nv⟩ := kid_at (OW.out.carry fun p hp => I.out.1.cell (Nat.lt_of_lt_of_le hp HB.out)).kids hxi hlt
    obtain ⟨ki, Ai, ni, ci, nti, A2i, n2i, c2i, mni, mxi⟩ := xi
    obtain ⟨u0, u1, u2, u3, u4, u5⟩ := nv_at nv
    have hi1 : (i : Int) < (n2 : Int) := by omega
    have q3 := deeps_at hy
    have q1 : wts (ks.take (i + 1)) = wts (ks.take i) + wt y := wts_take hy
    have IH := Lib.hid (ih y ⟨ki, Ai, ni, ci, nti, A2i, n2i, c2i, mni, mxi⟩ lo B wr (by have := HF.out; omega) (mays_at CT.out hy) (Nat.le_trans HB.out I.out.1.size) (hin.below (Below.refl _ _)))
    have Q1 := Lib.hid q1
    have IN := Lib.hid I.out
    dsimp only [Nv.v] at IH
    clear hin nv nb I hy hxi q1 q3
    go_wp2_with fail
    refine IH.out.mono ?_
    rintro e w5 ⟨m1, rfl, hv1, hv2, b7⟩
    have hmh := MH.out
    have hadd : IntKind.i64.wrap ((m : Int) + (m1 : Int)) = (m : Int) + (m1 : Int) := IntWalk.i64_in _ (by omega)
    obtain ⟨mm, hmm⟩ : ∃ v, min (m + m1) 1000000 = v := ⟨_, rfl⟩
    have hmin : min ((m : Int) + (m1 : Int)) 1000000 = (mm : Int) := by omega
    have M2 := Lib.hid (show mm = min (wts (ks.take (i + 1))) 1000000 from by rw [Q1.out]; omega)
    have ML := Lib.hid (show mm ≤ 1000000 from by omega)
    clear hmh hmm hv1 hv2 MH hm Q1
    have I5 := Lib.hid (show Below w.heap.size w w5 ∧ Below w1.heap.size w1 w5 from ⟨IN.out.1.trans (b7.mono IN.out.1.size), IN.out.2.trans (b7.mono IN.out.2.size)⟩)
    clear IH b7 u0 u1 u2 u3 u4 u5 y0 y1 y2 y3 y4 y5 IN
    go_wp2_with fail
    go_roundw
    case rel => exact ⟨i + 1, mm, by first | rfl | (congr 1; done) | (congr 1; omega), by omega, by first | rfl | (congr 1; done) | (congr 1; omega), ML.out, M2, I5⟩
    case measure => first | (simp [intOf]; done) | (simp [intOf]; omega)
   ·obtain rfl : i = n2 := by omega
    have F := Lib.hid (show m = min CK 1000000 from by have := MH.out; rw [List.take_of_length_le (by rw [HL.out]; exact Nat.le_refl _), CKH.out] at this; exact this)
    have IN := Lib.hid I.out.1
    have L0 := Lib.hid (show ks.length = 0 → CK = 0 from fun h => by rw [← CKH.out, List.length_eq_zero_iff.1 h, wts])
    have hml := hm
    clear MH I nb
    have hma := MA.out
    rcases may_kind hma with rfl | rfl | rfl | rfl | rfl | rfl
    ·have hz := L0.out (may_leaf hma (by decide) (by decide) (by decide))
     clear hma
     go_wp2_with fail
     go_ret
     exact ⟨1, rfl, by omega, by first | omega | (simp; omega), IN.out⟩
    ·clear hma
     go_wp2_with fail
     go_ret
     exact ⟨m, rfl, by omega, by have := F.out; first | omega | (simp; omega), IN.out⟩
    ·clear hma
     have hadd : IntKind.i64.wrap ((m : Int) + 1) = (m : Int) + 1 := IntWalk.i64_in _ (by omega)
     go_wp2_with fail
     go_ret
     exact ⟨m + 1, by first | rfl | (congr 1; congr 1; omega), by omega, by have := F.out; first | omega | (simp; omega), IN.out⟩
    ·obtain ⟨_, r1, r2, r3⟩ := may_rep hma
     clear hma
     by_cases hmx : mx < 0
     ·obtain ⟨P, v, f1, f2, f3, g2⟩ := rep_facts r1 r2 hm F.out
      have G := Lib.hid g2
      have G1 := Lib.hid (show 1000000 < (v : Int) → min 1000000 1000000 = min v 1000000 from fun h => min_over (C := 1000000) h)
      have G2 := Lib.hid (show ¬ 1000000 < (v : Int) → v ≤ 1000001 from fun h => not_over (C := 1000000) h)
      obtain ⟨u, hu⟩ : ∃ u, min v 1000000 = u := ⟨_, rfl⟩
      have hmn : min (v : Int) 1000000 = (u : Int) := min_cast (C := 1000000) hu
      have U := Lib.hid (min_idem hu)
      clear g2 r1 r2 r3 hu
      go_wp2_with fail
      all_goals go_ret
      all_goals first
       | exact ⟨u, rfl, U.out.1, U.out.2.trans G.out, IN.out⟩
       | exact ⟨1000000, rfl, by decide, (G1.out (by assumption)).trans G.out, IN.out⟩
       | exact ⟨v, rfl, G2.out (by first | assumption | omega), G.out, IN.out⟩
     ·obtain ⟨P, v, f2, f3, g2⟩ := rep_facts2 (show 0 ≤ mx by omega) (show mx ≤ 9 by omega) hm F.out
      have G := Lib.hid g2
      have G1 := Lib.hid (show 1000000 < (v : Int) → min 1000000 1000000 = min v 1000000 from fun h => min_over (C := 1000000) h)
      have G2 := Lib.hid (show ¬ 1000000 < (v : Int) → v ≤ 1000001 from fun h => not_over (C := 1000000) h)
      obtain ⟨u, hu⟩ : ∃ u, min v 1000000 = u := ⟨_, rfl⟩
      have hmn : min (v : Int) 1000000 = (u : Int) := min_cast (C := 1000000) hu
      have U := Lib.hid (min_idem hu)
      clear g2 r1 r2 r3 hu
      go_wp2_with fail
      all_goals go_ret
      all_goals first
       | exact ⟨u, rfl, U.out.1, U.out.2.trans G.out, IN.out⟩
       | exact ⟨1000000, rfl, by decide, (G1.out (by assumption)).trans G.out, IN.out⟩
       | exact ⟨v, rfl, G2.out (by first | assumption | omega), G.out, IN.out⟩
    ·have hz := L0.out (may_leaf hma (by decide) (by decide) (by decide))
     clear hma
     go_wp2_with fail
     go_ret
     exact ⟨1, rfl, by omega, by first | omega | (simp; omega), IN.out⟩
    ·have hz := L0.out (may_leaf hma (by decide) (by decide) (by decide))
     clear hma
     go_wp2_with fail
     go_ret
     exact ⟨1, rfl, by omega, by first | omega | (simp; omega), IN.out⟩
end NF
end Go.Proofs.YtbmldpodcipncaaGreatDoor
namespace Go.Proofs.YtbmldpodcipncaaGreatDoor.NF
def Reads (l : List Int) (n : Nd) (f : Nat) : Prop := ∀ (g : Nat) (z : List Int), f ≤ g → (z = [] ∨ ∃ y, z = 41 :: y) → pieceR (atomR g) ⟨l ++ z, false⟩ = (n, ⟨z, false⟩)
theorem reads_alt {l : List Int} {n : Nd} {f g : Nat} (h : Reads l n f) (hg : f ≤ g) {z : List Int} (hz : z = [] ∨ ∃ y, z = 41 :: y) : altR (atomR g) ⟨l ++ z, false⟩ = (n, ⟨z, false⟩) := by
 have h1 := h g z hg hz
 have h2 : rowSt (atomR g) ⟨z, false⟩ = .none := by
  rcases hz with rfl | ⟨y, rfl⟩
  ·rfl
  ·simp [rowSt, PR.sees]
 have h3 : altSt (atomR g) ⟨z, false⟩ = .none := by
  rcases hz with rfl | ⟨y, rfl⟩
  ·rfl
  ·simp [altSt, PR.sees]
 have hr : rowR (atomR g) ⟨l ++ z, false⟩ = (n, ⟨z, false⟩) := by
  unfold rowR
  rw [h1]
  dsimp only
  rw [fullN_stop h2]
  rfl
 unfold altR
 rw [hr]
 dsimp only
 rw [fullN_stop h3]
 rfl
theorem reads_sign (s : Int) (h : s ≠ 40 ∧ s ≠ 46 ∧ s ≠ 91 ∧ s ≠ 92 ∧ s ≠ 94 ∧ s ≠ 36) (h2 : special s = false) : Reads [s] (oneN s) 1 := by
 intro g z hg hz
 obtain ⟨g, rfl⟩ : ∃ k, g = k + 1 := ⟨g - 1, by omega⟩
 have ha : atomR (g + 1) ⟨s :: z, false⟩ = (oneN s, ⟨z, false⟩) := by
  simp [atomR, PR.next, h, h2]
 have hr : repeatR (oneN s) ⟨z, false⟩ = (oneN s, ⟨z, false⟩) := by
  rcases hz with rfl | ⟨y, rfl⟩
  ·rfl
  ·simp [repeatR, PR.sees]
 unfold pieceR
 rw [List.singleton_append, ha]
 simp [PR.sees, h, hr]
theorem reads_times {l : List Int} {n : Nd} {f : Nat} (h : Reads l n f) (k : Nat) (hk : k < 10) : Reads (40 :: (l ++ [41, 123, 48 + (k : Int), 125])) (timesN n k k) (f + 1) := by
 intro g z hg hz
 obtain ⟨g, rfl⟩ : ∃ i, g = i + 1 := ⟨g - 1, by omega⟩
 have h1 := reads_alt h (show f ≤ g by omega) (z := 41 :: (123 :: (48 + (k : Int)) :: 125 :: z)) (.inr ⟨_, rfl⟩)
 have ha : atomR (g + 1) ⟨40 :: (l ++ [41, 123, 48 + (k : Int), 125] ++ z), false⟩ = (n, ⟨123 :: (48 + (k : Int)) :: 125 :: z, false⟩) := by
  have e : l ++ [41, 123, 48 + (k : Int), 125] ++ z = l ++ 41 :: (123 :: (48 + (k : Int)) :: 125 :: z) := by simp
  rw [e, atomR]
  simp only [PR.next, if_true]
  rw [h1]
  simp [PR.need, PR.sees, PR.tail]
 have hd : digitR ⟨(48 + (k : Int)) :: 125 :: z, false⟩ = ((k : Int), ⟨125 :: z, false⟩) := by
  unfold digitR
  dsimp only [PR.next]
  rw [if_neg (by omega), show (48 : Int) + (k : Int) - 48 = (k : Int) by omega]
 have hb : boundsR ⟨(48 + (k : Int)) :: 125 :: z, false⟩ = (((k : Int), (k : Int)), ⟨z, false⟩) := by
  unfold boundsR
  rw [hd]
  dsimp only
  have hm : mostR (k : Int) ⟨125 :: z, false⟩ = ((k : Int), ⟨125 :: z, false⟩) := by simp [mostR, PR.sees]
  rw [hm]
  dsimp only
  rw [if_neg (by omega)]
  simp [PR.need, PR.sees, PR.tail]
 have hr : repeatR n ⟨123 :: (48 + (k : Int)) :: 125 :: z, false⟩ = (timesN n k k, ⟨z, false⟩) := by
  simp [repeatR, PR.sees, PR.tail, hb]
 unfold pieceR
 rw [List.cons_append, ha]
 simp [PR.sees, hr]
theorem reads_parse {l : List Int} {n : Nd} {f : Nat} (h : Reads l n f) (hf : f ≤ l.length + 1) : parseL l = .some n := by
 have h1 := reads_alt h hf (z := []) (.inl rfl)
 rw [List.append_nil] at h1
 unfold parseL
 dsimp only
 rw [h1]
 rfl
def weighL : List Nat → List Int
 | [] => [120]
 | k :: ks => 40 :: (weighL ks ++ [41, 123, 48 + (k : Int), 125])
def weighN : List Nat → Nd
 | [] => oneN 120
 | k :: ks => timesN (weighN ks) k k
def weighW : List Nat → Nat
 | [] => 1
 | k :: ks => weighW ks * k + 1
theorem weigh_reads : ∀ (ks : List Nat), (∀ k ∈ ks, k < 10) → Reads (weighL ks) (weighN ks) (ks.length + 1)
 | [], _ => reads_sign 120 (by decide) (by decide)
 | k :: ks, h => reads_times (weigh_reads ks fun x hx => h x (List.mem_cons_of_mem _ hx)) k (h k List.mem_cons_self)
theorem weigh_len : ∀ (ks : List Nat), (weighL ks).length = 5 * ks.length + 1
 | [] => rfl
 | k :: ks => by simp [weighL, weigh_len ks]; omega
theorem parse_weigh (ks : List Nat) (h : ∀ k ∈ ks, k < 10) : parseL (weighL ks) = .some (weighN ks) :=
 reads_parse (weigh_reads ks h) (by rw [weigh_len]; omega)
theorem wt_weigh : ∀ (ks : List Nat), wt (weighN ks) = weighW ks
 | [] => by simp [weighN, weighW, oneN, wt, wts]
 | k :: ks => by
  rw [weighN, weighW, timesN, wt, wts, wts, wt_weigh ks]
  simp
  intro h
  omega
theorem weigh_le : ∀ (ks : List Nat), (∀ k ∈ ks, k < 10) → weighW ks ≤ 10 ^ ks.length
 | [], _ => by simp [weighW]
 | k :: ks, h => by
  have h1 := weigh_le ks fun x hx => h x (List.mem_cons_of_mem _ hx)
  have h2 := h k List.mem_cons_self
  have h3 : 1 ≤ 10 ^ ks.length := Nat.one_le_pow _ _ (by omega)
  rw [weighW, List.length_cons, Nat.pow_succ]
  have h4 : weighW ks * k ≤ 10 ^ ks.length * 9 := Nat.mul_le_mul h1 (by omega)
  omega
end Go.Proofs.YtbmldpodcipncaaGreatDoor.NF
namespace Go.Proofs.YtbmldpodcipncaaGreatDoor
open Go.ChangeShapes Go.WideShapes Go.ChangeAt Go.RowKit
namespace NF
theorem weigh_ascii : ∀ (ks : List Nat), (∀ k ∈ ks, k < 10) → ∀ x ∈ weighL ks, 0 ≤ x ∧ x < 128
 | [], _ => by intro x hx; simp [weighL] at hx; omega
 | k :: ks, h => by
  intro x hx
  have hk := h k List.mem_cons_self
  simp [weighL] at hx
  rcases hx with hx | hx | hx | hx | hx | hx
  ·omega
  ·exact weigh_ascii ks (fun y hy => h y (List.mem_cons_of_mem _ hy)) x hx
  ·omega
  ·omega
  ·omega
  ·omega
theorem weigh_step (ks : List Nat) (k : Nat) (h : weighW ks ≤ 1000) (hk : k < 10) : ∃ P : Nat, IntKind.i64.wrap ((weighW ks : Int) * (k : Int)) = (P : Int) ∧ IntKind.i64.wrap ((P : Int) + 1) = (P : Int) + 1 ∧ P + 1 = weighW (k :: ks) := by
 have h1 : weighW ks * k ≤ 1000 * 9 := Nat.mul_le_mul h (by omega)
 refine ⟨weighW ks * k, ?_, IntWalk.i64_in _ (by omega), rfl⟩
 rw [show (weighW ks : Int) * (k : Int) = ((weighW ks * k : Nat) : Int) from (Int.natCast_mul _ _).symm]
 exact wrap_small _ (by omega)
theorem weigh_octs {T : ByteArray} {ks : List Nat} {k : Nat} (h : octs T = weighL ks) (hk : k < 10) : octs (({ data := #[40] } : ByteArray) ++ T ++ { data := #[41, 123] } ++ digT k ++ { data := #[125] }) = weighL (k :: ks) := by
 rw [octs_app, octs_app, octs_app, octs_app, h, octs_dig hk]
 simp [weighL, octs]
theorem refWeight_light (t : Nd) (x : Nv) (lo : Nat) (w : World) (hm : may t = true) (hw : wt t < 1000000) (hx : NdIn w lo w.heap.size t x) :
  Calls Tryz.prog 17 #[x.v] w fun e w' => e = .returned (.int .i64 (wt t : Int)) ∧ Below w.heap.size w w' := by
 refine (refWeight_walk (deep t) t x lo w.heap.size w (Nat.le_refl _) hm (Nat.le_refl _) hx).mono ?_
 rintro e w' ⟨v, rfl, h1, h2, h3⟩
 have : v = wt t := by omega
 rw [this]
 exact ⟨rfl, h3⟩
end NF
end Go.Proofs.YtbmldpodcipncaaGreatDoor
