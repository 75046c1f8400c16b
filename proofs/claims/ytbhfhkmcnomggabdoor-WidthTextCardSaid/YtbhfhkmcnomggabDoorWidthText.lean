/-
  The statement WidthText: a text of two parts is as wide as its parts together, and never wider than two columns a sign. For every two lists of signs (the statement looks at the first twenty of each); it holds where the table of widths is as its initialiser lays it, which the card ties to the program's text.
-/
import Derived.Test.YtbhfhkmcnomggabDoorFrame
import Derived.Test.YtbhfhkmcnomggabDoorArgs
import Derived.Test.YtbhfhkmcnomggabDoorApp
import Derived.RegionTactic
import Derived.ChangeAlike
namespace Go.Proofs.YtbhfhkmcnomggabDoor.widthText
open Go.ChangeShapes Go.WideShapes Go.ChangeAt Go.RowKit

theorem shape_cap {w : World} {B : Nat} {e : TypeId} {s n : Nat} {v : Value} {xs : List Value} (h : w.ownsRow B e s v n xs) : ∃ A c, v = .slice A n c ∧ n ≤ c := by
  rcases h.2 with ⟨rfl, h0⟩ | ⟨g, cap, cur, rfl, _, _, hc, _⟩
  · rw [h0]; exact ⟨_, _, rfl, Nat.le_refl _⟩
  · exact ⟨_, _, rfl, hc⟩
theorem sq_cut {w : World} {B n m : Nat} {A : Option Addr} {l : List Int} (hq : Sq w B 1 n A (l.map (Value.int .i32))) (hm : m ≤ n) : Sq w B 1 m A ((l.take m).map (Value.int .i32)) := by
  have hl := hq.size_ints
  refine ⟨by simp; omega, fun h => ?_⟩
  obtain ⟨b, off, e, hb, hcell⟩ := hq.spot (by omega)
  refine ⟨b, off, e, hb, fun j u hu => hcell j u ?_⟩
  rw [List.map_take, List.getElem?_take] at hu
  split at hu
  · exact hu
  · cases hu
theorem ints_one (l : List Int) : ∀ u ∈ l.map (Value.int .i32), u.oneCell' = true := by
  intro u hu
  obtain ⟨x, _, rfl⟩ := List.mem_map.1 hu
  rfl
theorem fit4 {n : Nat} (h : n ≤ 80) : n ≤ maxLen ∧ n * 4 ≤ 140737488355328 := by unfold maxLen; omega

theorem grown_below {w w' : World} (h : w.grownBy w' none) : Below w.heap.size w w' := ⟨h.os, h.tape, h.output, h.size, fun k hk => h.block k hk (by simp)⟩

set_option maxHeartbeats 1600000 in
theorem walk (A : Option Addr) (n c : Nat) (l : List Int) (hc : n ≤ c) (_ : c ≤ maxLen) (hr : Runes l) (A' : Option Addr) (n' c' : Nat) (l' : List Int) (hc' : n' ≤ c') (_ : c' ≤ maxLen) (hr' : Runes l') (w : World) (hs : Spans w) (hq : Sq w w.heap.size 1 n A (l.map (Value.int .i32))) (hq' : Sq w w.heap.size 1 n' A' (l'.map (Value.int .i32))) : Calls Tryd.prog 3 #[.slice A n c, .slice A' n' c'] w fun e w' => e = .returned (.bool true) ∧ Below w.heap.size w w' := by
  obtain ⟨i0, hi, hz0, hz1, hz2⟩ := info_parts info21
  obtain ⟨m, hm⟩ : ∃ m : Nat, min (n : Int) 20 = (m : Int) := ⟨min n 20, by omega⟩
  obtain ⟨m', hm'⟩ : ∃ m' : Nat, min (n' : Int) 20 = (m' : Int) := ⟨min n' 20, by omega⟩
  have hm1 : m ≤ n := by omega
  have hm2 : m ≤ 20 := by omega
  have hm1' : m' ≤ n' := by omega
  have hm2' : m' ≤ 20 := by omega
  have q := sq_cut hq hm1
  have q' := sq_cut hq' hm1'
  have r1 : Runes (l.take m) := fun r h => hr r (List.mem_of_mem_take h)
  have r2 : Runes (l'.take m') := fun r h => hr' r (List.mem_of_mem_take h)
  obtain ⟨a, ha⟩ : ∃ a, l.take m = a := ⟨_, rfl⟩
  obtain ⟨b, hb⟩ : ∃ b, l'.take m' = b := ⟨_, rfl⟩
  rw [ha] at q r1
  rw [hb] at q' r2
  have QA := Lib.hid q
  have QB := Lib.hid q'
  have RA := Lib.hid r1
  have RB := Lib.hid r2
  have S := Lib.hid hs
  clear hs hq hq' hr hr' q q' r1 r2 ha hb
  go_enter Tryd.func3, Tryd.ntmps3
  go_wp2_with fail
  refine (begun_walk w S.out).mono ?_
  rintro e w1 ⟨rfl, b1⟩
  have R1 := Lib.hid (And.intro (S.out.below b1 S.out.size) b1)
  have hs1 := b1.size
  clear b1 S
  go_wp2_with fail
  go_region
  have hla := QA.out.size_ints
  have hlb := QB.out.size_ints
  have ba := wsum_range a
  have bb := wsum_range b
  rw [hla] at ba
  rw [hlb] at bb
  have LAB := Lib.hid (And.intro hla hlb)
  clear hla hlb hm hm'
  go_wp2_with (first
    | (at_builtin; refine wpl_app rfl _ (.tmp 20) 22 rfl w1.heap.size 21 i0 (.int .i32 0) 1 4 Tryd.underlying22 hi hz0 hz1 hz2 rfl (by decide) (.slice none 0 0) 0 [] rfl (World.ownsRow_nil _ _ _ _) A m c (a.map (Value.int .i32)) rfl w.heap.size (by exact QA.out.below R1.out.2.drew) (ints_one _) (fit4 (by omega)).1 (fit4 (by omega)).2 (Nat.le_refl _) ?_; intro v2 w2 hown2 hg2 _; obtain ⟨A2, c2, rfl, hc2⟩ := shape_cap hown2; simp only [Nat.zero_add, List.nil_append] at hown2 hc2; have O2 := Lib.hid hown2; have G2 := Lib.hid (below_undrew (grown_below hg2)); have hs2 : w1.heap.size ≤ w2.heap.size := hg2.size; clear hown2 hg2)
    | (at_builtin; refine wpl_app rfl (.tmp 21) (.tmp 22) 22 rfl w1.heap.size 21 i0 (.int .i32 0) 1 4 Tryd.underlying22 hi hz0 hz1 hz2 rfl (by decide) (.slice A2 m c2) m (a.map (Value.int .i32)) rfl O2.out A' m' c' (b.map (Value.int .i32)) rfl w.heap.size (by exact QB.out.below (R1.out.2.trans (G2.out.mono hs1))) (ints_one _) (fit4 (by omega)).1 (fit4 (by omega)).2 hs2 ?_; intro v3 w3 hown3 hg3 _; obtain ⟨A3, c3, rfl, hc3⟩ := shape_cap hown3; have O3 := Lib.hid hown3; have G3 := Lib.hid (Below.grown G2.out hg3 hs2 (fun k e => (World.ownsRow.lt O2.out k e).1)); have hs3 := hg3.size; clear hown3 hg3))
  have S3 := R1.out.1.below G3.out R1.out.1.size
  have B3 := R1.out.2.trans (G3.out.mono hs1)
  have hl3 : (a ++ b).length = m + m' := by rw [List.length_append, LAB.out.1, LAB.out.2]
  have o3 : w3.ownsRow w1.heap.size 21 1 (.slice A3 (m + m') c3) (m + m') ((a ++ b).map (Value.int .i32)) := by rw [List.map_append]; exact O3.out
  have T1 := text_walk A3 (m + m') c3 (a ++ b) w3 S3 (fun r h => (List.mem_append.1 h).elim (RA.out r) (RB.out r)) (by omega) (Sq.own o3)
  rw [wsum_append] at T1
  have T2 := text_walk A m c a w3 S3 RA.out (by omega) (QA.out.below B3)
  have T3 := text_walk A' m' c' b w3 S3 RB.out (by omega) (QB.out.below B3)
  have H1 := Lib.hid T1
  have H2 := Lib.hid T2
  have H3 := Lib.hid T3
  have HB := Lib.hid B3
  clear T1 T2 T3 B3 S3 o3 hl3
  go_wp2_with fail
  refine H1.out.mono ?_
  rintro e w' ⟨rfl, rfl⟩
  go_wp2_with fail
  refine H2.out.mono ?_
  rintro e w' ⟨rfl, rfl⟩
  go_wp2_with fail
  refine H3.out.mono ?_
  rintro e w' ⟨rfl, rfl⟩
  go_wp2_with fail
  refine H1.out.mono ?_
  rintro e w' ⟨rfl, rfl⟩
  go_wp2_with fail
  refine H1.out.mono ?_
  rintro e w' ⟨rfl, rfl⟩
  go_wp2
  go_ret
  exact ⟨ret_bool (decide_eq_true (by omega)), HB.out⟩

/-- WHAT THE WALK GIVES, FOR EVERY ARGUMENT AND EVERY WORLD THAT HOLDS THE TABLE. -/
theorem contract (H : Type) (enc : TypeId × Value → H) (W : World) (base : Nat) (args : Array Value) (ds gs : List (DataW H)) (before : List MemPlace)
    (hval : ∀ (j : Nat) t v, Tryd.f3.params[j]? = some t → args[j]? = some v → Value.okWide Tryd.prog W .any base t v)
    (hW : DataW.Whole enc Tryd.prog Tryd.f3.params.toList Rows.widthTextSpec.vars false W args.toList ds gs before) (hL : laidMetH Tryd.prog Rows.widthTextRow.laid W) :
    Calls Tryd.prog 3 args W fun e W' => ∃ v, e = .returned v ∧ Rows.widthTextSpec.post enc Tryd.prog Tryd.f3 false true false false W args v W' := by
  have hW' := hW
  obtain ⟨p, q, hA0, hV, rfl, hfz, hnd⟩ := hW
  have hA : DataW.TrodAll enc Tryd.prog W 0 (fun _ => true) true Tryd.f3.params.toList args.toList ds p := hA0
  rw [Tryd.params3] at hA hval
  obtain ⟨v0, vs0, d0, ds0, p0, q0, hargs, rfl, rfl, h0, r0⟩ := trodAll_cons hA
  obtain ⟨v1, vs1, d1, ds1, p1, q1, rfl, rfl, rfl, h1, r1⟩ := trodAll_cons r0
  obtain ⟨rfl, rfl, rfl⟩ := trodAll_nil r1
  obtain rfl : args = #[v0, v1] := by cases args; simp_all
  obtain ⟨rfl, rfl⟩ := trodVars_none hV
  obtain ⟨Ax, nx, cx, x, rfl, hcx, hmx, hrx, hqx⟩ := open_runes (hval 0 22 v0 rfl rfl) h0
  obtain ⟨Ay, ny, cy, y, rfl, hcy, hmy, hry, hqy⟩ := open_runes (hval 1 22 v1 rfl rfl) h1
  clear hA0
  refine (walk Ax nx cx x hcx hmx hrx Ay ny cy y hcy hmy hry W (spans_of hL) hqx hqy).mono fun e W' ⟨he, hg⟩ => ?_
  subst he
  exact ⟨_, rfl, close rfl hW' ⟨rfl, rfl, rfl⟩ (by kernel_rfl) (by kernel_rfl) hg⟩

theorem laid_met (os : Os) : laidMet Tryd.prog Rows.widthTextRow.laid ((laidWorld os).forCall (fun _ _ => 0) ⟨#[], #[.slice none 0 0, .slice none 0 0], []⟩).memory :=
  laidMet_of_run' 8 (by kernel_rfl) (by kernel_rfl)
theorem reads (os : Os) {H : Type} (enc : TypeId × Value → H) : ∃ places, DataW.whole enc Tryd.prog ((laidWorld os).forCall (fun _ _ => 0) ⟨#[], #[.slice none 0 0, .slice none 0 0], []⟩).memory Tryd.f3.params.toList Rows.widthTextSpec.vars false (#[.slice none 0 0, .slice none 0 0] : Array Value).toList 8 = some ([.nil, .nil], [], places) :=
  ⟨[], by kernel_rfl⟩

set_option maxRecDepth 100000 in
theorem lifted (os : Os) (started : os.Started) (H : Type) (enc : TypeId × Value → H) (F : Stop.Interp) :
    ReturnsInHanded {} Tryd.checked os 3 .any ((OpenSpec.ofChange Rows.widthTextSpec).preRow enc Tryd.prog Tryd.f3 Rows.widthTextRow.domain false Rows.widthTextRow.laid) (((OpenSpec.ofChange Rows.widthTextSpec).at F).post enc Tryd.prog Tryd.f3 false true false false) := by
  obtain ⟨places, hx⟩ := reads os enc
  refine returnsInHanded_of_row (C := Tryd.checked) (s := OpenSpec.ofChange Rows.widthTextSpec) ownNone started (by kernel_rfl) Tryd.func3
    (witness_row_at (enc := enc) (C := Tryd.checked) false (laidWorld os) #[.slice none 0 0, .slice none 0 0] rfl (by kernel_rfl) (by kernel_rfl) (by kernel_rfl)
      (OpenSpec.preRow_of_cond 8 hx (by kernel_rfl) (fun k hk => by cases hk) (by kernel_rfl) (laid_met os))) ?_
  intro W base args ds gs before hval hW _ _ _ hL _ _
  exact contract H enc W base args ds gs before hval hW hL

theorem said : Rows.WidthTextSaid :=
  OpenClaim.holds_of_cond 3 Tryd.f3 rfl rfl rfl rfl rfl rfl rfl ⟨rfl, rfl, rfl, rfl, rfl⟩ rfl rfl rfl rfl rfl (by kernel_rfl) Tryd.func3 (by kernel_rfl)
    (of_decide_eq_true (by kernel_rfl)) (by unfold Func.isWrapper; first | (rw [if_pos (by decide +kernel)]; kernel_rfl) | (rw [if_neg (by decide +kernel)]; exact ⟨rfl, rfl⟩))
    (fun os started H enc _ F => by rw [OpenClaim.pre_eq_preRow]; exact lifted os started H enc F)

/-- No parameter wants a stand-in; the program's own looks are off: what the card asks. -/
theorem plain (f : FuncId) (fn : Func) (hf : Tryd.pinned.checked.prog.funcNamed "rotulus/rotuluslaw1.WidthText" = some f) (hfn : Tryd.pinned.checked.prog.funcs[f]? = some fn) :
    false = Tryd.pinned.checked.prog.looks [] ∧ ∀ (j : Nat) t, fn.params[j]? = some t → Tryd.pinned.checked.prog.wantsStandIn t = false := by
  obtain rfl : f = 3 := Option.some.inj ((show Tryd.prog.funcNamed "rotulus/rotuluslaw1.WidthText" = some 3 by kernel_rfl).symm.trans hf) |>.symm
  obtain rfl : fn = Tryd.f3 := (Option.some.inj (Tryd.func3.symm.trans hfn)).symm
  refine ⟨by kernel_rfl, fun j t ht => ?_⟩
  rw [Tryd.params3] at ht
  have hm := Array.mem_of_getElem? ht
  simp at hm
  subst hm
  exact (show Tryd.prog.wantsStandIn 22 = false by kernel_rfl)

/-- THE CARD. -/
theorem card : Rows.WidthTextCardSaid :=
  Claim7.holds_tied_plain_at .later [] _ _ _ _ said (fun _ h => by cases h) (by kernel_rfl) (fun _ h => by cases h) widthText_row_tie rfl ⟨rfl, rfl⟩ (by kernel_rfl) rfl plain (by kernel_rfl)
end Go.Proofs.YtbhfhkmcnomggabDoor.widthText
