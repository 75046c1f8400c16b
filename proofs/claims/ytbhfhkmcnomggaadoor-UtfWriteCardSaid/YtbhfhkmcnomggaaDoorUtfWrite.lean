/-
  The statement UtfWrite: any signs as bytes are the document's bytes; read again they are the signs as they were, FFFD in the place of one that may not be. For every list of signs (the statement looks at the first thirty); it holds where the table of widths is as its initialiser lays it, which the card ties to the program's text.
-/
import Derived.Test.YtbhfhkmcnomggaaDoorFrame
import Derived.Test.YtbhfhkmcnomggaaDoorArgs
import Derived.Test.YtbhfhkmcnomggaaDoorApp
import Derived.Test.YtbhfhkmcnomggaaDoorEnc
import Derived.Test.YtbhfhkmcnomggaaDoorRefWrite
namespace Go.Proofs.YtbhfhkmcnomggaaDoor.utfWrite
open Go.ChangeShapes Go.WideShapes Go.ChangeAt Go.RowKit

theorem octs_enc (l : List Int) : octs ⟨(encL l).toArray⟩ = l.flatMap Lib.encodeRuneZ := by
  have one : ∀ r : Int, (Lib.encodeRune r).map (fun c => (c.toNat : Int)) = Lib.encodeRuneZ r := by
    intro r
    unfold Lib.encodeRune
    rw [List.map_map]
    conv => rhs; rw [← List.map_id (Lib.encodeRuneZ r)]
    refine List.map_congr_left fun x hx => ?_
    obtain ⟨h0, h1⟩ := Lib.encodeRuneZ_byte r x hx
    obtain ⟨n, rfl⟩ := Int.eq_ofNat_of_zero_le h0
    have : n < 256 := by omega
    simp [Nat.mod_eq_of_lt this]
  unfold octs encL
  simp only
  induction l with
  | nil => rfl
  | cons r l ih =>
    simp only [List.flatMap_cons, List.map_append] at ih ⊢
    rw [one, ih]
theorem run_encs (l : List Int) : runS st0 (l.flatMap Lib.encodeRuneZ) = st0 ∧ runO st0 (l.flatMap Lib.encodeRuneZ) = l.map fixR := by
  induction l with
  | nil => exact ⟨rfl, rfl⟩
  | cons r l ih =>
    have h := run_enc r
    rw [List.flatMap_cons, runS_append, runO_append, h.1, h.2, ih.1, ih.2]
    exact ⟨rfl, rfl⟩
theorem all_enc (l : List Int) : allO (octs ⟨(encL l).toArray⟩) = l.map fixR := by
  rw [octs_enc]
  unfold allO
  rw [(run_encs l).1, (run_encs l).2]
  simp [brk, st0]
theorem sq_cut {w : World} {B n m : Nat} {A : Option Addr} {l : List Int} (hq : Sq w B 1 n A (l.map (Value.int .i32))) (hm : m ≤ n) : Sq w B 1 m A ((l.take m).map (Value.int .i32)) := by
  have hl := hq.size_ints
  refine ⟨by simp; omega, fun h => ?_⟩
  obtain ⟨b, off, e, hb, hcell⟩ := hq.spot (by omega)
  refine ⟨b, off, e, hb, fun j u hu => hcell j u ?_⟩
  rw [List.map_take, List.getElem?_take] at hu
  split at hu
  · exact hu
  · cases hu

set_option maxHeartbeats 1600000 in
theorem walk (A : Option Addr) (n c : Nat) (l : List Int) (_ : n ≤ c) (_ : c ≤ maxLen) (hr : Runes l) (w : World) (hs : Spans w) (hq : Sq w w.heap.size 1 n A (l.map (Value.int .i32))) : Calls Tryd.prog 4 #[.slice A n c] w fun e w' => e = .returned (.bool true) ∧ Below w.heap.size w w' := by
  obtain ⟨i0, hi, hz0, hz1, hz2⟩ := info_parts info21
  obtain ⟨m, hm⟩ : ∃ m : Nat, min (n : Int) 30 = (m : Int) := ⟨min n 30, by omega⟩
  have hm1 : m ≤ n := by omega
  have hm2 : m ≤ 30 := by omega
  have q := sq_cut hq hm1
  have r1 : Runes (l.take m) := fun r h => hr r (List.mem_of_mem_take h)
  obtain ⟨a, ha⟩ : ∃ a, l.take m = a := ⟨_, rfl⟩
  rw [ha] at q r1
  have QA := Lib.hid q
  have RA := Lib.hid r1
  have LN := Lib.hid q.size_ints
  have S := Lib.hid hs
  clear hs hq hr q r1 ha
  go_enter Tryd.func4, Tryd.ntmps4
  go_wp2_with fail
  refine (begun_walk w S.out).mono ?_
  rintro e w1 ⟨rfl, b1⟩
  have R1 := Lib.hid b1
  have hs1 := b1.size
  clear b1 S
  go_wp2_with fail
  clear hm
  have W1 := write_walk A m c a w1 (QA.out.below R1.out)
  rw [runes_model] at W1
  refine W1.mono ?_
  rintro e w' ⟨rfl, rfl⟩
  clear W1
  go_wp2_with fail
  refine (refWrite_walk A m c a w1 RA.out (by omega) ((QA.out.below R1.out).up hs1)).mono ?_
  rintro e w2 ⟨rfl, b2⟩
  have B2 := Lib.hid b2
  have hs2 := b2.size
  clear b2
  go_wp2_with fail
  go_loopw [5, 6] (fun v i wr => ∃ k : Nat, i = .int .i64 k ∧ k ≤ m ∧ Has wr w2.heap.size v ((a.take k).map fixR) ∧ Below w2.heap.size w2 wr) (fun _ i _ => m - (intOf i).toNat)
  case atStart => exact ⟨0, rfl, Nat.zero_le _, Has.nothing _ _, Below.refl _ _⟩
  case round =>
    obtain ⟨k, rfl, hk, hv, hb⟩ := hrel
    have hsz := hb.size
    have HV : Hid (wr.ownsRow w2.heap.size 21 1 u5 ((a.take k).map fixR).length (((a.take k).map fixR).map (Value.int .i32))) := hv
    have HB := Lib.hid hb
    have HL := Lib.hid (show ((a.take k).map fixR).length ≤ 1099511627776 by rw [List.length_map, List.length_take]; omega)
    by_cases hlt : k < m
    · obtain ⟨b, off, rfl, _, hc⟩ := ((QA.out.below R1.out).below ((B2.out.trans (hb.mono hs2)).mono hs1)).int_at hlt
      have hx := RA.out.get k
      have hkl : k < a.length := by have := LN.out; omega
      clear hv hb
      by_cases hg : nth a k < 0 ∨ 1114111 < nth a k ∨ (55296 ≤ nth a k ∧ nth a k ≤ 57343)
      · have hf : fixR (nth a k) = 65533 := by simp [fixR, hg]
        have HF := Lib.hid hf
        clear hf
        have SG := refSign_no (nth a k) hg wr
        have SH := Lib.hid SG
        clear SG hg
        go_wp2_with (first
          | (go_at_call 25; refine SH.out.mono ?_; rintro e w' ⟨rfl, rfl⟩)
          | (at_builtin; refine wpList_append_own_at _ rfl _ _ 24 rfl w2.heap.size 21 i0 (.int .i32 0) 1 4 Tryd.underlying24 hi hz0 hz1 hz2 rfl (by decide) u5 ((a.take k).map fixR).length _ rfl (HV.out.alloc _) ⟨wr.heap.size, 0, none⟩ 1 1 [.int .i32 65533] rfl rfl (cell_new_at rfl _ _) (one_rune _) (fits1 HL.out) (fits4 HL.out) (by simp; omega) ?_; intro v' w4 hown' hgrow _ _))
        have N4 : Below w2.heap.size w2 w4 := (HB.out.alloc hsz _).grown hgrow (by simp; omega) (fun j e => (World.ownsRow.lt HV.out j e).1)
        have O4 : Has w4 w2.heap.size v' ((a.take (k + 1)).map fixR) := by
          rw [take_next hkl, List.map_append]
          have h1 : ((a.take k).map fixR ++ [nth a k].map fixR).length = ((a.take k).map fixR).length + 1 := by simp
          unfold Has
          rw [h1, List.map_append]
          simpa [HF.out] using hown'
        have NH := Lib.hid N4
        have OH := Lib.hid O4
        clear N4 O4 hown' hgrow
        go_wp2
        go_roundw
        case rel => exact ⟨k + 1, by go_num, by omega, OH.out, NH.out⟩
        case measure => simp [intOf]; omega
      · have hf : fixR (nth a k) = nth a k := by simp [fixR, hg]
        have HF := Lib.hid hf
        clear hf
        have SG := refSign_yes (nth a k) (by omega) (by omega) (by omega) wr
        have SH := Lib.hid SG
        clear SG hg
        go_wp2_with (first
          | (go_at_call 25; refine SH.out.mono ?_; rintro e w' ⟨rfl, rfl⟩)
          | (at_builtin; refine wpList_append_own_at _ rfl _ _ 24 rfl w2.heap.size 21 i0 (.int .i32 0) 1 4 Tryd.underlying24 hi hz0 hz1 hz2 rfl (by decide) u5 ((a.take k).map fixR).length _ rfl (HV.out.alloc _) ⟨wr.heap.size, 0, none⟩ 1 1 [.int .i32 (nth a k)] rfl rfl (cell_new_at rfl _ _) (one_rune _) (fits1 HL.out) (fits4 HL.out) (by simp; omega) ?_; intro v' w4 hown' hgrow _ _))
        have N4 : Below w2.heap.size w2 w4 := (HB.out.alloc hsz _).grown hgrow (by simp; omega) (fun j e => (World.ownsRow.lt HV.out j e).1)
        have O4 : Has w4 w2.heap.size v' ((a.take (k + 1)).map fixR) := by
          rw [take_next hkl, List.map_append]
          have h1 : ((a.take k).map fixR ++ [nth a k].map fixR).length = ((a.take k).map fixR).length + 1 := by simp
          unfold Has
          rw [h1, List.map_append]
          simpa [HF.out] using hown'
        have NH := Lib.hid N4
        have OH := Lib.hid O4
        clear N4 O4 hown' hgrow
        go_wp2
        go_roundw
        case rel => exact ⟨k + 1, by go_num, by omega, OH.out, NH.out⟩
        case measure => simp [intOf]; omega
    · have E : a.take k = a := take_all _ (by have := LN.out; omega)
      rw [E] at hv
      have sh5 := hv.shape
      rw [List.length_map] at sh5
      obtain ⟨A5, c5, rfl⟩ := sh5
      have ALL := all_walk ⟨(encL a).toArray⟩ (by
        have h1 := encL_length a
        have h2 : (⟨(encL a).toArray⟩ : ByteArray).size = (encL a).length := by simp [ByteArray.size]
        have := LN.out
        omega) wr
      rw [all_enc] at ALL
      have AH := Lib.hid ALL
      have V5 := Lib.hid hv
      clear hv hb E ALL
      go_wp2_with fail
      refine AH.out.mono ?_
      rintro e w6 ⟨v6, rfl, h6, b6⟩
      have sh6 := h6.shape
      rw [List.length_map] at sh6
      obtain ⟨A6, c6, rfl⟩ := sh6
      have q6 := h6.sq.2
      have q5 := ((V5.out.sq.2).below b6).up b6.size
      have Q6 := Lib.hid q6
      have Q5 := Lib.hid q5
      have B6 := Lib.hid b6
      clear h6 q6 q5 b6
      go_wp2_with fail
      refine (eq_yes A6 A5 _ c6 _ c5 (a.map fixR) w6 (by have := LN.out; omega) Q6.out Q5.out).mono ?_
      rintro e w7 ⟨rfl, b7⟩
      have R := Lib.hid (R1.out.trans ((B2.out.mono hs1).trans ((HB.out.mono (Nat.le_trans hs1 hs2)).trans ((B6.out.mono (Nat.le_trans hs1 (Nat.le_trans hs2 hsz))).trans (b7.mono (Nat.le_trans hs1 (Nat.le_trans hs2 (Nat.le_trans hsz B6.out.size))))))))
      clear b7
      go_wp2
      go_ret
      exact ⟨rfl, R.out⟩

/-- WHAT THE WALK GIVES, FOR EVERY ARGUMENT AND EVERY WORLD THAT HOLDS THE TABLE. -/
theorem contract (H : Type) (enc : TypeId × Value → H) (W : World) (base : Nat) (args : Array Value) (ds gs : List (DataW H)) (before : List MemPlace)
    (hval : ∀ (j : Nat) t v, Tryd.f4.params[j]? = some t → args[j]? = some v → Value.okWide Tryd.prog W .any base t v)
    (hW : DataW.Whole enc Tryd.prog Tryd.f4.params.toList Rows.utfWriteSpec.vars false W args.toList ds gs before) (hL : laidMetH Tryd.prog Rows.utfWriteRow.laid W) :
    Calls Tryd.prog 4 args W fun e W' => ∃ v, e = .returned v ∧ Rows.utfWriteSpec.post enc Tryd.prog Tryd.f4 false true false false W args v W' := by
  have hW' := hW
  obtain ⟨p, q, hA0, hV, rfl, hfz, hnd⟩ := hW
  have hA : DataW.TrodAll enc Tryd.prog W 0 (fun _ => true) true Tryd.f4.params.toList args.toList ds p := hA0
  rw [Tryd.params4] at hA hval
  obtain ⟨v0, vs0, d0, ds0, p0, q0, hargs, rfl, rfl, h0, r0⟩ := trodAll_cons hA
  obtain ⟨rfl, rfl, rfl⟩ := trodAll_nil r0
  obtain rfl : args = #[v0] := by cases args; simp_all
  obtain ⟨rfl, rfl⟩ := trodVars_none hV
  obtain ⟨Ax, nx, cx, x, rfl, hcx, hmx, hrx, hqx⟩ := open_runes (hval 0 24 v0 rfl rfl) h0
  clear hA0
  refine (walk Ax nx cx x hcx hmx hrx W (spans_of hL) hqx).mono fun e W' ⟨he, hg⟩ => ?_
  subst he
  exact ⟨_, rfl, close rfl hW' ⟨rfl, rfl, rfl⟩ (by kernel_rfl) (by kernel_rfl) hg⟩

theorem laid_met (os : Os) : laidMet Tryd.prog Rows.utfWriteRow.laid ((laidWorld os).forCall (fun _ _ => 0) ⟨#[], #[.slice none 0 0], []⟩).memory :=
  laidMet_of_run' 8 (by kernel_rfl) (by kernel_rfl)
theorem reads (os : Os) {H : Type} (enc : TypeId × Value → H) : ∃ places, DataW.whole enc Tryd.prog ((laidWorld os).forCall (fun _ _ => 0) ⟨#[], #[.slice none 0 0], []⟩).memory Tryd.f4.params.toList Rows.utfWriteSpec.vars false (#[.slice none 0 0] : Array Value).toList 8 = some ([.nil], [], places) :=
  ⟨[], by kernel_rfl⟩

set_option maxRecDepth 100000 in
theorem lifted (os : Os) (started : os.Started) (H : Type) (enc : TypeId × Value → H) (F : Stop.Interp) :
    ReturnsInHanded {} Tryd.checked os 4 .any ((OpenSpec.ofChange Rows.utfWriteSpec).preRow enc Tryd.prog Tryd.f4 Rows.utfWriteRow.domain false Rows.utfWriteRow.laid) (((OpenSpec.ofChange Rows.utfWriteSpec).at F).post enc Tryd.prog Tryd.f4 false true false false) := by
  obtain ⟨places, hx⟩ := reads os enc
  refine returnsInHanded_of_row (C := Tryd.checked) (s := OpenSpec.ofChange Rows.utfWriteSpec) ownNone started (by kernel_rfl) Tryd.func4
    (witness_row_at (enc := enc) (C := Tryd.checked) false (laidWorld os) #[.slice none 0 0] rfl (by kernel_rfl) (by kernel_rfl) (by kernel_rfl)
      (OpenSpec.preRow_of_cond 8 hx (by kernel_rfl) (fun k hk => by cases hk) (by kernel_rfl) (laid_met os))) ?_
  intro W base args ds gs before hval hW _ _ _ hL _ _
  exact contract H enc W base args ds gs before hval hW hL

theorem said : Rows.UtfWriteSaid :=
  OpenClaim.holds_of_cond 4 Tryd.f4 rfl rfl rfl rfl rfl rfl rfl ⟨rfl, rfl, rfl, rfl, rfl⟩ rfl rfl rfl rfl rfl (by kernel_rfl) Tryd.func4 (by kernel_rfl)
    (of_decide_eq_true (by kernel_rfl)) (by unfold Func.isWrapper; first | (rw [if_pos (by decide +kernel)]; kernel_rfl) | (rw [if_neg (by decide +kernel)]; exact ⟨rfl, rfl⟩))
    (fun os started H enc _ F => by rw [OpenClaim.pre_eq_preRow]; exact lifted os started H enc F)

/-- No parameter wants a stand-in; the program's own looks are off: what the card asks. -/
theorem plain (f : FuncId) (fn : Func) (hf : Tryd.pinned.checked.prog.funcNamed "rotulus/rotuluslaw1.UtfWrite" = some f) (hfn : Tryd.pinned.checked.prog.funcs[f]? = some fn) :
    false = Tryd.pinned.checked.prog.looks [] ∧ ∀ (j : Nat) t, fn.params[j]? = some t → Tryd.pinned.checked.prog.wantsStandIn t = false := by
  obtain rfl : f = 4 := Option.some.inj ((show Tryd.prog.funcNamed "rotulus/rotuluslaw1.UtfWrite" = some 4 by kernel_rfl).symm.trans hf) |>.symm
  obtain rfl : fn = Tryd.f4 := (Option.some.inj (Tryd.func4.symm.trans hfn)).symm
  refine ⟨by kernel_rfl, fun j t ht => ?_⟩
  rw [Tryd.params4] at ht
  have hm := Array.mem_of_getElem? ht
  simp at hm
  subst hm
  exact (show Tryd.prog.wantsStandIn 24 = false by kernel_rfl)

/-- THE CARD. -/
theorem card : Rows.UtfWriteCardSaid :=
  Claim7.holds_tied_plain_at .later [] _ _ _ _ said (fun _ h => by cases h) (by kernel_rfl) (fun _ h => by cases h) utfWrite_row_tie rfl ⟨rfl, rfl⟩ (by kernel_rfl) rfl plain (by kernel_rfl)
end Go.Proofs.YtbhfhkmcnomggaaDoor.utfWrite
