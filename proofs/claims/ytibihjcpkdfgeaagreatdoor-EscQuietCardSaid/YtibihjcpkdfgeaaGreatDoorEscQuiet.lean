/-
  The statement EscQuiet: behind whatever came, a bell, and an escape that says nothing, bring it to rest. For every text (of which the statement reads the first 100 bytes); it holds where the table of widths is as its initialiser lays it, which the card ties to the program's text.
-/
import Derived.Test.YtibihjcpkdfgeaaGreatDoorQBegun0
import Derived.Test.YtibihjcpkdfgeaaGreatDoorQBase1
import Derived.Test.YtibihjcpkdfgeaaGreatDoorQSum0
import Derived.Test.YtibihjcpkdfgeaaGreatDoorQMore0
namespace Go.Proofs.YtibihjcpkdfgeaaGreatDoor.escQuiet
open Go.ChangeShapes Go.WideShapes Go.ChangeAt Go.RowKit
open Esc

theorem bell (st : Esc.St) : stepS st 7 = .rest := by
  cases st <;> simp [stepS, begin']
/-- A parser beside what stood before it. -/
structure Q1 (w0 : World) (g : Nat) (v : Value) (st : Esc.St) (W : World) : Prop where
  old : Below w0.heap.size w0 W
  g0 : w0.heap.size ≤ g
  par : PAt W g v st
theorem Q1.put {w0 W W' : World} {g : Nat} {v v' : Value} {st st' : Esc.St} (h : Q1 w0 g v st W) (hp : PAt W' g v' st') (ht : Turned (Esc.Own g v) W W') : Q1 w0 g v' st' W' :=
  ⟨h.old.trans (ht.toBelow h.old.size (fun j hj m => by have := (h.par.owns m).1; have := h.g0; omega)), h.g0, hp⟩
set_option maxRecDepth 100000 in
set_option maxHeartbeats 3200000 in
theorem walk (s : ByteArray) (_hs : s.size ≤ 9223372036854775807) (w : World) (hs : Spans w) :
    Calls Tryz.prog 14 #[.string s] w fun e w' => e = .returned (.bool true) ∧ Below w.heap.size w w' := by
  have S := Lib.hid hs
  clear hs
  go_enter Tryz.func14, Tryz.ntmps14
  go_wp2_with fail
  refine (Bg.begun7_walk w S.out).mono ?_
  rintro e w1 ⟨rfl, b1⟩
  obtain ⟨gp, hgp⟩ : ∃ gp, w1.heap.size = gp := ⟨_, rfl⟩
  obtain ⟨w2, hw2⟩ : ∃ w2, w1.alloc (.cells (pcells 0 false 0 (fun _ => 0) (.slice none 0 0)) 29) = w2 := ⟨_, rfl⟩
  have Q2 := Lib.hid (show Q1 w gp (.slice none 0 0) .rest w2 from by
    have ba : Below w1.heap.size w1 w2 := by rw [← hw2]; exact (Below.refl _ _).alloc (Nat.le_refl _) _
    have pa : PCells w2 gp (pcells 0 false 0 (fun _ => 0) (.slice none 0 0)) := by rw [← hgp, ← hw2]; exact heap_alloc_new w1 _
    exact ⟨b1.trans (ba.mono b1.size), by have := b1.size; omega, ⟨pa, HasB.nothing _ _⟩⟩)
  have HG := Lib.hid hgp
  have HW := Lib.hid hw2
  clear b1 hgp hw2
  go_wp2_with fail
  rw [HG.out]
  change Calls _ _ _ (w1.alloc (.cells (pcells 0 false 0 (fun _ => 0) (.slice none 0 0)) 29)) _
  rw [HW.out]
  clear HW HG
  refine (short_walk s 100 w2).mono ?_
  rintro e w' ⟨rfl, rfl⟩
  obtain ⟨t, ht⟩ : ∃ t, shortS s 100 = t := ⟨_, rfl⟩
  have htz : t.size ≤ 100 := by rw [← ht]; exact shortS_size s 100
  rw [ht]
  clear ht
  go_wp2_with fail
  refine (refAll_walk t (by omega) w2).mono ?_
  rintro e w3 ⟨v, rfl, hv, b3⟩
  obtain ⟨l, hl⟩ : ∃ l, Go.Proofs.YtibihjcpkdfgeaaGreatDoor.runO st0 (octs t) = l := ⟨_, rfl⟩
  have hr := runes_of_octs t
  have hll := runO_length (octs t) st0
  rw [octs_length, hl] at hll
  rw [hl] at hv hr
  obtain ⟨A, c, e⟩ := has_shape hv
  subst e
  have Q3 := Lib.hid (show Q1 w gp (.slice none 0 0) .rest w3 from ⟨Q2.out.old.trans (b3.mono Q2.out.old.size), Q2.out.g0, Q2.out.par.laid b3⟩)
  have HL := Lib.hid (show Has w3 w2.heap.size (.slice A l.length c) l from hv)
  have RR := Lib.hid hr
  obtain ⟨wt, hwt⟩ : ∃ wt, (Go.Proofs.YtibihjcpkdfgeaaGreatDoor.runS st0 (octs t)).waits = wt := ⟨_, rfl⟩
  rw [hwt]
  obtain ⟨n, hn⟩ : ∃ n, l.length = n := ⟨_, rfl⟩
  rw [hn] at HL ⊢
  have LN := Lib.hid hn
  have hn200 : n ≤ 200 := by omega
  clear hv b3 hl hll Q2 hr hn hwt
  go_wp2_with fail
  go_loopw [7] (fun v7 wr => ∃ (k : Nat) (vp : Value), v7 = .int .i64 k ∧ k ≤ n ∧ Hid (Q1 w gp vp (Esc.runS .rest (l.take k)) wr) ∧ Hid (Has wr w2.heap.size (.slice A n c) l)) (fun v7 _ => n - (intOf v7).toNat)
  case atStart => exact ⟨0, _, rfl, Nat.zero_le _, Q3, HL⟩
  case round =>
    obtain ⟨k, vp, rfl, hk, QR, HR⟩ := hrel
    clear Q3 HL
    have hsz : sizeS (Esc.runS .rest (l.take k)) ≤ 1000000 := by
      have := sizeS_run (l.take k) .rest
      have h3 : (l.take k).length ≤ k := List.length_take_le _ _
      have e0 : sizeS .rest = 0 := rfl
      omega
    by_cases hlt : k < n
    · have hq : Sq wr wr.heap.size 1 n A (l.map (Value.int .i32)) := by have h := HR.out; unfold Has at h; rw [LN.out] at h; exact Sq.own h
      obtain ⟨b, off, rfl, hb, hc0⟩ := hq.int_at hlt
      have hrr := RR.out.get k
      obtain ⟨r, hrk⟩ : ∃ r, nth l k = r := ⟨_, rfl⟩
      rw [hrk] at hc0 hrr
      have NX := Lib.hid (show Esc.runS .rest (l.take (k + 1)) = stepS (Esc.runS .rest (l.take k)) r by rw [take_next (by have := LN.out; omega), runS_snoc, hrk])
      have PW := Lib.hid (Esc.put_walk gp vp _ r wr QR.out.par hsz hrr.1 hrr.2)
      have hinc : IntKind.i64.wrap ((k : Int) + 1) = (k : Int) + 1 := IntWalk.i64_in _ (by omega)
      have hk0 : (0 : Int) ≤ (k : Int) := by omega
      have hkn : (k : Int) < (n : Int) := by omega
      clear hq hrk hrr hsz
      go_wp2_with fail
      refine PW.out.mono ?_
      rintro e w4 ⟨ev, v4, rfl, ev4, p4, t4⟩
      have Q4 := Lib.hid (show Q1 w gp v4 (Esc.runS .rest (l.take (k + 1))) w4 by rw [NX.out]; exact QR.out.put p4 t4)
      have H4 := Lib.hid (show Has w4 w2.heap.size (.slice (some ⟨b, off, none⟩) n c) l from Bg.own_kept HR.out (fun j e => t4.block j (World.ownsRow.lt HR.out j e).2 (fun m => by
        have ty := Bg.own_type HR.out j e
        rcases (QR.out.par.owns m).2 with x | x
        · exact x.apart ty (by decide) rfl
        · exact x.apart ty (by decide) rfl)))
      clear ev4 p4 t4 PW QR HR hc0 NX
      go_wp2
      go_roundw
      case rel => exact ⟨k + 1, v4, by first | rfl | (congr 1; done) | (congr 1; omega), hlt, Q4, H4⟩
      case measure => first | (simp [intOf]; done) | (simp [intOf]; omega)
    · obtain rfl : k = n := by omega
      have P1 := Lib.hid (Esc.put_walk gp vp _ 7 wr QR.out.par hsz (by omega) (by omega))
      rw [bell] at P1
      clear HR hsz
      go_wp2_with fail
      refine P1.out.mono ?_
      rintro e w4 ⟨ev, v4, rfl, _, p4, t4⟩
      have Q4 := Lib.hid (QR.out.put p4 t4)
      have P4 := Lib.hid (Esc.put_walk gp v4 .rest 27 w4 p4 (by decide) (by omega) (by omega))
      clear p4 t4 P1 QR
      go_wp2_with fail
      refine P4.out.mono ?_
      rintro e w5 ⟨ev5, v5, rfl, e5, p5, t5⟩
      have Q5 := Lib.hid (Q4.out.put p5 t5)
      obtain rfl : ev5 = .slice none 0 0 := e5
      have P5 := Lib.hid (Esc.put_walk gp v5 .esc 88 w5 p5 (by decide) (by omega) (by omega))
      clear p5 t5 P4 Q4
      go_wp2_with fail
      refine P5.out.mono ?_
      rintro e w6 ⟨ev6, v6, rfl, e6, p6, t6⟩
      have Q6 := Lib.hid (Q5.out.put p6 t6)
      obtain rfl : ev6 = .slice none 0 0 := e6
      have P6 := Lib.hid (Esc.put_walk gp v6 .rest 113 w6 p6 (by decide) (by omega) (by omega))
      clear p6 t6 P5 Q5
      go_wp2_with fail
      refine P6.out.mono ?_
      rintro e w7 ⟨ev7, v7, rfl, e7, p7, t7⟩
      have Q7 := Lib.hid (Q6.out.put p7 t7)
      obtain ⟨b7, va7, rfl, _, hb7, _⟩ := e7
      have c7 : w7.cell? ⟨b7, 0, none⟩ = some (.int .i64 1) := cell_of_row _ b7 0 _ _ (0, 0) hb7
      have QT := Lib.hid (Esc.quiet_walk gp v7 .rest w7 p7)
      clear p7 t7 P6 Q6 hb7
      go_wp2_with fail
      refine QT.out.mono ?_
      rintro e w' ⟨rfl, rfl⟩
      clear QT
      go_wp2
      go_ret
      exact ⟨rfl, Q7.out.old⟩

-- WHAT THE WALK GIVES, FOR EVERY ARGUMENT AND EVERY WORLD THAT HOLDS THE TABLE.
set_option maxRecDepth 100000 in
theorem contract (H : Type) (enc : TypeId × Value → H) (W : World) (base : Nat) (args : Array Value) (ds gs : List (DataW H)) (before : List MemPlace)
    (hval : ∀ (j : Nat) t v, Tryz.f14.params[j]? = some t → args[j]? = some v → Value.okWide Tryz.prog W .any base t v)
    (hW : DataW.Whole enc Tryz.prog Tryz.f14.params.toList Rows.escQuietSpec.vars false W args.toList ds gs before) (hL : laidMetH Tryz.prog Rows.escQuietRow.laid W) :
    Calls Tryz.prog 14 args W fun e W' => ∃ v, e = .returned v ∧ Rows.escQuietSpec.post enc Tryz.prog Tryz.f14 false true false false W args v W' := by
  have hW' := hW
  obtain ⟨p, q, hA0, hV, rfl, hfz, hnd⟩ := hW
  have hA : DataW.TrodAll enc Tryz.prog W 0 (fun _ => true) true Tryz.f14.params.toList args.toList ds p := hA0
  rw [Tryz.params14] at hA hval
  obtain ⟨v0, vs0, d0, ds0, p0, q0, hargs, rfl, rfl, h0, r0⟩ := trodAll_cons hA
  obtain ⟨rfl, rfl, rfl⟩ := trodAll_nil r0
  obtain rfl : args = #[v0] := by cases args; simp_all
  obtain ⟨rfl, rfl⟩ := trodVars_none hV
  obtain ⟨x, rfl, rfl, rfl, wx⟩ := Go.ChangeMaps.open_string Tryz.underlying9 (hval 0 9 v0 rfl rfl) h0
  clear hA0
  refine (walk x wx W (spans_of hL) ).mono fun e W' ⟨he, hg⟩ => ?_
  subst he
  exact ⟨_, rfl, close rfl hW' ⟨rfl, rfl, rfl⟩ (by kernel_rfl) (by kernel_rfl) hg⟩

set_option maxRecDepth 100000 in
theorem laid_met (os : Os) : laidMet Tryz.prog Rows.escQuietRow.laid ((laidWorld os).forCall (fun _ _ => 0) ⟨#[], #[.string .empty], []⟩).memory :=
  laidMet_of_run' 8 (by kernel_rfl) (by kernel_rfl)
set_option maxRecDepth 100000 in
theorem reads (os : Os) {H : Type} (enc : TypeId × Value → H) : ∃ places, DataW.whole enc Tryz.prog ((laidWorld os).forCall (fun _ _ => 0) ⟨#[], #[.string .empty], []⟩).memory Tryz.f14.params.toList Rows.escQuietSpec.vars false (#[.string .empty] : Array Value).toList 8 = some ([.lit (.string [])], [], places) :=
  ⟨[], by kernel_rfl⟩

set_option maxRecDepth 100000 in
theorem lifted (os : Os) (started : os.Started) (H : Type) (enc : TypeId × Value → H) (F : Stop.Interp) :
    ReturnsInHanded {} Tryz.checked os 14 .any ((OpenSpec.ofChange Rows.escQuietSpec).preRow enc Tryz.prog Tryz.f14 Rows.escQuietRow.domain false Rows.escQuietRow.laid) (((OpenSpec.ofChange Rows.escQuietSpec).at F).post enc Tryz.prog Tryz.f14 false true false false) := by
  obtain ⟨places, hx⟩ := reads os enc
  refine returnsInHanded_of_row (C := Tryz.checked) (s := OpenSpec.ofChange Rows.escQuietSpec) ownNone started (by kernel_rfl) Tryz.func14
    (witness_row_at (enc := enc) (C := Tryz.checked) false (laidWorld os) #[.string .empty] rfl (by kernel_rfl) (by kernel_rfl) (by kernel_rfl)
      (OpenSpec.preRow_of_cond 8 hx (by kernel_rfl) (fun k hk => by cases hk) (by kernel_rfl) (laid_met os))) ?_
  intro W base args ds gs before hval hW _ _ _ hL _ _
  exact contract H enc W base args ds gs before hval hW hL

-- What the card asks of the program and of the row.
set_option maxRecDepth 100000 in
set_option maxHeartbeats 0 in
theorem facts : joinedFacts Tryz.checked.prog 14 Tryz.f14 (OpenSpec.ofChange Rows.escQuietSpec).bare Rows.escQuietRow = true := by
  have h1 := Sum.tables.1
  have h2 := Sum.tables.2.1
  have h3 := Sum.tables.2.2
  have h4 := Sum.mayEnter
  have e1 : Rows.escQuietRow.lifted = Rows.escAllRow.lifted := by kernel_rfl
  have e2 : Rows.escQuietRow.make = Rows.escAllRow.make := by kernel_rfl
  have h5 : (Rows.escQuietRow.lifted == Tryz.checked.prog.liftsFinal) = true := by rw [e1]; exact Sum.lifts
  have h6 : (Tryz.checked.prog.make == some Rows.escQuietRow.make) = true := by rw [e2]; exact Sum.make
  unfold joinedFacts
  repeat' (with_reducible refine Sum.and_mk ?_ ?_)
  all_goals first
    | with_reducible exact h1
    | with_reducible exact h2
    | with_reducible exact h4
    | with_reducible exact h5
    | with_reducible exact h6
    | (rw [h3]; as_aux_lemma => kernel_rfl)
    | (clear h1 h2 h3 h4 h5 h6 e1 e2; as_aux_lemma => kernel_rfl)

set_option maxRecDepth 100000 in
theorem said : Rows.EscQuietSaid :=
  OpenClaim.holds_of_cond 14 Tryz.f14 rfl rfl rfl rfl rfl rfl rfl ⟨rfl, rfl, rfl, rfl, rfl⟩ rfl rfl rfl rfl rfl (by kernel_rfl) Tryz.func14 facts
    (of_decide_eq_true (by kernel_rfl)) (by unfold Func.isWrapper; first | (rw [if_pos (by decide +kernel)]; kernel_rfl) | (rw [if_neg (by decide +kernel)]; exact ⟨rfl, rfl⟩))
    (fun os started H enc _ F => by rw [OpenClaim.pre_eq_preRow]; exact lifted os started H enc F)

-- No parameter wants a stand-in; the program's own looks are off: what the card asks.
set_option maxRecDepth 100000 in
theorem plain (f : FuncId) (fn : Func) (hf : Tryz.pinned.checked.prog.funcNamed "rotulus/rotuluslaw7.EscQuiet" = some f) (hfn : Tryz.pinned.checked.prog.funcs[f]? = some fn) :
    false = Tryz.pinned.checked.prog.looks [] ∧ ∀ (j : Nat) t, fn.params[j]? = some t → Tryz.pinned.checked.prog.wantsStandIn t = false := by
  obtain rfl : f = 14 := Option.some.inj ((show Tryz.prog.funcNamed "rotulus/rotuluslaw7.EscQuiet" = some 14 by kernel_rfl).symm.trans hf) |>.symm
  obtain rfl : fn = Tryz.f14 := (Option.some.inj (Tryz.func14.symm.trans hfn)).symm
  refine ⟨by kernel_rfl, fun j t ht => ?_⟩
  rw [Tryz.params14] at ht
  have hm := Array.mem_of_getElem? ht
  simp at hm
  subst hm
  exact (show Tryz.prog.wantsStandIn 9 = false by kernel_rfl)

-- The card.
set_option maxRecDepth 100000 in
theorem card : Rows.EscQuietCardSaid :=
  Claim7.holds_tied_plain_at .later [] _ _ _ _ said (fun _ h => by cases h) (by kernel_rfl) (fun _ h => by cases h) escQuiet_row_tie rfl ⟨rfl, rfl⟩ (by kernel_rfl) rfl plain (by kernel_rfl)
end Go.Proofs.YtibihjcpkdfgeaaGreatDoor.escQuiet
