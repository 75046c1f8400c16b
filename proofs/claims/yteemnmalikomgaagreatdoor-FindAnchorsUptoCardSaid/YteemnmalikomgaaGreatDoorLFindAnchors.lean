/-
  The statement FindAnchors: ^ holds at the beginning of a line alone, $ at its end alone, and ^.*$ matches the whole line. For every text of at most 1048576 bytes (of which the statement takes the first twenty-five signs); it holds where the table of widths is as its initialiser lays it, which the card ties to the program's text.
-/
import Derived.Test.YteemnmalikomgaaGreatDoorQFcEvZ0
import Derived.Test.YteemnmalikomgaaGreatDoorQFcBase0
import Derived.Test.YteemnmalikomgaaGreatDoorQFcBase1
import Derived.Test.YteemnmalikomgaaGreatDoorQFcBase14
namespace Go.Proofs.YteemnmalikomgaaGreatDoor.findAnchors
open Go.ChangeShapes Go.WideShapes Go.ChangeAt Go.RowKit
open NF
theorem shortT_all {s : ByteArray} {k : Nat} (h : s.size ≤ k) : shortT s k = s := by
 unfold shortT
 rw [Nat.min_eq_left h]
 exact ByteArray.extract_zero_size
theorem told {s : ByteArray} {l : List Int} {t : Nd} (hs : octs s = l) (hn : l.length ≤ 30) (ha : ∀ x ∈ l, 0 ≤ x ∧ x < 128) (hp : parseL l = .some t) : parseS (shortT s 30) = .some t := by
 rw [shortT_all (by rw [← octs_length, hs]; exact hn), parseS_ascii hs ha (by omega), hp]
theorem head_read : parseS (shortT { data := #[94, 46] } 30) = .some headN := told (l := [94, 46]) rfl (by decide) (by decide) parse_head
theorem tail_read : parseS (shortT { data := #[46, 36] } 30) = .some tailN := told (l := [46, 36]) rfl (by decide) (by decide) parse_tail
theorem whole_read : parseS (shortT { data := #[94, 46, 42, 36] } 30) = .some wholeN := told (l := [94, 46, 42, 36]) rfl (by decide) (by decide) parse_whole
def ClosedP (t : Nd) (w : World) (e : Ending) (w' : World) : Prop := ∃ (x : Nv) (p : Nat), e = .returned (.tuple #[x.v, .pointer (some ⟨p, 0, none⟩), .bool true]) ∧ Below w.heap.size w w' ∧ Prg w' w'.heap.size p t
theorem closed_walk (s : ByteArray) (t : Nd) (h : parseS (shortT s 30) = .some t) (hw : wt t ≤ 400) (hd : deep t ≤ 10) (w : World) : Calls Tryz.prog 22 #[.string s] w fun e w' => ClosedP t w e w' := by
 refine (prog_walk s w).mono ?_
 rintro e w' ⟨x, P, ok, rfl, b, h1, h2⟩
 obtain rfl := h2 t h hw hd
 obtain ⟨t', p, rfl, _, h3, h4⟩ := h1 rfl
 rw [h] at h4
 cases h4
 exact ⟨x, p, rfl, b, h3⟩
theorem head_hit {l : List Int} {n : Nat} (h : l.length = n) : hitV (longI l headN n) (nxt (longI l headN n) 0 n) = if n = 0 then .tuple #[.int .i64 0, .int .i64 0, .bool false] else .tuple #[.int .i64 0, .int .i64 1, .bool true] := by
 subst h
 cases hl : l.length with
 | zero => rfl
 | succ m =>
  have e : longI l headN (m + 1) 0 = 1 := by rw [← hl, long_head, if_pos ⟨rfl, by omega⟩]
  rw [nxt, if_pos (by rw [e]; decide), hitV, e]
  rfl
theorem head_again {l : List Int} {n : Nat} (h : l.length = n) : hitV (longI l headN n) (nxt (longI l headN n) 1 (n - 1)) = .tuple #[.int .i64 0, .int .i64 0, .bool false] := by
 subst h
 rw [nxt_none fun j h1 _ => by rw [long_head, if_neg (by omega)]; decide]
 rfl
theorem tail_hit {l : List Int} {n : Nat} (h : l.length = n) : hitV (longI l tailN n) (lst (longI l tailN n) n) = if n = 0 then .tuple #[.int .i64 0, .int .i64 0, .bool false] else .tuple #[.int .i64 ((n : Int) - 1), .int .i64 1, .bool true] := by
 subst h
 cases hl : l.length with
 | zero => rfl
 | succ m =>
  have e : longI l tailN (m + 1) m = 1 := by rw [← hl, long_tail, if_pos (by omega)]
  rw [lst, if_pos (by rw [e]; decide), hitV, e, if_neg (by omega), show ((m + 1 : Nat) : Int) - 1 = (m : Int) by omega]
theorem whole_at {l : List Int} {n : Nat} (h : l.length = n) : atI l wholeN n 0 = (n : Int) := by
 subst h
 have := atI_in l wholeN l.length 0 (Nat.zero_le _)
 rw [long_whole] at this
 exact this
set_option maxRecDepth 100000 in
set_option maxHeartbeats 12800000 in
theorem walk (s0 : ByteArray) (hs0 : s0.size ≤ 1048576) (w : World) (hs : Spans w) :
  Calls Tryz.prog 7 #[.string s0] w fun e w' => e = .returned (.bool true) ∧ Below w.heap.size w w' := by
 have S := Lib.hid hs
 have P1 := Lib.hid (fun wx => closed_walk { data := #[94, 46] } headN head_read (by decide +kernel) (by decide +kernel) wx)
 have P2 := Lib.hid (fun wx => closed_walk { data := #[46, 36] } tailN tail_read (by decide +kernel) (by decide +kernel) wx)
 have P3 := Lib.hid (fun wx => closed_walk { data := #[94, 46, 42, 36] } wholeN whole_read (by decide +kernel) (by decide +kernel) wx)
 clear hs
 go_enter Tryz.func7, Tryz.ntmps7
 go_wp2_with fail
 refine (Ev.Trues.at Ev.begun16 w S.out).mono ?_
 rintro e w1 ⟨rfl, b1⟩
 have B1 := Lib.hid b1
 have TW := Lib.hid (text16_walk s0 (by omega) w1)
 clear b1 S
 go_wp2_with fail
 refine TW.out.mono ?_
 rintro e w2 ⟨A6, c6, n6, rfl, hq6, hl6, hn6, hc6, b2⟩
 obtain ⟨l, hl⟩ : ∃ l, (runO st0 (octs s0)).take 25 = l := ⟨_, rfl⟩
 rw [hl] at hq6 hl6
 have SQ2 := Lib.hid hq6
 have LL := Lib.hid hl6
 have B2 := Lib.hid (B1.out.trans (b2.mono B1.out.size))
 clear hq6 hl6 b2 hl TW
 go_wp2_with fail
 refine (P1.out w2).mono ?_
 rintro e w3 ⟨⟨k, A, nn, c, nt, A2, n2, c2, mn, mx⟩, p, rfl, b3, hp⟩
 have B3 := Lib.hid (B2.out.trans (b3.mono B2.out.size))
 have SQ3 := Lib.hid ((SQ2.out.below b3).up b3.size)
 have G3 := Lib.hid hp
 clear b3 hp P1 SQ2
 obtain ⟨w4, hw4, k4, b4, z4⟩ := new_node w3 k A nn c nt A2 n2 c2 mn mx
 have B4 := Lib.hid (B3.out.trans (b4.mono B3.out.size))
 have SQ4 := Lib.hid ((SQ3.out.below b4).up b4.size)
 have G4 := Lib.hid ((G3.out.below b4).up b4.size)
 have HW4 := Lib.hid hw4
 clear k4 b4 z4 hw4 SQ3 G3
 try dsimp only [Nv.v]
 go_upto_region 6 with fail
 first
  | rw [HW4.out]
  | (change Code.wp _ _ _ _ (w3.alloc (.cells #[.int .i64 k, .slice A nn c, .bool nt, .slice A2 n2 c2, .int .i64 mn, .int .i64 mx] 29)); rw [HW4.out])
 go_wp2_with fail
 refine (P2.out w4).mono ?_
 rintro e w5 ⟨⟨k', A', nn', c', nt', A2', n2', c2', mn', mx'⟩, p2, rfl, b5, hp⟩
 have B5 := Lib.hid (B4.out.trans (b5.mono B4.out.size))
 have SQ5 := Lib.hid ((SQ4.out.below b5).up b5.size)
 have G5 := Lib.hid ((G4.out.below b5).up b5.size)
 have H5 := Lib.hid hp
 clear b5 hp P2 SQ4 G4 HW4
 obtain ⟨w6, hw6, k6, b6, z6⟩ := new_node w5 k' A' nn' c' nt' A2' n2' c2' mn' mx'
 have B6 := Lib.hid (B5.out.trans (b6.mono B5.out.size))
 have SQ6 := Lib.hid ((SQ5.out.below b6).up b6.size)
 have G6 := Lib.hid ((G5.out.below b6).up b6.size)
 have H6 := Lib.hid ((H5.out.below b6).up b6.size)
 have HW6 := Lib.hid hw6
 clear k6 b6 z6 hw6 SQ5 G5 H5
 try dsimp only [Nv.v]
 go_upto_region 7 with fail
 first
  | rw [HW6.out]
  | (change Code.wp _ _ _ _ (w5.alloc (.cells #[.int .i64 k', .slice A' nn' c', .bool nt', .slice A2' n2' c2', .int .i64 mn', .int .i64 mx'] 29)); rw [HW6.out])
 go_wp2_with fail
 refine (P3.out w6).mono ?_
 rintro e w7 ⟨⟨k', A', nn', c', nt', A2', n2', c2', mn', mx'⟩, p3, rfl, b7, hp⟩
 have B7 := Lib.hid (B6.out.trans (b7.mono B6.out.size))
 have SQ7 := Lib.hid ((SQ6.out.below b7).up b7.size)
 have G7 := Lib.hid ((G6.out.below b7).up b7.size)
 have H7 := Lib.hid ((H6.out.below b7).up b7.size)
 have I7 := Lib.hid hp
 clear b7 hp P3 SQ6 G6 H6 HW6
 obtain ⟨w8, hw8, k8, b8, z8⟩ := new_node w7 k' A' nn' c' nt' A2' n2' c2' mn' mx'
 have B8 := Lib.hid (B7.out.trans (b8.mono B7.out.size))
 have SQ8 := Lib.hid ((SQ7.out.below b8).up b8.size)
 have G8 := Lib.hid ((G7.out.below b8).up b8.size)
 have H8 := Lib.hid ((H7.out.below b8).up b8.size)
 have I8 := Lib.hid ((I7.out.below b8).up b8.size)
 have HW8 := Lib.hid hw8
 clear k8 b8 z8 hw8 SQ7 G7 H7 I7
 have N1 := Lib.hid (fun W (b : Below w8.heap.size w8 W) => findNext_gen (longI l headN n6) _ A6 n6 c6 0 (by omega) W (by omega) ((findAtAll G8.out A6 n6 c6 l (by omega) LL.out SQ8.out).below b))
 have N2 := Lib.hid (fun W (b : Below w8.heap.size w8 W) => findNext_gen (longI l headN n6) _ A6 n6 c6 1 (by omega) W (by omega) ((findAtAll G8.out A6 n6 c6 l (by omega) LL.out SQ8.out).below b))
 have N3 := Lib.hid (fun W (b : Below w8.heap.size w8 W) => findLast_gen (longI l tailN n6) _ A6 n6 c6 (n6 : Int) (by omega) W (by omega) ((findAtAll H8.out A6 n6 c6 l (by omega) LL.out SQ8.out).below b))
 have PA := Lib.hid (show ∀ W, Below w8.heap.size w8 W → Calls Tryz.prog 28 #[.pointer (some ⟨p3, 0, none⟩), .slice A6 n6 c6, .int .i64 0] W fun e w' => LenP (n6 : Int) W e w' from fun W b => by
  rw [← whole_at LL.out]
  exact findAt_walk (I8.out.below b) A6 n6 c6 l (by omega) b.size LL.out ((SQ8.out.below b).up b.size) 0)
 unfold HitP at N1 N2 N3
 unfold LenP at PA
 rw [show (0 : Int).toNat = 0 from rfl, Nat.sub_zero, head_hit LL.out] at N1
 rw [show (1 : Int).toNat = 1 from rfl, head_again LL.out] at N2
 rw [Int.toNat_natCast, Nat.min_self, tail_hit LL.out] at N3
 try dsimp only [Nv.v]
 go_upto_region 8 with fail
 first
  | rw [HW8.out]
  | (change Code.wp _ _ _ _ (w7.alloc (.cells #[.int .i64 k', .slice A' nn' c', .bool nt', .slice A2' n2' c2', .int .i64 mn', .int .i64 mx'] 29)); rw [HW8.out])
 clear HW8
 cases n6 with
 | zero =>
  rw [if_pos rfl] at N1 N3
  go_wp2_with fail
  refine (N1.out w8 (Below.refl _ _)).mono ?_
  rintro e w9 ⟨rfl, b9⟩
  have C9 := Lib.hid b9
  clear b9 N1
  go_wp2_with fail
  refine (N2.out w9 C9.out).mono ?_
  rintro e w10 ⟨rfl, b10⟩
  have C10 := Lib.hid (C9.out.trans (b10.mono C9.out.size))
  clear b10 N2
  go_wp2_with fail
  refine (N3.out w10 C10.out).mono ?_
  rintro e w11 ⟨rfl, b11⟩
  have C11 := Lib.hid (C10.out.trans (b11.mono C10.out.size))
  clear b11 N3
  go_wp2_with fail
  refine (PA.out w11 C11.out).mono ?_
  rintro e w12 ⟨rfl, b12⟩
  have BF := Lib.hid (B8.out.trans ((C11.out.trans (b12.mono C11.out.size)).mono B8.out.size))
  clear b12
  go_wp2_with fail
  go_ret
  exact ⟨rfl, BF.out⟩
 | succ m =>
  rw [if_neg (by omega), show ((m + 1 : Nat) : Int) - 1 = (m : Int) by omega] at N3
  rw [if_neg (by omega)] at N1
  have hm1 : IntKind.i64.wrap ((m : Int) + 1 - 1) = (m : Int) := by rw [IntWalk.i64_in _ (by omega)]; omega
  have hm2 : ((m : Int) + 1 == 0) = false := by simp; omega
  go_wp2_with fail
  refine (N1.out w8 (Below.refl _ _)).mono ?_
  rintro e w9 ⟨rfl, b9⟩
  have C9 := Lib.hid b9
  clear b9 N1
  go_wp2_with fail
  refine (N2.out w9 C9.out).mono ?_
  rintro e w10 ⟨rfl, b10⟩
  have C10 := Lib.hid (C9.out.trans (b10.mono C9.out.size))
  clear b10 N2
  go_wp2_with fail
  refine (N3.out w10 C10.out).mono ?_
  rintro e w11 ⟨rfl, b11⟩
  have C11 := Lib.hid (C10.out.trans (b11.mono C10.out.size))
  clear b11 N3
  go_wp2_with fail
  refine (PA.out w11 C11.out).mono ?_
  rintro e w12 ⟨rfl, b12⟩
  have BF := Lib.hid (B8.out.trans ((C11.out.trans (b12.mono C11.out.size)).mono B8.out.size))
  clear b12
  go_wp2_with fail
  go_ret
  exact ⟨rfl, BF.out⟩
set_option maxRecDepth 100000 in
theorem contract (H : Type) (enc : TypeId × Value → H) (W : World) (base : Nat) (args : Array Value) (ds gs : List (DataW H)) (before : List MemPlace)
  (hval : ∀ (j : Nat) t v, Tryz.f7.params[j]? = some t → args[j]? = some v → Value.okWide Tryz.prog W .any base t v)
  (hW : DataW.Whole enc Tryz.prog Tryz.f7.params.toList Rows.findAnchorsSpec.vars false W args.toList ds gs before) (hL : laidMetH Tryz.prog Rows.findAnchorsUptoRow.laid W) (hk : Rows.uptoSmall H (ds ++ gs) = true) :
  Calls Tryz.prog 7 args W fun e W' => ∃ v, e = .returned v ∧ Rows.findAnchorsSpec.post enc Tryz.prog Tryz.f7 false true false false W args v W' := by
 have hW' := hW
 obtain ⟨p, q, hA0, hV, rfl, hfz, hnd⟩ := hW
 have hA : DataW.TrodAll enc Tryz.prog W 0 (fun _ => true) true Tryz.f7.params.toList args.toList ds p := hA0
 rw [Tryz.params7] at hA hval
 obtain ⟨v0, vs0, d0, ds0, p0, q0, hargs, rfl, rfl, h0, r0⟩ := trodAll_cons hA
 obtain ⟨rfl, rfl, rfl⟩ := trodAll_nil r0
 obtain rfl : args = #[v0] := by cases args; simp_all
 obtain ⟨rfl, rfl⟩ := trodVars_none hV
 obtain ⟨x, rfl, rfl, rfl, wx⟩ := Go.ChangeMaps.open_string Tryz.underlying9 (hval 0 9 v0 rfl rfl) h0
 clear hA0
 simp only [List.append_nil] at hk
 have hB := NF.bulk_le hk
 simp only [Rows.uptoBulkAll, Rows.uptoBulk] at hB
 have zx : x.size ≤ 1048576 := by
  have h : x.data.toList.length = x.size := by rw [Array.length_toList]; rfl
  omega
 refine (walk x zx W (spans_of hL) ).mono fun e W' ⟨he, hg⟩ => ?_
 subst he
 exact ⟨_, rfl, close rfl hW' ⟨rfl, rfl, rfl⟩ (by kernel_rfl) (by kernel_rfl) hg⟩
set_option maxRecDepth 100000 in
theorem laid_met (os : Os) : laidMet Tryz.prog Rows.findAnchorsUptoRow.laid ((laidWorld os).forCall (fun _ _ => 0) ⟨#[], #[.string .empty], []⟩).memory :=
 laidMet_of_run' 8 (by kernel_rfl) (by kernel_rfl)
set_option maxRecDepth 100000 in
theorem reads (os : Os) {H : Type} (enc : TypeId × Value → H) : ∃ places, DataW.whole enc Tryz.prog ((laidWorld os).forCall (fun _ _ => 0) ⟨#[], #[.string .empty], []⟩).memory Tryz.f7.params.toList Rows.findAnchorsSpec.vars false (#[.string .empty] : Array Value).toList 8 = some ([.lit (.string [])], [], places) :=
 ⟨[], by kernel_rfl⟩
set_option maxRecDepth 100000 in
theorem lifted (os : Os) (started : os.Started) (H : Type) (enc : TypeId × Value → H) (F : Stop.Interp) :
  ReturnsInHanded {} Tryz.checked os 7 .any ((Rows.OpenSpec.upto Rows.findAnchorsSpec).preRow enc Tryz.prog Tryz.f7 Rows.findAnchorsUptoRow.domain false Rows.findAnchorsUptoRow.laid) (((Rows.OpenSpec.upto Rows.findAnchorsSpec).at F).post enc Tryz.prog Tryz.f7 false true false false) := by
 obtain ⟨places, hx⟩ := reads os enc
 refine returnsInHanded_of_row (C := Tryz.checked) (s := Rows.OpenSpec.upto Rows.findAnchorsSpec) ownNone started (by kernel_rfl) Tryz.func7
  (witness_row_at (enc := enc) (C := Tryz.checked) false (laidWorld os) #[.string .empty] rfl (by kernel_rfl) (by kernel_rfl) (by kernel_rfl)
   (OpenSpec.preRow_of_cond 8 hx (by kernel_rfl) (fun k hk => by cases hk; kernel_rfl) (by kernel_rfl) (laid_met os))) ?_
 intro W base args ds gs before hval hW _ hcond _ hL _ _
 exact contract H enc W base args ds gs before hval hW hL (hcond _ rfl)
set_option maxRecDepth 100000 in
set_option maxHeartbeats 0 in
theorem facts : joinedFacts Tryz.checked.prog 7 Tryz.f7 (Rows.OpenSpec.upto Rows.findAnchorsSpec).bare Rows.findAnchorsUptoRow = true := by
 have h1 := Sum.tables.1
 have h2 := Sum.tables.2.1
 have h3 := Sum.tables.2.2
 have h4 := Sum.mayEnter
 have e1 : Rows.findAnchorsUptoRow.lifted = Rows.findAllRow.lifted := by kernel_rfl
 have e2 : Rows.findAnchorsUptoRow.make = Rows.findAllRow.make := by kernel_rfl
 have h5 : (Rows.findAnchorsUptoRow.lifted == Tryz.checked.prog.liftsFinal) = true := by rw [e1]; exact Sum.lifts
 have h6 : (Tryz.checked.prog.make == some Rows.findAnchorsUptoRow.make) = true := by rw [e2]; exact Sum.make
 unfold joinedFacts
 repeat' (with_reducible refine Sum.and_mk ?_ ?_)
 all_goals first
  | with_reducible exact h1
  | with_reducible exact h2
  | with_reducible exact h4
  | with_reducible exact h5
  | with_reducible exact h6
  | (rw [h3]; as_aux_lemma => kernel_rfl)
  | (clear h1 h2 h3 h4 h5 h6 e1 e2; as_aux_lemma => kernel_rfl)
set_option maxRecDepth 100000 in
theorem said : Rows.FindAnchorsUptoSaid :=
 OpenClaim.holds_of_cond 7 Tryz.f7 rfl rfl rfl rfl rfl rfl rfl ⟨rfl, rfl, rfl, rfl, rfl⟩ rfl rfl rfl rfl rfl (by kernel_rfl) Tryz.func7 facts
  (of_decide_eq_true (by kernel_rfl)) (by unfold Func.isWrapper; first | (rw [if_pos (by decide +kernel)]; kernel_rfl) | (rw [if_neg (by decide +kernel)]; exact ⟨rfl, rfl⟩))
  (fun os started H enc _ F => by rw [OpenClaim.pre_eq_preRow]; exact lifted os started H enc F)
set_option maxRecDepth 100000 in
theorem plain (f : FuncId) (fn : Func) (hf : Tryz.pinned.checked.prog.funcNamed "rotulus/rotuluslaw16.FindAnchors" = some f) (hfn : Tryz.pinned.checked.prog.funcs[f]? = some fn) :
  false = Tryz.pinned.checked.prog.looks [] ∧ ∀ (j : Nat) t, fn.params[j]? = some t → Tryz.pinned.checked.prog.wantsStandIn t = false := by
 obtain rfl : f = 7 := Option.some.inj ((show Tryz.prog.funcNamed "rotulus/rotuluslaw16.FindAnchors" = some 7 by kernel_rfl).symm.trans hf) |>.symm
 obtain rfl : fn = Tryz.f7 := (Option.some.inj (Tryz.func7.symm.trans hfn)).symm
 refine ⟨by kernel_rfl, fun j t ht => ?_⟩
 rw [Tryz.params7] at ht
 have hm := Array.mem_of_getElem? ht
 simp at hm
 subst hm
 exact (show Tryz.prog.wantsStandIn 9 = false by kernel_rfl)
set_option maxRecDepth 100000 in
theorem card : Rows.FindAnchorsUptoCardSaid :=
 Claim7.holds_tied_plain_at .later [] _ _ _ _ said (fun _ h => by cases h) (by kernel_rfl) (fun _ h => by cases h) findAnchorsUpto_row_tie rfl ⟨rfl, rfl⟩ (by kernel_rfl) rfl plain (by kernel_rfl)
end Go.Proofs.YteemnmalikomgaaGreatDoor.findAnchors
