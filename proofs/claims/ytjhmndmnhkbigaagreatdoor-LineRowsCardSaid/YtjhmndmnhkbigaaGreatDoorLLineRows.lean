/-
  The statement LineRows: a line that is laid out takes as many rows as its cells and Pads need, and a Pad stands at the end of a row alone that goes on, no more than one a row. For every list of cells (of which the statement reads the first sixty) and every number as width; it holds where the table of widths is as its initialiser lays it, which the card ties to the program's text.
-/
import Derived.Test.YtjhmndmnhkbigaaGreatDoorQXEvZ0
import Derived.Test.YtjhmndmnhkbigaaGreatDoorQXBase0
import Derived.Test.YtjhmndmnhkbigaaGreatDoorQXLine5
namespace Go.Proofs.YtjhmndmnhkbigaaGreatDoor.lineRows
open Go.ChangeShapes Go.WideShapes Go.ChangeAt Go.RowKit
open Rw Ln
set_option maxRecDepth 100000 in
set_option maxHeartbeats 12800000 in
theorem walk (A : Option Addr) (n c : Nat) (l : List Cel) (hc : n ≤ c) (_ : c ≤ maxLen) (hl : Signs l) (x : Int) (_ : -9223372036854775808 ≤ x ∧ x ≤ 9223372036854775807) (w : World) (hs : Spans w) (hq : Sq w w.heap.size 3 n A (flat l)) :
  Calls Tryz.prog 7 #[.slice A n c, .int .i64 x] w fun e w' => e = .returned (.bool true) ∧ Below w.heap.size w w' := by
 obtain ⟨wv, hwv, hw2, hw3, ew1, ew2⟩ := width_of x 20 (by decide) (by decide)
 obtain ⟨m, hm⟩ : ∃ m : Nat, min (n : Int) 60 = (m : Int) := ⟨min n 60, by omega⟩
 have hm1 : m ≤ n := by omega
 have hm2 : m ≤ 60 := by omega
 have hmc : m ≤ c := by omega
 have hqt := sq_takeC hq hm1
 have hlm : (l.take m).length = m := by have := hq.len; rw [flat_length] at this; rw [List.length_take]; omega
 have hls : ∀ c ∈ l.take m, -2147483648 ≤ c.1 ∧ c.1 ≤ 2147483647 := fun c hc => hl c (List.mem_of_mem_take hc)
 generalize l.take m = l' at hqt hlm hls
 have S := Lib.hid hs
 have QT := Lib.hid hqt
 have LM := Lib.hid hlm
 have LS := Lib.hid hls
 have HW := Lib.hid (show 2 ≤ wv ∧ wv ≤ 300 from ⟨hw2, by omega⟩)
 clear hs hq hl hqt hlm hls hwv hw2 hw3
 go_enter Tryz.func7, Tryz.ntmps7
 go_wp2_with fail
 refine (Ev.Trues.at Ev.begun10 w S.out).mono ?_
 rintro e w1 ⟨rfl, b1⟩
 have B1 := Lib.hid b1
 have Q1 := Lib.hid ((QT.out.below b1).up b1.size)
 have RL := Lib.hid (refLine_walk A m c l' w1 LS.out Q1.out (by omega))
 clear b1
 go_wp2_with fail
 refine RL.out.mono ?_
 rintro e w2 ⟨rfl, b2⟩
 have B2 := Lib.hid (B1.out.trans (b2.mono B1.out.size))
 have Q2 := Lib.hid ((Q1.out.below b2).up b2.size)
 have S2 := Lib.hid (S.out.below B2.out S.out.size)
 clear b2 RL Q1 B1 QT hm
 cases hb : lineB l' with
 | false =>
  go_wp2
  go_ret
  exact ⟨rfl, B2.out⟩
 | true =>
  have LB := Lib.hid hb
  have W12s := Lib.hid (show ∀ x ∈ l', W12 x from fun x hx => okC_w (List.all_eq_true.1 hb x hx))
  have WT := Lib.hid (show wideL l' ≤ 120 from by have := wideL_le l' W12s.out; have := LM.out; omega)
  clear hb
  go_wp2_with fail
  go_loopw [6, 7] (fun o i wr => ∃ k : Nat, o = .int .i64 ((wideL (l'.take k) : Nat) : Int) ∧ i = .int .i64 (k : Int) ∧ k ≤ m ∧ wr = w2) (fun _ i _ => m - (intOf i).toNat)
  case atStart => exact ⟨0, rfl, rfl, Nat.zero_le _, rfl⟩
  case round =>
   obtain ⟨k, rfl, rfl, hk, rfl⟩ := hrel
   by_cases hlt : k < m
   ·obtain ⟨b, off, rfl, hbb, ⟨r, mm, a⟩, hcc, q0, q1, q2⟩ := Q2.out.three hlt
    have hw := W12s.out _ (List.mem_of_getElem? hcc)
    have hn1 := wideL_take hcc
    have hle : wideL (l'.take k) ≤ 120 := by
     have h1 := wideL_le (l'.take k) (fun x hx => W12s.out x (List.mem_of_mem_take hx))
     rw [List.length_take] at h1
     omega
    generalize wideL (l'.take k) = W0 at hn1 hle
    have hmm : (mm.toNat : Int) = mm := by unfold W12 at hw; simp only at hw; omega
    have hwd : wd (r, mm, a) = mm.toNat := rfl
    have hm2' : mm ≤ 2 := by unfold W12 at hw; simp only at hw; omega
    have hsum : IntKind.i64.wrap ((W0 : Int) + mm) = ((wideL (l'.take (k + 1)) : Nat) : Int) := by
     rw [hn1, hwd]
     rw [show ((W0 + mm.toNat : Nat) : Int) = (W0 : Int) + mm by omega]
     exact IntWalk.i64_in _ (by omega)
    have hk0 : (k : Int) < (m : Int) := by omega
    clear hcc hw hn1 hmm hwd q0 q2 hle
    go_wp2_with fail
    go_roundw
    case rel => exact ⟨k + 1, by trivial, by go_num, by omega, by trivial⟩
    case measure => simp [intOf]; omega
   ·obtain rfl : k = m := by omega
    have hall : wideL (l'.take k) = wideL l' := by rw [List.take_of_length_le (by rw [LM.out]; exact Nat.le_refl _)]
    rw [hall]
    have NR := Lib.hid (layL_len wv l')
    have LR0 := Lib.hid (lay_rows HW.out.1 HW.out.2 LB.out)
    have LI := Lib.hid (layL_is HW.out.1 HW.out.2 LB.out)
    go_wp2_with fail
    refine (layout_walk A k c l' (wv : Int) wr S2.out LS.out Q2.out (by omega)).mono ?_
    rintro e w3 ⟨h3, -, b3⟩
    obtain ⟨v3, rs, rfl, sh3, hm3⟩ := h3 ⟨by have := HW.out; omega, by have := HW.out; omega, LB.out⟩
    rw [show ((wv : Int)).toNat = wv by simp] at sh3 hm3
    obtain ⟨A3, c3, rfl, _⟩ := sh3.own.shape
    obtain ⟨N, hN⟩ : ∃ N, rs.length = N := ⟨_, rfl⟩
    have hNL : (layL wv l').length = N := by rw [← hm3, List.length_map, hN]
    have hN61 : N ≤ 61 := by have := NR.out; have := LM.out; omega
    rw [hN] at sh3 ⊢
    obtain ⟨L, hL⟩ : ∃ L, layL wv l' = L := ⟨_, rfl⟩
    rw [hL] at LR0 LI hm3 hNL
    have SH := Lib.hid sh3
    have HM := Lib.hid hm3
    have HN := Lib.hid hNL
    have B3 := Lib.hid (B2.out.trans (b3.mono B2.out.size))
    have I0 := Lib.hid (Below.refl w3.heap.size w3)
    have RLN := Lib.hid (show ∀ r ∈ L, r.2.length = wv from fun r hr => by obtain ⟨_, _, _, _, h, _⟩ := LI.out; exact (h r hr).1)
    clear h3 sh3 hm3 b3 hL hNL LI NR
    go_wp2_with fail
    go_loopw [9, 10] (fun o i wr => ∃ k : Nat, o = .int .i64 ((padsR (L.take k) : Nat) : Int) ∧ i = .int .i64 (k : Int) ∧ k ≤ N ∧ Hid (Below w3.heap.size w3 wr)) (fun _ i _ => N - (intOf i).toNat)
    case atStart => exact ⟨0, rfl, rfl, Nat.zero_le _, I0⟩
    case round =>
     obtain ⟨i, rfl, rfl, hi, I⟩ := hrel
     clear I0
     by_cases hlti : i < N
     ·obtain ⟨⟨rA, rn, rc, rb, rl⟩, hri⟩ : ∃ r, rs[i]? = some r := ⟨_, List.getElem?_eq_getElem (by have := HM.out; have h2 := HN.out; rw [← this, List.length_map] at h2; omega)⟩
      obtain ⟨b, off, g, rfl, e1, e2, e3, e4, e5, RD⟩ := SH.out.read hri
      dsimp only at e1 e2 e3 e4 e5 RD
      subst e1
      replace e2 := e2.symm
      subst e2
      have hLi : L[i]? = some (rb, rl) := by rw [← HM.out, List.getElem?_map, hri]; rfl
      have hPi := padsR_take hLi
      have hPA := Lib.hid (LR0.out.1 i (rb, rl) hLi)
      have RDH := Lib.hid RD
      have EL := Lib.hid e3
      have hple : padsR (L.take i) ≤ 300 * 61 := by
       have h1 := padsR_len (L.take i) 300 (fun r hr => by rw [RLN.out r (List.mem_of_mem_take hr)]; exact HW.out.2)
       rw [List.length_take] at h1
       omega
      generalize padsR (L.take i) = P0 at hPi hple
      have I1 := I
      have HI := Lib.hid hPi
      have HP0 := Lib.hid hple
      have hii : (i : Int) < (N : Int) := by omega
      clear hri RD e3 e4 hLi hPi hple
      go_wp2_with fail
      go_loopw [9, 11] (fun o j wr => ∃ k p : Nat, o = .int .i64 (p : Int) ∧ j = .int .i64 (k : Int) ∧ k ≤ wv ∧ Hid (p = P0 + padsL (rl.take k)) ∧ Hid (Below w3.heap.size w3 wr)) (fun _ j _ => wv - (intOf j).toNat)
      case atStart => exact ⟨0, P0, rfl, rfl, Nat.zero_le _, Lib.hid (by simp [padsL]), I1⟩
      case round =>
       obtain ⟨k, p, rfl, rfl, hk, PP, I2⟩ := hrel
       by_cases hlt : k < wv
       ·obtain ⟨⟨r, mm, a⟩, hcc⟩ : ∃ c, rl[k]? = some c := ⟨_, List.getElem?_eq_getElem (by rw [EL.out]; exact hlt)⟩
        have hPk := padsL_take hcc
        have hpl : padsL (rl.take k) ≤ 300 := by
         have h1 : padsL (rl.take k) ≤ (rl.take k).length := by unfold padsL; exact List.length_filter_le _ _
         rw [List.length_take] at h1
         have := HW.out
         omega
        obtain ⟨D, hD⟩ : ∃ D, padC (r, mm, a) = D := ⟨_, rfl⟩
        have NE := fun w => Rw.eql_cell r mm a 0 1 0 w
        rw [show (r == 0 && mm == 1 && a == 0) = D from hD] at NE
        rw [hD] at hPk
        have HPA := Lib.hid (show D = true → k + 1 = wv ∧ rb = true from fun h => hPA.out k (r, mm, a) hcc (hD.trans h))
        obtain ⟨J, hJ, F, h0, hB, hN'⟩ := Cls.below wr
        have H0 := Lib.hid h0
        have HBn := Lib.hid (fun n => I2.out.trans ((hB n).mono I2.out.size))
        have PDN := Lib.hid (show ∀ n, Calls Tryz.prog 29 #[] (F n) fun e w' => e = .returned (cellV 0 1 0) ∧ ∃ m, w' = F m from fun n => (refPad_walk (F n)).mono fun e w' ⟨he, hb⟩ => ⟨he, hN' n w' hb⟩)
        have q0 := fun n => (RDH.out (F n) (HBn.out n)).1
        have c0 := fun n => ((RDH.out (F n) (HBn.out n)).2.2.cellsAt hcc).1
        have c1 := fun n => ((RDH.out (F n) (HBn.out n)).2.2.cellsAt hcc).2.1
        have c2 := fun n => ((RDH.out (F n) (HBn.out n)).2.2.cellsAt hcc).2.2
        simp only [Nat.zero_add] at c0 c1 c2
        have hki : (k : Int) < (wv : Int) := by omega
        have hkb : k < 300 := by have := HW.out; omega
        have hinc : IntKind.i64.wrap ((k : Int) + 1) = (k : Int) + 1 := IntWalk.i64_in _ (by omega)
        have q0r := (RDH.out wr I2.out).1
        clear hcc hD h0 hB hN' I2
        go_wp2_with fail
        cases D
        ·refine Cls.region F H0.out (by kernel_rfl) (by kernel_rfl) ?_
         repeat (go_big_quiet_step ((go_at_call 29; exact PDN.out _)))
         refine wpQuiet_nil ?_
         intro _ hw'
         obtain ⟨nq, hw''⟩ := hw'
         subst hw''
         have BB := Lib.hid (HBn.out nq)
         have PE := Lib.hid (show p = P0 + padsL (rl.take (k + 1)) from by rw [PP.out, hPk]; simp)
         clear q0 c0 c1 c2 NE hPk
         go_wp2
         go_roundw
         case rel => exact ⟨k + 1, p, by trivial, by go_num, by omega, PE, BB⟩
         case measure => simp [intOf]; omega
        ·obtain ⟨hk1, hrb⟩ := HPA.out rfl
         subst hrb
         refine Cls.region F H0.out (by kernel_rfl) (by kernel_rfl) ?_
         repeat (go_big_quiet_step ((go_at_call 29; exact PDN.out _)))
         refine wpQuiet_nil ?_
         intro _ hw'
         obtain ⟨nq, hw''⟩ := hw'
         subst hw''
         have BB := Lib.hid (HBn.out nq)
         have q1 := (RDH.out (F nq) (HBn.out nq)).2.1
         have hs1 : IntKind.i64.wrap ((wv : Int) - 1) = (k : Int) := by rw [show (wv : Int) - 1 = (k : Int) by omega]; exact IntWalk.i64_in _ (by have := HW.out; omega)
         have hpb : p ≤ 18600 := by have := PP.out; have := HP0.out; omega
         have PE := Lib.hid (show p + 1 = P0 + padsL (rl.take (k + 1)) from by rw [PP.out, hPk]; simp; omega)
         clear q0 c0 c1 c2 NE hPk
         go_wp2_with fail
         go_roundw
         case rel => exact ⟨k + 1, p + 1, by go_num, by go_num, by omega, PE, BB⟩
         case measure => simp [intOf]; omega
       ·obtain rfl : k = wv := by omega
        have PE := Lib.hid (show p = padsR (L.take (i + 1)) from by rw [PP.out, HI.out, List.take_of_length_le (by rw [EL.out]; exact Nat.le_refl _)])
        have q0r := (RDH.out wr I2.out).1
        go_wp2
        go_roundw
        case rel => exact ⟨i + 1, by rw [PE.out], by go_num, by omega, I2⟩
        case measure => simp [intOf]; omega
     ·obtain rfl : i = N := by omega
      have hall : padsR (L.take i) = padsR L := by rw [List.take_of_length_le (by rw [HN.out]; exact Nat.le_refl _)]
      rw [hall]
      obtain ⟨-, hmax, hlt⟩ := LR0.out
      rw [HN.out] at hmax hlt
      have hw2 := HW.out
      have hwt := WT.out
      generalize padsR L = P1 at hmax hlt
      generalize wideL l' = W1 at hmax hwt
      obtain ⟨q, hqd⟩ : ∃ q, (W1 + P1 + wv - 1) / wv = q := ⟨_, rfl⟩
      rw [hqd] at hmax
      obtain ⟨x1, hx1⟩ : ∃ x1, W1 + P1 = x1 := ⟨_, rfl⟩
      obtain ⟨x2, hx2⟩ : ∃ x2, x1 + wv = x2 := ⟨_, rfl⟩
      obtain ⟨x3, hx3⟩ : ∃ x3, x2 - 1 = x3 := ⟨_, rfl⟩
      have f1 : IntKind.i64.wrap ((W1 : Int) + (P1 : Int)) = (x1 : Int) := by rw [show (W1 : Int) + (P1 : Int) = (x1 : Int) by omega]; exact IntWalk.i64_in _ (by omega)
      have f2 : IntKind.i64.wrap ((x1 : Int) + (wv : Int)) = (x2 : Int) := by rw [show (x1 : Int) + (wv : Int) = (x2 : Int) by omega]; exact IntWalk.i64_in _ (by omega)
      have f3 : IntKind.i64.wrap ((x2 : Int) - 1) = (x3 : Int) := by rw [show (x2 : Int) - 1 = (x3 : Int) by omega]; exact IntWalk.i64_in _ (by omega)
      rw [hx1, hx2, hx3] at hqd
      have f4 : (x3 : Int) / (wv : Int) = (q : Int) := by rw [← hqd]; simp
      have f5 : (x3 : Int).tdiv (wv : Int) = (q : Int) := by rw [← hqd]; exact (Int.ofNat_tdiv _ _).symm
      have f6 : (max (1 : Int) (q : Int)) = (i : Int) := by omega
      have f7 : (P1 : Int) < max (1 : Int) (i : Int) := by omega
      have f8 : IntKind.i64.wrap (q : Int) = (q : Int) := IntWalk.i64_in _ (by omega)
      have hwne : (wv : Int) ≠ 0 := by omega
      have hwz : ¬ ((wv : Int) = 0) := hwne
      clear hqd hall hmax hx1 hx2 hx3 hlt
      go_wp2_with fail
      go_ret
      exact ⟨rfl, B3.out.trans (I.out.mono B3.out.size)⟩
set_option maxRecDepth 100000 in
theorem contract (H : Type) (enc : TypeId × Value → H) (W : World) (base : Nat) (args : Array Value) (ds gs : List (DataW H)) (before : List MemPlace)
  (hval : ∀ (j : Nat) t v, Tryz.f7.params[j]? = some t → args[j]? = some v → Value.okWide Tryz.prog W .any base t v)
  (hW : DataW.Whole enc Tryz.prog Tryz.f7.params.toList Rows.lineRowsSpec.vars false W args.toList ds gs before) (hL : laidMetH Tryz.prog Rows.lineRowsRow.laid W) :
  Calls Tryz.prog 7 args W fun e W' => ∃ v, e = .returned v ∧ Rows.lineRowsSpec.post enc Tryz.prog Tryz.f7 false true false false W args v W' := by
 have hW' := hW
 obtain ⟨p, q, hA0, hV, rfl, hfz, hnd⟩ := hW
 have hA : DataW.TrodAll enc Tryz.prog W 0 (fun _ => true) true Tryz.f7.params.toList args.toList ds p := hA0
 rw [Tryz.params7] at hA hval
 obtain ⟨v0, vs0, d0, ds0, p0, q0, hargs, rfl, rfl, h0, r0⟩ := trodAll_cons hA
 obtain ⟨v1, vs1, d1, ds1, p1, q1, rfl, rfl, rfl, h1, r1⟩ := trodAll_cons r0
 obtain ⟨rfl, rfl, rfl⟩ := trodAll_nil r1
 obtain rfl : args = #[v0, v1] := by cases args; simp_all
 obtain ⟨rfl, rfl⟩ := trodVars_none hV
 obtain ⟨Ax, nx, cx, x, rfl, hcx, hmx, hrx, hqx⟩ := open_cells (hval 0 41 v0 rfl rfl) h0
 obtain ⟨y, rfl, rfl, rfl, wy⟩ := open_int Tryz.underlying3 (hval 1 3 v1 rfl rfl) h1
 clear hA0
 refine (walk Ax nx cx x hcx hmx hrx y (wf_i64 wy) W (spans_of hL) hqx).mono fun e W' ⟨he, hg⟩ => ?_
 subst he
 exact ⟨_, rfl, close rfl hW' ⟨rfl, rfl, rfl⟩ (by kernel_rfl) (by kernel_rfl) hg⟩
set_option maxRecDepth 100000 in
theorem laid_met (os : Os) : laidMet Tryz.prog Rows.lineRowsRow.laid ((laidWorld os).forCall (fun _ _ => 0) ⟨#[], #[.slice none 0 0, .int .i64 0], []⟩).memory :=
 laidMet_of_run' 8 (by kernel_rfl) (by kernel_rfl)
set_option maxRecDepth 100000 in
theorem reads (os : Os) {H : Type} (enc : TypeId × Value → H) : ∃ places, DataW.whole enc Tryz.prog ((laidWorld os).forCall (fun _ _ => 0) ⟨#[], #[.slice none 0 0, .int .i64 0], []⟩).memory Tryz.f7.params.toList Rows.lineRowsSpec.vars false (#[.slice none 0 0, .int .i64 0] : Array Value).toList 8 = some ([.nil, .lit (.int .i64 0)], [], places) :=
 ⟨[], by kernel_rfl⟩
set_option maxRecDepth 100000 in
theorem lifted (os : Os) (started : os.Started) (H : Type) (enc : TypeId × Value → H) (F : Stop.Interp) :
  ReturnsInHanded {} Tryz.checked os 7 .any ((OpenSpec.ofChange Rows.lineRowsSpec).preRow enc Tryz.prog Tryz.f7 Rows.lineRowsRow.domain false Rows.lineRowsRow.laid) (((OpenSpec.ofChange Rows.lineRowsSpec).at F).post enc Tryz.prog Tryz.f7 false true false false) := by
 obtain ⟨places, hx⟩ := reads os enc
 refine returnsInHanded_of_row (C := Tryz.checked) (s := OpenSpec.ofChange Rows.lineRowsSpec) ownNone started (by kernel_rfl) Tryz.func7
  (witness_row_at (enc := enc) (C := Tryz.checked) false (laidWorld os) #[.slice none 0 0, .int .i64 0] rfl (by kernel_rfl) (by kernel_rfl) (by kernel_rfl)
   (OpenSpec.preRow_of_cond 8 hx (by kernel_rfl) (fun k hk => by cases hk) (by kernel_rfl) (laid_met os))) ?_
 intro W base args ds gs before hval hW _ _ _ hL _ _
 exact contract H enc W base args ds gs before hval hW hL
set_option maxRecDepth 100000 in
set_option maxHeartbeats 0 in
theorem facts : joinedFacts Tryz.checked.prog 7 Tryz.f7 (OpenSpec.ofChange Rows.lineRowsSpec).bare Rows.lineRowsRow = true := by
 have h1 := Sum.tables.1
 have h2 := Sum.tables.2.1
 have h3 := Sum.tables.2.2
 have h4 := Sum.mayEnter
 have e1 : Rows.lineRowsRow.lifted = Rows.lineAllRow.lifted := by kernel_rfl
 have e2 : Rows.lineRowsRow.make = Rows.lineAllRow.make := by kernel_rfl
 have h5 : (Rows.lineRowsRow.lifted == Tryz.checked.prog.liftsFinal) = true := by rw [e1]; exact Sum.lifts
 have h6 : (Tryz.checked.prog.make == some Rows.lineRowsRow.make) = true := by rw [e2]; exact Sum.make
 unfold joinedFacts
 repeat' (with_reducible refine Sum.and_mk ?_ ?_)
 all_goals first
  | with_reducible exact h1
  | with_reducible exact h2
  | with_reducible exact h4
  | with_reducible exact h5
  | with_reducible exact h6
  | (rw [h3]; as_aux_lemma => kernel_rfl)
  | (clear h1 h2 h3 h4 h5 h6 e1 e2; as_aux_lemma => kernel_rfl)
set_option maxRecDepth 100000 in
theorem said : Rows.LineRowsSaid :=
 OpenClaim.holds_of_cond 7 Tryz.f7 rfl rfl rfl rfl rfl rfl rfl ⟨rfl, rfl, rfl, rfl, rfl⟩ rfl rfl rfl rfl rfl (by kernel_rfl) Tryz.func7 facts
  (of_decide_eq_true (by kernel_rfl)) (by unfold Func.isWrapper; first | (rw [if_pos (by decide +kernel)]; kernel_rfl) | (rw [if_neg (by decide +kernel)]; exact ⟨rfl, rfl⟩))
  (fun os started H enc _ F => by rw [OpenClaim.pre_eq_preRow]; exact lifted os started H enc F)
set_option maxRecDepth 100000 in
theorem plain (f : FuncId) (fn : Func) (hf : Tryz.pinned.checked.prog.funcNamed "rotulus/rotuluslaw10.LineRows" = some f) (hfn : Tryz.pinned.checked.prog.funcs[f]? = some fn) :
  false = Tryz.pinned.checked.prog.looks [] ∧ ∀ (j : Nat) t, fn.params[j]? = some t → Tryz.pinned.checked.prog.wantsStandIn t = false := by
 obtain rfl : f = 7 := Option.some.inj ((show Tryz.prog.funcNamed "rotulus/rotuluslaw10.LineRows" = some 7 by kernel_rfl).symm.trans hf) |>.symm
 obtain rfl : fn = Tryz.f7 := (Option.some.inj (Tryz.func7.symm.trans hfn)).symm
 refine ⟨by kernel_rfl, fun j t ht => ?_⟩
 rw [Tryz.params7] at ht
 have hm := Array.mem_of_getElem? ht
 simp at hm
 rcases hm with rfl | rfl
 ·exact (show Tryz.prog.wantsStandIn 41 = false by kernel_rfl)
 ·exact (show Tryz.prog.wantsStandIn 3 = false by kernel_rfl)
set_option maxRecDepth 100000 in
theorem card : Rows.LineRowsCardSaid :=
 Claim7.holds_tied_plain_at .later [] _ _ _ _ said (fun _ h => by cases h) (by kernel_rfl) (fun _ h => by cases h) lineRows_row_tie rfl ⟨rfl, rfl⟩ (by kernel_rfl) rfl plain (by kernel_rfl)
end Go.Proofs.YtjhmndmnhkbigaaGreatDoor.lineRows
