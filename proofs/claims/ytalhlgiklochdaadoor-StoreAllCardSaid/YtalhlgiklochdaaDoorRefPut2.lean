/-
  The reference's PutRow: a row as bytes.
-/
import Derived.Test.YtalhlgiklochdaaDoorRefPutRowR
import Derived.Test.YtalhlgiklochdaaDoorRefRow
import Derived.IntWalk
namespace Go.Proofs.YtalhlgiklochdaaDoor
open Go.ChangeShapes Go.WideShapes Go.ChangeAt Go.RowKit

theorem runs_head : ∀ (l : List Cel) (x : Nat × Cel) (ys : List (Nat × Cel)), runsOf l = x :: ys → l.head? = some x.2
  | [], _, _, h => by cases h
  | c :: l, x, ys, h => by
    have hu := unrun_runs (c :: l)
    have ha := runsOf_alt (c :: l)
    rw [h] at hu ha
    obtain ⟨h1, _, _⟩ := alt_tail ha
    obtain ⟨m, hm⟩ : ∃ m, x.1 = m + 1 := ⟨x.1 - 1, by omega⟩
    rw [← hu, unrun_cons, hm, List.replicate_succ]
    rfl
/-- Runs of a list that begins with so many alike ones and goes on with another one, or ends. -/
theorem runs_begin {l l' : List Cel} {q : Nat} {d : Cel} (hq : 1 ≤ q) (h : l = List.replicate q d ++ l') (hne : l'.head? ≠ some d) : runsOf l = (q, d) :: runsOf l' := by
  obtain ⟨m, rfl⟩ : ∃ m, q = m + 1 := ⟨q - 1, by omega⟩
  rw [h]
  refine runs_replicate d m l' _ rfl fun x ys e he => hne ?_
  rw [runs_head l' x ys e, he]

theorem eql_cells (x y z r m a : Int) (w : World) : (binOp .eql 45 (cellV x y z) (cellV r m a)).run Tryd.prog w = .ok (.bool (x == r && y == m && z == a)) w := by
  have hw := w
  cases h1 : (x == r) <;> cases h2 : (y == m) <;> cases h3 : (z == a) <;> go_simp
set_option maxRecDepth 100000 in
set_option maxHeartbeats 6400000 in
theorem refPutRow_walk (A : Option Addr) (n c : Nat) (wrap : Bool) (l : List Cel) (w : World) (hl : ∀ c ∈ l, -2147483648 ≤ c.1 ∧ c.1 ≤ 2147483647) (hq : Sq w w.heap.size 3 n A (flat l)) (hn : n ≤ 1000000) :
    Calls Tryd.prog 25 #[rowV A n c wrap] w fun e w' => PutPost wrap l w e w' := by
  have hln : l.length = n := by have := hq.len; rw [flat_length] at this; omega
  have LN := Lib.hid hln
  have Q := Lib.hid hq
  have HL := Lib.hid hl
  have w1b : Below w.heap.size w (w.alloc (.cells #[.slice A n c, .bool wrap] 31)) := (Below.refl _ _).alloc (Nat.le_refl _) _
  have MW := Lib.hid (refRow_walk A n c wrap l (w.alloc (.cells #[.slice A n c, .bool wrap] 31)) hl ((hq.below w1b).up (by simp)) hn)
  have W1B := Lib.hid w1b
  obtain ⟨B, hB⟩ : ∃ B, mayL l = B := ⟨_, rfl⟩
  rw [hB] at MW
  have BH := Lib.hid hB
  clear hln hl hq w1b hB
  cases B
  · go_enter Tryd.func25, Tryd.ntmps25
    go_wp2_with fail
    refine MW.out.mono ?_
    rintro e w2 ⟨rfl, b2⟩
    have B2 := Lib.hid (W1B.out.trans (b2.mono (by simp)))
    clear b2
    go_wp2
    go_ret2
    exact ⟨.slice none 0 0, by rw [BH.out]; rfl, by unfold putV; rw [BH.out]; exact HasB.nothing _ _, B2.out⟩
  · have SM := Lib.hid (mayL_small (fun x hx => (HL.out x hx).2) BH.out)
    have RS := Lib.hid (runs_small SM.out.1 SM.out.2)
    have hn3 : n ≤ 300 := by have := SM.out.1; have := LN.out; omega
    go_enter Tryd.func25, Tryd.ntmps25
    go_wp2_with fail
    refine MW.out.mono ?_
    rintro e w2 ⟨rfl, b2⟩
    have c0 : w2.cell? ⟨w.heap.size, 0, none⟩ = some (.slice A n c) := (b2.cell (p := ⟨w.heap.size, 0, none⟩) (by simp)).trans (by simp)
    have c1 : w2.cell? ⟨w.heap.size, 1, none⟩ = some (.bool wrap) := (b2.cell (p := ⟨w.heap.size, 1, none⟩) (by simp)).trans (by simp)
    have hz2 : w.heap.size < w2.heap.size := by have := b2.size; simp at this; omega
    have B2 := Lib.hid (W1B.out.trans (b2.mono (by simp)))
    have C0 := Lib.hid c0
    have C1 := Lib.hid c1
    clear b2 c0 c1 MW
    go_wp2_with fail
    go_loopw [4, 5, 6] (fun q u i wr => ∃ (k : Nat) (rs1 rs2 : List (Nat × Cel)), q = .int .i64 rs1.length ∧ i = .int .i64 k ∧ k ≤ n ∧ Hid (runsOf l = rs1 ++ rs2 ∧ runsOf (l.drop k) = rs2) ∧ HasB wr w2.heap.size u (rs1.flatMap runBytes) ∧ Below w2.heap.size w2 wr) (fun _ _ i _ => n - (intOf i).toNat)
    case atStart => exact ⟨0, [], runsOf l, rfl, rfl, Nat.zero_le _, Lib.hid ⟨rfl, rfl⟩, HasB.nothing _ _, Below.refl _ _⟩
    case round =>
      obtain ⟨k, rs1, rs2, rfl, rfl, hk, RR, hv, hb⟩ := hrel
      have e0 : wr.cell? ⟨w.heap.size, 0, none⟩ = some (.slice A n c) := (hb.cell (p := ⟨w.heap.size, 0, none⟩) hz2).trans C0.out
      have e1 : wr.cell? ⟨w.heap.size, 1, none⟩ = some (.bool wrap) := (hb.cell (p := ⟨w.heap.size, 1, none⟩) hz2).trans C1.out
      have HV := Lib.hid hv
      have HB := Lib.hid hb
      have hsz := hb.size
      have RL := Lib.hid (show rs1.length ≤ 300 by
        have h1 := runs_length l
        rw [RR.out.1, List.length_append] at h1
        have := SM.out.1
        omega)
      obtain ⟨p, hp⟩ : ∃ p, rs1.length = p := ⟨_, rfl⟩
      have PL := Lib.hid hp
      have hp3 : p ≤ 300 := by have := RL.out; omega
      rw [hp]
      by_cases hlt : k < n
      · obtain ⟨b, off, rfl, _, ⟨r, m, a⟩, hcc, q0, q1, q2⟩ := ((Q.out.below B2.out).below (hb.mono (Nat.le_of_lt hz2))).three hlt
        have hsm := SM.out.2 _ (List.mem_of_getElem? hcc)
        obtain ⟨⟨r0, r1⟩, ⟨m0, m1⟩, a0, a1⟩ := hsm
        simp only at r0 r1 m0 m1 a0 a1
        obtain ⟨r, rfl⟩ := Int.eq_ofNat_of_zero_le r0
        obtain ⟨m, rfl⟩ := Int.eq_ofNat_of_zero_le m0
        obtain ⟨a, rfl⟩ := Int.eq_ofNat_of_zero_le a0
        have KC := Lib.hid hcc
        have LBG := Lib.hid (show (rs1.flatMap runBytes).length ≤ 900000 by
          have h0 : ∀ x ∈ rs1, x ∈ runsOf l := fun x hx => by rw [RR.out.1]; simp [hx]
          have h1 := flatRun_len rs1 (fun x hx => ⟨by have := (RS.out x (h0 x hx)).1; omega, (RS.out x (h0 x hx)).2⟩)
          have := RL.out
          omega)
        have hun := hv.lt
        have HUN := Lib.hid hun
        have hgz : w.heap.size < wr.heap.size := by omega
        have B2R := Lib.hid (B2.out.trans (hb.mono (Nat.le_of_lt hz2)))
        simp only at q0 q1 q2
        clear hcc hv hb hun hp
        go_wp2_with fail
        go_loopw [7] (fun j wx => ∃ q : Nat, j = .int .i64 q ∧ 1 ≤ q ∧ k + q ≤ n ∧ Hid (l.drop k = List.replicate q (((r : Int), (m : Int), (a : Int)) : Cel) ++ l.drop (k + q)) ∧ Below wr.heap.size wr wx) (fun j _ => n - (intOf j).toNat)
        case atStart => exact ⟨1, rfl, Nat.le_refl _, by omega, Lib.hid (by rw [drop_get KC.out]; rfl), Below.refl _ _⟩
        case round =>
          obtain ⟨q, rfl, hq1, hkq, RP, hbx⟩ := hrel
          have f0 : wr.cell? ⟨w.heap.size, 0, none⟩ = some (.slice (some ⟨b, off, none⟩) n c) := (hbx.cell (p := ⟨w.heap.size, 0, none⟩) hgz).trans e0
          have f1 : wr.cell? ⟨w.heap.size, 1, none⟩ = some (.bool wrap) := (hbx.cell (p := ⟨w.heap.size, 1, none⟩) hgz).trans e1
          have QX := Lib.hid (Q.out.below (B2R.out.trans (hbx.mono (Nat.le_of_lt hgz))))
          have BX := Lib.hid hbx
          have hsx := hbx.size
          have hw : IntKind.i64.wrap ((k : Int) + (q : Int)) = (k : Int) + (q : Int) := IntWalk.i64_in _ (by omega)
          obtain ⟨kr, km, ka⟩ := QX.out.cells KC.out
          simp only at kr km ka
          clear hbx
          by_cases hx : k + q < n
          · obtain ⟨b', off', e', _, ⟨x, y, z⟩, hcx, s0, s1, s2⟩ := QX.out.three hx
            injection e' with e'
            injection e' with e1' e2'
            subst e1' e2'
            simp only at s0 s1 s2
            have XC := Lib.hid hcx
            have ht : ((k : Int) + (q : Int)).toNat = k + q := by omega
            have h0 : (0 : Int) ≤ (k : Int) + (q : Int) := by omega
            have hxi : (k : Int) + (q : Int) < (n : Int) := by omega
            have hd1 : decide ((k : Int) + (q : Int) < (n : Int)) = true := by simpa using hxi
            obtain ⟨bb, hbb⟩ : ∃ bb, (x == (r : Int) && y == (m : Int) && z == (a : Int)) = bb := ⟨_, rfl⟩
            have hE : ∀ w, (binOp .eql 45 (cellV x y z) (cellV r m a)).run Tryd.prog w = .ok (.bool bb) w := fun w => (eql_cells x y z r m a w).trans (by rw [hbb])
            have BBH := Lib.hid hbb
            clear hcx hbb
            cases bb
            · have RNH := Lib.hid (show (l.drop (k + q)).head? ≠ some (((r : Int), (m : Int), (a : Int)) : Cel) by
                rw [drop_get XC.out]
                intro e
                injection e with e
                injection e with e1 e2
                injection e2 with e2 e3
                have h := BBH.out
                rw [e1, e2, e3] at h
                simp at h)
              go_wp2_with fail
              go_quiet (fail)
              rename_i nq
              have BD : Below wr.heap.size wr (wr.drewN nq) := Below.drewN (Below.refl wr.heap.size wr) nq
              have hzd : (wr.drewN nq).heap.size = wr.heap.size := rfl
              generalize wr.drewN nq = wd at BD hzd ⊢
              have ZD := Lib.hid hzd
              have g0 : wd.cell? ⟨w.heap.size, 0, none⟩ = some (.slice (some ⟨b, off, none⟩) n c) := (BD.cell (p := ⟨w.heap.size, 0, none⟩) (by show w.heap.size < wr.heap.size; omega)).trans f0
              have hbk := World.block_lt_of_cell? wr _ kr
              have gr : wd.cell? ⟨b, off + k * 3, none⟩ = some (.int .i32 (r : Int)) := (BD.cell (p := ⟨b, off + k * 3, none⟩) hbk).trans kr
              have gm : wd.cell? ⟨b, off + k * 3 + 1, none⟩ = some (.int .i64 (m : Int)) := (BD.cell (p := ⟨b, off + k * 3 + 1, none⟩) hbk).trans km
              have ga : wd.cell? ⟨b, off + k * 3 + 2, none⟩ = some (.int .i64 (a : Int)) := (BD.cell (p := ⟨b, off + k * 3 + 2, none⟩) hbk).trans ka
              have BW := Lib.hid (BX.out.trans (BD.mono hsx))
              have S4 := Lib.hid (show CellAt (wd.alloc (.cells #[.int .i32 (r : Int), .int .i64 (m : Int), .int .i64 (a : Int)] 45)) wd.heap.size ((r : Int), (m : Int), (a : Int)) from heap_alloc_new wd _)
              have Z4 := Lib.hid (show (wd.alloc (.cells #[.int .i32 (r : Int), .int .i64 (m : Int), .int .i64 (a : Int)] 45)).heap.size = wd.heap.size + 1 by simp)
              clear hw hzd BD kr km ka f0
              go_wp2_with fail
              have W4 := Lib.hid (show Below wd.heap.size wd (wd.alloc (.cells #[.int .i32 (r : Int), .int .i64 (m : Int), .int .i64 (a : Int)] 45)) from (Below.refl _ _).alloc (Nat.le_refl _) _)
              generalize wd.alloc (.cells #[.int .i32 (r : Int), .int .i64 (m : Int), .int .i64 (a : Int)] 45) = w4 at W4 S4 Z4 ⊢
              refine Ord.start (S := fun w' => CellAt w' wd.heap.size ((r : Int), (m : Int), (a : Int))) (n := 21) (by kernel_rfl) (by kernel_rfl) S4.out ?_
              apply refPut_four (cnt := q) (r := r) (m := m) (a0 := a) (g8 := wd.heap.size) (base := w2.heap.size) (got := rs1.flatMap runBytes) (p0 := rowV (some ⟨b, off, none⟩) n c wrap) (p1 := .pointer (some ⟨w.heap.size, 0, none⟩)) (p2 := .slice none 0 0) (p3 := .bool false) (p4 := .int .i64 (p : Int)) (p6 := .int .i64 (k : Int)) (p10 := .agg #[.slice (some ⟨b, off, none⟩) n c, .bool wrap]) (p11 := .bool true) (p12 := .bool false)
              case R => exact ⟨by kernel_rfl, by kernel_rfl⟩
              case hQ => exact fun _ _ _ _ _ h => h
              case hcnt => omega
              case hr => omega
              case hm => omega
              case ha0 => omega
              case hgot => exact LBG.out
              case hg8 => show wd.heap.size < w4.heap.size; rw [Z4.out]; omega
              case hun => exact fun j e => by have h1 := HUN.out j e; have h2 := BW.out.size; omega
              case hbase => show w2.heap.size ≤ w4.heap.size; rw [Z4.out]; have := BW.out.size; omega
              case H => exact HV.out.below (BW.out.trans (W4.out.drew.mono BW.out.size)) HUN.out
              case hS0 => exact S4.out
              case F => exact ⟨rfl, rfl, rfl, rfl, rfl, rfl, rfl, rfl, rfl, rfl, rfl, rfl, rfl, rfl, rfl, rfl, rfl, rfl, rfl, rfl, rfl, rfl, rfl, rfl, rfl⟩
              case f5 => exact rfl
              intro a2 w3 v F f5 H3 G3
              have HN := Lib.hid (show HasB w3 w2.heap.size v ((rs1 ++ [(q, (((r : Int), (m : Int), (a : Int)) : Cel))]).flatMap runBytes) by
                rw [List.flatMap_append]
                simpa [runBytes, List.append_assoc] using H3)
              have BN := Lib.hid (((HB.out.trans (BW.out.mono hsz)).trans (W4.out.drew.mono (Nat.le_trans hsz BW.out.size))).trans (G3.below (B := w2.heap.size) (by show w2.heap.size ≤ w4.heap.size; rw [Z4.out]; have := BW.out.size; omega) (fun j e => (World.ownsRow.lt HV.out j e).1)))
              have RRN := Lib.hid (show runsOf l = (rs1 ++ [(q, (((r : Int), (m : Int), (a : Int)) : Cel))]) ++ runsOf (l.drop (k + q)) ∧ runsOf (l.drop (k + q)) = runsOf (l.drop (k + q)) by
                refine ⟨?_, rfl⟩
                have h := RR.out.1
                rw [← RR.out.2, runs_begin hq1 RP.out RNH.out] at h
                rw [h, List.append_assoc]
                rfl)
              refine refPut_frame F.size F.defers F.s0 F.s1 F.s2 F.s3 F.s4 f5 F.s6 F.s7 F.s8 F.s9 F.s10 F.s11 F.s12 F.s72 F.s73 F.s74 F.s75 F.s76 F.s77 F.s78 F.s79 F.s80 F.s81 F.s82 ?_
              intros
              clear F f5 H3 G3
              go_wp2
              go_roundw
              case rel => exact ⟨k + q, rs1 ++ [(q, (((r : Int), (m : Int), (a : Int)) : Cel))], _, by rw [List.length_append, PL.out]; go_num, by go_num, hkq, RRN, HN.out, BN.out⟩
              case measure => simp [intOf]; omega
            · have RP2 := Lib.hid (show l.drop k = List.replicate (q + 1) (((r : Int), (m : Int), (a : Int)) : Cel) ++ l.drop (k + (q + 1)) by
                have h := BBH.out
                simp only [Bool.and_eq_true, beq_iff_eq] at h
                rw [RP.out, drop_get XC.out, h.1.1, h.1.2, h.2, List.replicate_succ', List.append_assoc]
                rfl)
              go_wp2_with fail
              go_quiet (fail)
              go_wp2
              go_roundw
              case rel => exact ⟨q + 1, by go_num, by omega, by omega, RP2, Below.drewN BX.out _⟩
              case measure => simp [intOf]; omega
          · have RNH := Lib.hid (show (l.drop (k + q)).head? ≠ some (((r : Int), (m : Int), (a : Int)) : Cel) by
              rw [List.drop_eq_nil_of_le (by have := LN.out; omega)]
              simp)
            have hd2 : decide ((k : Int) + (q : Int) < (n : Int)) = false := by simp; omega
            go_wp2_with fail
            go_quiet (fail)
            rename_i nq
            have BD : Below wr.heap.size wr (wr.drewN nq) := Below.drewN (Below.refl wr.heap.size wr) nq
            have hzd : (wr.drewN nq).heap.size = wr.heap.size := rfl
            generalize wr.drewN nq = wd at BD hzd ⊢
            have ZD := Lib.hid hzd
            have g0 : wd.cell? ⟨w.heap.size, 0, none⟩ = some (.slice (some ⟨b, off, none⟩) n c) := (BD.cell (p := ⟨w.heap.size, 0, none⟩) (by show w.heap.size < wr.heap.size; omega)).trans f0
            have hbk := World.block_lt_of_cell? wr _ kr
            have gr : wd.cell? ⟨b, off + k * 3, none⟩ = some (.int .i32 (r : Int)) := (BD.cell (p := ⟨b, off + k * 3, none⟩) hbk).trans kr
            have gm : wd.cell? ⟨b, off + k * 3 + 1, none⟩ = some (.int .i64 (m : Int)) := (BD.cell (p := ⟨b, off + k * 3 + 1, none⟩) hbk).trans km
            have ga : wd.cell? ⟨b, off + k * 3 + 2, none⟩ = some (.int .i64 (a : Int)) := (BD.cell (p := ⟨b, off + k * 3 + 2, none⟩) hbk).trans ka
            have BW := Lib.hid (BX.out.trans (BD.mono hsx))
            have S4 := Lib.hid (show CellAt (wd.alloc (.cells #[.int .i32 (r : Int), .int .i64 (m : Int), .int .i64 (a : Int)] 45)) wd.heap.size ((r : Int), (m : Int), (a : Int)) from heap_alloc_new wd _)
            have Z4 := Lib.hid (show (wd.alloc (.cells #[.int .i32 (r : Int), .int .i64 (m : Int), .int .i64 (a : Int)] 45)).heap.size = wd.heap.size + 1 by simp)
            clear hw hzd BD kr km ka f0
            go_wp2_with fail
            have W4 := Lib.hid (show Below wd.heap.size wd (wd.alloc (.cells #[.int .i32 (r : Int), .int .i64 (m : Int), .int .i64 (a : Int)] 45)) from (Below.refl _ _).alloc (Nat.le_refl _) _)
            generalize wd.alloc (.cells #[.int .i32 (r : Int), .int .i64 (m : Int), .int .i64 (a : Int)] 45) = w4 at W4 S4 Z4 ⊢
            refine Ord.start (S := fun w' => CellAt w' wd.heap.size ((r : Int), (m : Int), (a : Int))) (n := 21) (by kernel_rfl) (by kernel_rfl) S4.out ?_
            apply refPut_four (cnt := q) (r := r) (m := m) (a0 := a) (g8 := wd.heap.size) (base := w2.heap.size) (got := rs1.flatMap runBytes) (p0 := rowV (some ⟨b, off, none⟩) n c wrap) (p1 := .pointer (some ⟨w.heap.size, 0, none⟩)) (p2 := .slice none 0 0) (p3 := .bool false) (p4 := .int .i64 (p : Int)) (p6 := .int .i64 (k : Int)) (p10 := .agg #[.slice (some ⟨b, off, none⟩) n c, .bool wrap]) (p11 := .bool true) (p12 := .bool false)
            case R => exact ⟨by kernel_rfl, by kernel_rfl⟩
            case hQ => exact fun _ _ _ _ _ h => h
            case hcnt => omega
            case hr => omega
            case hm => omega
            case ha0 => omega
            case hgot => exact LBG.out
            case hg8 => show wd.heap.size < w4.heap.size; rw [Z4.out]; omega
            case hun => exact fun j e => by have h1 := HUN.out j e; have h2 := BW.out.size; omega
            case hbase => show w2.heap.size ≤ w4.heap.size; rw [Z4.out]; have := BW.out.size; omega
            case H => exact HV.out.below (BW.out.trans (W4.out.drew.mono BW.out.size)) HUN.out
            case hS0 => exact S4.out
            case F => exact ⟨rfl, rfl, rfl, rfl, rfl, rfl, rfl, rfl, rfl, rfl, rfl, rfl, rfl, rfl, rfl, rfl, rfl, rfl, rfl, rfl, rfl, rfl, rfl, rfl, rfl⟩
            case f5 => exact rfl
            intro a2 w3 v F f5 H3 G3
            have HN := Lib.hid (show HasB w3 w2.heap.size v ((rs1 ++ [(q, (((r : Int), (m : Int), (a : Int)) : Cel))]).flatMap runBytes) by
              rw [List.flatMap_append]
              simpa [runBytes, List.append_assoc] using H3)
            have BN := Lib.hid (((HB.out.trans (BW.out.mono hsz)).trans (W4.out.drew.mono (Nat.le_trans hsz BW.out.size))).trans (G3.below (B := w2.heap.size) (by show w2.heap.size ≤ w4.heap.size; rw [Z4.out]; have := BW.out.size; omega) (fun j e => (World.ownsRow.lt HV.out j e).1)))
            have RRN := Lib.hid (show runsOf l = (rs1 ++ [(q, (((r : Int), (m : Int), (a : Int)) : Cel))]) ++ runsOf (l.drop (k + q)) ∧ runsOf (l.drop (k + q)) = runsOf (l.drop (k + q)) by
              refine ⟨?_, rfl⟩
              have h := RR.out.1
              rw [← RR.out.2, runs_begin hq1 RP.out RNH.out] at h
              rw [h, List.append_assoc]
              rfl)
            refine refPut_frame F.size F.defers F.s0 F.s1 F.s2 F.s3 F.s4 f5 F.s6 F.s7 F.s8 F.s9 F.s10 F.s11 F.s12 F.s72 F.s73 F.s74 F.s75 F.s76 F.s77 F.s78 F.s79 F.s80 F.s81 F.s82 ?_
            intros
            clear F f5 H3 G3
            go_wp2
            go_roundw
            case rel => exact ⟨k + q, rs1 ++ [(q, (((r : Int), (m : Int), (a : Int)) : Cel))], _, by rw [List.length_append, PL.out]; go_num, by go_num, hkq, RRN, HN.out, BN.out⟩
            case measure => simp [intOf]; omega
      · have hk' : k = n := by omega
        have R0 : rs2 = [] := by
          have h := RR.out.2
          rw [List.drop_eq_nil_of_le (by have := LN.out; omega)] at h
          exact h.symm
        have RA : runsOf l = rs1 := by have h := RR.out.1; rw [R0, List.append_nil] at h; exact h
        have HE : Hid (headOf wrap p = 2 * p + if wrap then 1 else 0) := rfl
        obtain ⟨hd, hhd⟩ : ∃ hd, headOf wrap p = hd := ⟨_, rfl⟩
        have HH := Lib.hid hhd
        have hd6 : hd ≤ 601 := by have := HE.out; rw [HH.out] at this; split at this <;> omega
        have TL := Lib.hid (show uintL hd ++ rs1.flatMap runBytes = putV wrap l by unfold putV putL; rw [BH.out, RA, PL.out, HH.out]; rfl)
        have LB := Lib.hid (show (rs1.flatMap runBytes).length ≤ 20000 by
          rw [← RA]
          have h1 := flatRun_len (runsOf l) (fun x hx => ⟨by have := (RS.out x hx).1; omega, (RS.out x hx).2⟩)
          have h2 := runs_length l
          have := SM.out.1
          omega)
        obtain ⟨i0, hi, hz0, hz1, hz2'⟩ := info_parts infoByte
        obtain ⟨A5, c5, rfl⟩ := hv.shape
        obtain ⟨lb, hlb⟩ : ∃ lb, (rs1.flatMap runBytes).length = lb := ⟨_, rfl⟩
        have QB := Lib.hid (HasB.sq hv)
        have LBH := Lib.hid hlb
        rw [hlb] at QB ⊢
        have lb2 : lb ≤ 20000 := by have := LB.out; omega
        clear hv hb hhd hlb hk' R0 RA hp HV
        cases wrap
        all_goals
          first
            | (have e2 : (2 : Int) * (p : Int) = (hd : Int) := by have := HE.out; rw [HH.out] at this; simp at this; omega)
            | (obtain ⟨h0, hh0⟩ : ∃ h0 : Nat, 2 * p = h0 := ⟨_, rfl⟩
               have e2 : (2 : Int) * (p : Int) = (h0 : Int) := by omega
               have e3 : (h0 : Int) + 1 = (hd : Int) := by have := HE.out; rw [HH.out] at this; simp at this; omega
               have hh6 : h0 ≤ 600 := by omega
               clear hh0)
          go_wp2_with fail
          refine (refUint_walk hd (by omega) wr).mono ?_
          rintro e w7 ⟨v7, rfl, h7, b7⟩
          obtain ⟨A7, c7, rfl⟩ := h7.shape
          have L7 := uintL_len (n := hd) (by omega)
          have O7 := Lib.hid (show w7.ownsRow wr.heap.size 5 1 (.slice A7 (uintL hd).length c7) (uintL hd).length ((uintL hd).map (Value.int .u8)) from h7)
          have B7 := Lib.hid b7
          have Q7 := Lib.hid (QB.out.below b7)
          have hs7 := b7.size
          clear h7 b7 e0 e1
          go_wp2_with (
            at_builtin
            refine wpl_app rfl _ _ 23 rfl wr.heap.size 5 i0 (.int .u8 0) 1 1 Tryd.underlying23 hi hz0 hz1 hz2' rfl (by decide) _ (uintL hd).length _ rfl O7.out A5 lb c5 ((rs1.flatMap runBytes).map (Value.int .u8)) rfl wr.heap.size Q7.out (bytes_one _) (by unfold maxLen; omega) (by omega) hs7 ?_
            intro v8 w8 hown hg hat
            have H8 := Lib.hid (show HasB w8 wr.heap.size v8 (putV _ l) by rw [← TL.out]; unfold HasB; rw [List.length_append, List.map_append, LBH.out]; exact hown)
            have B8 := Lib.hid (B2.out.trans ((HB.out.mono (Nat.le_of_lt hz2)).trans ((B7.out.mono (by omega)).grown hg (by omega) (fun j e => by have := (World.ownsRow.lt O7.out j e).1; omega))))
            clear hown hg hat)
          go_ret2
          exact ⟨v8, by rw [BH.out]; rfl, H8.out.mono' (by omega), B8.out⟩
end Go.Proofs.YtalhlgiklochdaaDoor
