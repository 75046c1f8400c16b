/-
  The reference's Row: may a row be?
-/
import Derived.Test.YtalhlgiklochdaaDoorRefRowR
import Derived.Test.YtalhlgiklochdaaDoorPackMay
import Derived.IntWalk
namespace Go.Proofs.YtalhlgiklochdaaDoor
open Go.ChangeShapes Go.WideShapes Go.ChangeAt Go.RowKit

/-- What the reference asks of the cells, one by one, p being the cell ahead. -/
def nextBad (c : Cel) : List Cel → Bool
  | [] => true
  | d :: _ => !(d.1 == 0 && d.2.1 == 0 && d.2.2 == c.2.2)
def refGo : Cel → List Cel → Bool
  | _, [] => true
  | p, c :: l => mayB c && !(c.2.1 == 2 && nextBad c l) && !(c.2.1 == 0 && !(p.2.1 == 2 && p.2.2 == c.2.2)) && refGo c l
theorem mayB_zero {c : Cel} (h : mayB c = true) (h0 : c.2.1 = 0) : c.1 = 0 := by
  obtain ⟨r, n, a⟩ := c
  simp only at h0
  subst h0
  unfold mayB at h
  simp at h
  exact h.2
theorem mayGo_ref : ∀ (l : List Cel) (p : Cel), mayGo p l = ((!(p.2.1 == 2) || !(nextBad p l)) && refGo p l)
  | [], p => by simp [mayGo, refGo, nextBad]
  | c :: l, p => by
    have ih := mayGo_ref l c
    have e1 : mayGo p (c :: l) = (mayB c && ((p.2.1 == 2) == (c.2.1 == 0)) && (!(c.2.1 == 0) || c.2.2 == p.2.2) && mayGo c l) := rfl
    have e2 : refGo p (c :: l) = (mayB c && !(c.2.1 == 2 && nextBad c l) && !(c.2.1 == 0 && !(p.2.1 == 2 && p.2.2 == c.2.2)) && refGo c l) := rfl
    have e3 : nextBad p (c :: l) = !(c.1 == 0 && c.2.1 == 0 && c.2.2 == p.2.2) := rfl
    rw [e1, e2, e3, ih]
    clear e1 e2 e3 ih
    generalize refGo c l = g
    generalize nextBad c l = nb
    cases hm : mayB c
    · simp
    · cases hp : (p.2.1 == 2)
      · cases h0 : (c.2.1 == 0) <;> cases h2 : (c.2.1 == 2) <;> cases nb <;> cases g <;> rfl
      · cases h0 : (c.2.1 == 0)
        · simp
        · have hr : c.1 = 0 := mayB_zero hm (by simpa using h0)
          have h2 : (c.2.1 == 2) = false := by simp only [beq_iff_eq] at h0; rw [h0]; rfl
          cases ha : (c.2.2 == p.2.2)
          · simp
          · have ha' : (p.2.2 == c.2.2) = true := by simp only [beq_iff_eq] at ha ⊢; exact ha.symm
            rw [ha', hr, h2]
            simp
theorem mayL_ref (l : List Cel) : mayL l = (decide (l.length ≤ 300) && refGo (32, 1, 0) l) := by
  unfold mayL
  rw [mayGo_ref]
  rfl
/-- A cell's three cells in memory. -/
theorem Sq.cells {w : World} {B n b off k : Nat} {l : List Cel} {c : Cel} (h : Sq w B 3 n (some ⟨b, off, none⟩) (flat l)) (hc : l[k]? = some c) : w.cell? ⟨b, off + k * 3, none⟩ = some (.int .i32 c.1) ∧ w.cell? ⟨b, off + k * 3 + 1, none⟩ = some (.int .i64 c.2.1) ∧ w.cell? ⟨b, off + k * 3 + 2, none⟩ = some (.int .i64 c.2.2) := by
  have hl : k < n := by
    have h1 := h.len
    rw [flat_length] at h1
    have := (List.getElem?_eq_some_iff.1 hc).1
    omega
  obtain ⟨b', off', e, _, c', h', q0, q1, q2⟩ := h.three hl
  injection e with e
  injection e with e1 e2
  subst e1 e2
  rw [hc] at h'
  injection h' with h'
  subst h'
  exact ⟨q0, q1, q2⟩
/-- The cell ahead of place k. -/
def prevL (l : List Cel) (k : Nat) : Cel := if k = 0 then (32, 1, 0) else l.getD (k - 1) (32, 1, 0)
theorem prevL_succ {l : List Cel} {k : Nat} {c : Cel} (h : l[k]? = some c) : prevL l (k + 1) = c := by
  unfold prevL
  rw [if_neg (by omega), Nat.add_sub_cancel, List.getD, h]
  rfl
theorem prevL_zero (l : List Cel) : prevL l 0 = (32, 1, 0) := rfl
theorem prevL_get {l : List Cel} {k : Nat} {c : Cel} (hk : 0 < k) (h : l[k - 1]? = some c) : prevL l k = c := by
  unfold prevL
  rw [if_neg (by omega), List.getD, h]
  rfl
theorem drop_get {l : List Cel} {k : Nat} {c : Cel} (h : l[k]? = some c) : l.drop k = c :: l.drop (k + 1) := by
  obtain ⟨h1, h2⟩ := List.getElem?_eq_some_iff.1 h
  rw [List.drop_eq_getElem_cons h1, h2]
theorem refGo_step {l : List Cel} {k : Nat} {c : Cel} (h : l[k]? = some c) : refGo (prevL l k) (l.drop k) = (mayB c && !(c.2.1 == 2 && nextBad c (l.drop (k + 1))) && !(c.2.1 == 0 && !((prevL l k).2.1 == 2 && (prevL l k).2.2 == c.2.2)) && refGo (prevL l (k + 1)) (l.drop (k + 1))) := by
  rw [drop_get h, prevL_succ h]
  rfl

theorem neq_cell (r m a a0 : Int) (w : World) : (binOp .neq 45 (cellV r m a) (cellV 0 0 a0)).run Tryd.prog w = .ok (.bool (!(r == 0 && m == 0 && a == a0))) w := by
  have hw := w
  cases h1 : (r == 0) <;> cases h2 : (m == 0) <;> cases h3 : (a == a0) <;> go_simp
set_option maxRecDepth 100000 in
set_option maxHeartbeats 6400000 in
theorem refRow_walk (A : Option Addr) (n c : Nat) (wrap : Bool) (l : List Cel) (w : World) (hl : ∀ c ∈ l, -2147483648 ≤ c.1 ∧ c.1 ≤ 2147483647) (hq : Sq w w.heap.size 3 n A (flat l)) (hn : n ≤ 1000000) :
    Calls Tryd.prog 27 #[rowV A n c wrap] w fun e w' => e = .returned (.bool (mayL l)) ∧ Below w.heap.size w w' := by
  have hln : l.length = n := by have := hq.len; rw [flat_length] at this; omega
  have LN := Lib.hid hln
  have Q := Lib.hid hq
  have HL := Lib.hid hl
  have MR := Lib.hid (mayL_ref l)
  have B1 := Lib.hid ((Below.refl w.heap.size w).alloc (Nat.le_refl _) (.cells #[.slice A n c, .bool wrap] 31))
  clear hln hq hl
  go_enter Tryd.func27, Tryd.ntmps27
  go_wp2_with fail
  go_loopw [4] (fun i wr => ∃ k : Nat, i = .int .i64 k ∧ k ≤ n ∧ Below w.heap.size w wr ∧ Hid (refGo (prevL l k) (l.drop k) = refGo (32, 1, 0) l)) (fun i _ => n - (intOf i).toNat)
  case atStart => exact ⟨0, rfl, Nat.zero_le _, B1.out, Lib.hid rfl⟩
  case round =>
    obtain ⟨k, rfl, hk, hb, RG⟩ := hrel
    have HB := Lib.hid hb
    have hsz := hb.size
    by_cases hlt : k < n
    · obtain ⟨b, off, rfl, hbb, ⟨r, m, a⟩, hcc, q0, q1, q2⟩ := (Q.out.below hb).three hlt
      have hx := HL.out _ (List.mem_of_getElem? hcc)
      have ST := Lib.hid (refGo_step hcc)
      have HC := Lib.hid hcc
      obtain ⟨C, hC⟩ : ∃ C, mayB (r, m, a) = C := ⟨_, rfl⟩
      have MC := Lib.hid (fun w => refCell_walk r m a hx.1 hx.2 w)
      rw [hC] at MC ST
      have KC := Lib.hid (fun w2 (h : Below wr.heap.size wr w2) => (Q.out.below (HB.out.trans (h.mono hsz))).cells HC.out)
      have DR := Lib.hid ((Below.refl wr.heap.size wr).drew)
      clear hb hcc hC hbb hx q0 q1 q2
      go_wp2_with fail
      refine Ord.start (S := fun w' => Below wr.heap.size wr w') (n := 70) (by kernel_rfl) (by kernel_rfl) DR.out ?_
      have hk0 : (0 : Int) ≤ (k : Int) := by omega
      have hkn : (k : Int) < (n : Int) := by omega
      cases C
      · refine refRow_no (p0 := rowV (some ⟨b, off, none⟩) n c wrap) (p1 := .pointer (some ⟨w.heap.size, 0, none⟩)) (p5 := .pointer (some ⟨w.heap.size, 0, none⟩)) (p6 := .slice (some ⟨b, off, none⟩) n c) ⟨by kernel_rfl, by kernel_rfl⟩ (fun _ _ _ _ _ h => h) hk0 hkn (fun w h => (KC.out w h).1) (fun w h => (KC.out w h).2.1) (fun w h => (KC.out w h).2.2) (MC.out ·) _ _ ⟨rfl, rfl, rfl, rfl, rfl, rfl, rfl, rfl, rfl, rfl, rfl⟩ DR.out ?_
        intro a2 w2 F f82 hS
        have BB := Lib.hid (HB.out.trans (hS.mono hsz))
        have RF := Lib.hid (show mayL l = false by rw [MR.out, ← RG.out, ST.out]; simp)
        refine refRow_frame F.size F.defers F.s0 F.s1 F.s3 F.s4 F.s5 F.s6 f82 F.s83 F.s84 F.s85 ?_
        intros
        clear F f82 hS
        go_wp2
        go_ret
        exact ⟨ret_bool RF.out.symm, BB.out⟩
      · cases h2 : (m == 2)
        · cases h0 : (m == 0)
          · refine refRow_one (p0 := rowV (some ⟨b, off, none⟩) n c wrap) (p1 := .pointer (some ⟨w.heap.size, 0, none⟩)) (p5 := .pointer (some ⟨w.heap.size, 0, none⟩)) (p6 := .slice (some ⟨b, off, none⟩) n c) ⟨by kernel_rfl, by kernel_rfl⟩ (fun _ _ _ _ _ h => h) hk0 hkn (fun w h => (KC.out w h).1) (fun w h => (KC.out w h).2.1) (fun w h => (KC.out w h).2.2) (MC.out ·) h2 h0 _ _ ⟨rfl, rfl, rfl, rfl, rfl, rfl, rfl, rfl, rfl, rfl, rfl⟩ DR.out ?_
            intro a2 w2 F f82 hS
            have BB := Lib.hid (HB.out.trans (hS.mono hsz))
            have RN := Lib.hid (show refGo (prevL l (k + 1)) (l.drop (k + 1)) = refGo (32, 1, 0) l by rw [← RG.out, ST.out]; simp [h2, h0])
            refine refRow_frame F.size F.defers F.s0 F.s1 F.s3 F.s4 F.s5 F.s6 f82 F.s83 F.s84 F.s85 ?_
            intros
            clear F f82 hS
            go_wp2
            go_roundw
            case rel => exact ⟨k + 1, by go_num, by omega, BB.out, RN⟩
            case measure => simp [intOf]; omega
          · by_cases hkz : k = 0
            · refine refRow_first (p0 := rowV (some ⟨b, off, none⟩) n c wrap) (p1 := .pointer (some ⟨w.heap.size, 0, none⟩)) (p5 := .pointer (some ⟨w.heap.size, 0, none⟩)) (p6 := .slice (some ⟨b, off, none⟩) n c) ⟨by kernel_rfl, by kernel_rfl⟩ (fun _ _ _ _ _ h => h) hk0 hkn (fun w h => (KC.out w h).1) (fun w h => (KC.out w h).2.1) (fun w h => (KC.out w h).2.2) (MC.out ·) h2 h0 (by simp; omega) _ _ ⟨rfl, rfl, rfl, rfl, rfl, rfl, rfl, rfl, rfl, rfl, rfl⟩ DR.out ?_
              intro a2 w2 F f82 hS
              have BB := Lib.hid (HB.out.trans (hS.mono hsz))
              have RF := Lib.hid (show mayL l = false by rw [MR.out, ← RG.out, ST.out]; rw [hkz, prevL_zero]; simp [h2, h0])
              refine refRow_frame F.size F.defers F.s0 F.s1 F.s3 F.s4 F.s5 F.s6 f82 F.s83 F.s84 F.s85 ?_
              intros
              clear F f82 hS
              go_wp2
              go_ret
              exact ⟨ret_bool RF.out.symm, BB.out⟩
            · obtain ⟨b', off', e', _, ⟨pr, pm, pa⟩, hcp, _, _, _⟩ := (Q.out.below HB.out).three (show k - 1 < n by omega)
              have PL := Lib.hid (prevL_get (by omega) hcp)
              have PC := Lib.hid (fun w2 (h : Below wr.heap.size wr w2) => (Q.out.below (HB.out.trans (h.mono hsz))).cells hcp)
              have d0 : ((k : Int) == 0) = false := by simp; omega
              have hw : IntKind.i64.wrap ((k : Int) - 1) = (k : Int) - 1 := IntWalk.i64_in _ (by omega)
              clear hcp e'
              cases hp : (pm != 2)
              · have hp' : (pm == 2) = true := by simpa using hp
                cases ha : (pa != a)
                · have ha' : (pa == a) = true := by simpa using ha
                  refine refRow_half (p0 := rowV (some ⟨b, off, none⟩) n c wrap) (p1 := .pointer (some ⟨w.heap.size, 0, none⟩)) (p5 := .pointer (some ⟨w.heap.size, 0, none⟩)) (p6 := .slice (some ⟨b, off, none⟩) n c) ⟨by kernel_rfl, by kernel_rfl⟩ (fun _ _ _ _ _ h => h) hk0 hkn (fun w h => (KC.out w h).1) (fun w h => (KC.out w h).2.1) (fun w h => (KC.out w h).2.2) (MC.out ·) h2 h0 d0 (by omega) hw (by omega) (by omega) (by omega) (fun w h => (PC.out w h).2.1) (fun w h => (PC.out w h).2.2) hp ha _ _ ⟨rfl, rfl, rfl, rfl, rfl, rfl, rfl, rfl, rfl, rfl, rfl⟩ DR.out ?_
                  intro a2 w2 F f82 hS
                  have BB := Lib.hid (HB.out.trans (hS.mono hsz))
                  have RN := Lib.hid (show refGo (prevL l (k + 1)) (l.drop (k + 1)) = refGo (32, 1, 0) l by rw [← RG.out, ST.out]; rw [PL.out]; (try dsimp only); rw [h2, h0, hp', ha']; simp)
                  refine refRow_frame F.size F.defers F.s0 F.s1 F.s3 F.s4 F.s5 F.s6 f82 F.s83 F.s84 F.s85 ?_
                  intros
                  clear F f82 hS
                  go_wp2
                  go_roundw
                  case rel => exact ⟨k + 1, by go_num, by omega, BB.out, RN⟩
                  case measure => simp [intOf]; omega
                · have ha' : (pa == a) = false := by simpa using ha
                  refine refRow_half (p0 := rowV (some ⟨b, off, none⟩) n c wrap) (p1 := .pointer (some ⟨w.heap.size, 0, none⟩)) (p5 := .pointer (some ⟨w.heap.size, 0, none⟩)) (p6 := .slice (some ⟨b, off, none⟩) n c) ⟨by kernel_rfl, by kernel_rfl⟩ (fun _ _ _ _ _ h => h) hk0 hkn (fun w h => (KC.out w h).1) (fun w h => (KC.out w h).2.1) (fun w h => (KC.out w h).2.2) (MC.out ·) h2 h0 d0 (by omega) hw (by omega) (by omega) (by omega) (fun w h => (PC.out w h).2.1) (fun w h => (PC.out w h).2.2) hp ha _ _ ⟨rfl, rfl, rfl, rfl, rfl, rfl, rfl, rfl, rfl, rfl, rfl⟩ DR.out ?_
                  intro a2 w2 F f82 hS
                  have BB := Lib.hid (HB.out.trans (hS.mono hsz))
                  have RF := Lib.hid (show mayL l = false by rw [MR.out, ← RG.out, ST.out]; rw [PL.out]; (try dsimp only); rw [h2, h0, hp', ha']; simp)
                  refine refRow_frame F.size F.defers F.s0 F.s1 F.s3 F.s4 F.s5 F.s6 f82 F.s83 F.s84 F.s85 ?_
                  intros
                  clear F f82 hS
                  go_wp2
                  go_ret
                  exact ⟨ret_bool RF.out.symm, BB.out⟩
              · have hp' : (pm == 2) = false := by simpa using hp
                refine refRow_alone (p0 := rowV (some ⟨b, off, none⟩) n c wrap) (p1 := .pointer (some ⟨w.heap.size, 0, none⟩)) (p5 := .pointer (some ⟨w.heap.size, 0, none⟩)) (p6 := .slice (some ⟨b, off, none⟩) n c) ⟨by kernel_rfl, by kernel_rfl⟩ (fun _ _ _ _ _ h => h) hk0 hkn (fun w h => (KC.out w h).1) (fun w h => (KC.out w h).2.1) (fun w h => (KC.out w h).2.2) (MC.out ·) h2 h0 d0 (by omega) hw (by omega) (by omega) (by omega) (fun w h => (PC.out w h).2.1) (fun w h => (PC.out w h).2.2) hp _ _ ⟨rfl, rfl, rfl, rfl, rfl, rfl, rfl, rfl, rfl, rfl, rfl⟩ DR.out ?_
                intro a2 w2 F f82 hS
                have BB := Lib.hid (HB.out.trans (hS.mono hsz))
                have RF := Lib.hid (show mayL l = false by rw [MR.out, ← RG.out, ST.out]; rw [PL.out]; (try dsimp only); rw [h2, h0, hp']; simp)
                refine refRow_frame F.size F.defers F.s0 F.s1 F.s3 F.s4 F.s5 F.s6 f82 F.s83 F.s84 F.s85 ?_
                intros
                clear F f82 hS
                go_wp2
                go_ret
                exact ⟨ret_bool RF.out.symm, BB.out⟩
        · have hw : IntKind.i64.wrap ((k : Int) + 1) = (k : Int) + 1 := IntWalk.i64_in _ (by omega)
          have h0 : (m == 0) = false := by simp only [beq_iff_eq] at h2; rw [h2]; rfl
          by_cases hnx : k + 1 < n
          · obtain ⟨b', off', e', _, ⟨r', m', a'⟩, hcp, _, _, _⟩ := (Q.out.below HB.out).three hnx
            have ND := Lib.hid (show nextBad (r, m, a) (l.drop (k + 1)) = !(r' == 0 && m' == 0 && a' == a) by rw [drop_get hcp]; rfl)
            have PC := Lib.hid (fun w2 (h : Below wr.heap.size wr w2) => (Q.out.below (HB.out.trans (h.mono hsz))).cells hcp)
            have NE := Lib.hid (fun w => neq_cell r' m' a' a w)
            clear hcp e'
            obtain ⟨y, hy⟩ : ∃ y, (!(r' == 0 && m' == 0 && a' == a)) = y := ⟨_, rfl⟩
            rw [hy] at ND NE
            clear hy
            cases y
            · refine refRow_two (p0 := rowV (some ⟨b, off, none⟩) n c wrap) (p1 := .pointer (some ⟨w.heap.size, 0, none⟩)) (p5 := .pointer (some ⟨w.heap.size, 0, none⟩)) (p6 := .slice (some ⟨b, off, none⟩) n c) ⟨by kernel_rfl, by kernel_rfl⟩ (fun _ _ _ _ _ h => h) hk0 hkn (fun w h => (KC.out w h).1) (fun w h => (KC.out w h).2.1) (fun w h => (KC.out w h).2.2) (MC.out ·) hw h2 (by omega) (by omega) (by omega) (by omega) (fun w h => (PC.out w h).1) (fun w h => (PC.out w h).2.1) (fun w h => (PC.out w h).2.2) NE.out h0 _ _ ⟨rfl, rfl, rfl, rfl, rfl, rfl, rfl, rfl, rfl, rfl, rfl⟩ DR.out ?_
              intro a2 w2 F f82 hS
              have BB := Lib.hid (HB.out.trans (hS.mono hsz))
              have RN := Lib.hid (show refGo (prevL l (k + 1)) (l.drop (k + 1)) = refGo (32, 1, 0) l by rw [← RG.out, ST.out]; (try dsimp only); rw [ND.out, h0]; simp)
              refine refRow_frame F.size F.defers F.s0 F.s1 F.s3 F.s4 F.s5 F.s6 f82 F.s83 F.s84 F.s85 ?_
              intros
              clear F f82 hS
              go_wp2
              go_roundw
              case rel => exact ⟨k + 1, by go_num, by omega, BB.out, RN⟩
              case measure => simp [intOf]; omega
            · refine refRow_other (p0 := rowV (some ⟨b, off, none⟩) n c wrap) (p1 := .pointer (some ⟨w.heap.size, 0, none⟩)) (p5 := .pointer (some ⟨w.heap.size, 0, none⟩)) (p6 := .slice (some ⟨b, off, none⟩) n c) ⟨by kernel_rfl, by kernel_rfl⟩ (fun _ _ _ _ _ h => h) hk0 hkn (fun w h => (KC.out w h).1) (fun w h => (KC.out w h).2.1) (fun w h => (KC.out w h).2.2) (MC.out ·) hw h2 (by omega) (by omega) (by omega) (by omega) (fun w h => (PC.out w h).1) (fun w h => (PC.out w h).2.1) (fun w h => (PC.out w h).2.2) NE.out _ _ ⟨rfl, rfl, rfl, rfl, rfl, rfl, rfl, rfl, rfl, rfl, rfl⟩ DR.out ?_
              intro a2 w2 F f82 hS
              have BB := Lib.hid (HB.out.trans (hS.mono hsz))
              have RF := Lib.hid (show mayL l = false by rw [MR.out, ← RG.out, ST.out]; (try dsimp only); rw [ND.out, h2]; simp)
              refine refRow_frame F.size F.defers F.s0 F.s1 F.s3 F.s4 F.s5 F.s6 f82 F.s83 F.s84 F.s85 ?_
              intros
              clear F f82 hS
              go_wp2
              go_ret
              exact ⟨ret_bool RF.out.symm, BB.out⟩
          · have E := Lib.hid (show l.drop (k + 1) = [] from List.drop_eq_nil_of_le (by have := LN.out; omega))
            refine refRow_last (p0 := rowV (some ⟨b, off, none⟩) n c wrap) (p1 := .pointer (some ⟨w.heap.size, 0, none⟩)) (p5 := .pointer (some ⟨w.heap.size, 0, none⟩)) (p6 := .slice (some ⟨b, off, none⟩) n c) ⟨by kernel_rfl, by kernel_rfl⟩ (fun _ _ _ _ _ h => h) hk0 hkn (fun w h => (KC.out w h).1) (fun w h => (KC.out w h).2.1) (fun w h => (KC.out w h).2.2) (MC.out ·) hw h2 (by omega) _ _ ⟨rfl, rfl, rfl, rfl, rfl, rfl, rfl, rfl, rfl, rfl, rfl⟩ DR.out ?_
            intro a2 w2 F f82 hS
            have BB := Lib.hid (HB.out.trans (hS.mono hsz))
            have RF := Lib.hid (show mayL l = false by rw [MR.out, ← RG.out, ST.out]; rw [E.out]; (try dsimp only); rw [h2]; simp [nextBad])
            refine refRow_frame F.size F.defers F.s0 F.s1 F.s3 F.s4 F.s5 F.s6 f82 F.s83 F.s84 F.s85 ?_
            intros
            clear F f82 hS
            go_wp2
            go_ret
            exact ⟨ret_bool RF.out.symm, BB.out⟩
    · have hk' : k = n := by omega
      have E : l.drop k = [] := List.drop_eq_nil_of_le (by have := LN.out; omega)
      have RT := Lib.hid (show mayL l = decide (n ≤ 300) by rw [MR.out, ← RG.out, E, LN.out]; simp [refGo])
      clear hb E hk'
      go_wp2
      go_ret
      exact ⟨ret_bool (by rw [RT.out, Bool.eq_iff_iff]; simp only [decide_eq_true_eq]; omega), HB.out⟩
end Go.Proofs.YtalhlgiklochdaaDoor
