/-
  pack.Put: a row as bytes.
-/
import Derived.Test.YtalhlgiklochdaaDoorRuns
import Derived.Test.YtalhlgiklochdaaDoorBytes
import Derived.Test.YtalhlgiklochdaaDoorText
namespace Go.Proofs.YtalhlgiklochdaaDoor
open Go.ChangeShapes Go.WideShapes Go.ChangeAt Go.RowKit

theorem Sq.four {w : World} {B n : Nat} {A : Option Addr} {l : List (Nat × Cel)} (h : Sq w B 4 n A (flatR l)) {i : Nat} (hi : i < n) :
    ∃ b off, A = some ⟨b, off, none⟩ ∧ b < B ∧ ∃ x, l[i]? = some x ∧ w.cell? ⟨b, off + i * 4, none⟩ = some (.int .i64 x.1) ∧ w.cell? ⟨b, off + i * 4 + 1, none⟩ = some (.int .i32 x.2.1) ∧ w.cell? ⟨b, off + i * 4 + 2, none⟩ = some (.int .i64 x.2.2.1) ∧ w.cell? ⟨b, off + i * 4 + 3, none⟩ = some (.int .i64 x.2.2.2) := by
  obtain ⟨b, off, e, hb, hc⟩ := h.spot (by omega)
  have hl : i < l.length := by have := h.len; rw [flatR_length] at this; omega
  have key : ∀ (l : List (Nat × Cel)) (i : Nat) (hl : i < l.length), (flatR l)[i * 4]? = some (.int .i64 (l[i]'hl).1) ∧ (flatR l)[i * 4 + 1]? = some (.int .i32 (l[i]'hl).2.1) ∧ (flatR l)[i * 4 + 2]? = some (.int .i64 (l[i]'hl).2.2.1) ∧ (flatR l)[i * 4 + 3]? = some (.int .i64 (l[i]'hl).2.2.2) := by
    intro l
    induction l with
    | nil => intro i hl; simp at hl
    | cons c l ih =>
      intro i hl
      cases i with
      | zero => exact ⟨rfl, rfl, rfl, rfl⟩
      | succ i =>
        have := ih i (by simpa using hl)
        have e : (i + 1) * 4 = i * 4 + 1 + 1 + 1 + 1 := by omega
        rw [e]
        simpa [flatR] using this
  obtain ⟨k0, k1, k2, k3⟩ := key l i hl
  exact ⟨b, off, e, hb, l[i], List.getElem?_eq_getElem hl, hc _ _ k0, hc _ _ k1, hc _ _ k2, hc _ _ k3⟩
/-- A run's four cells in a block of their own. -/
def RunAt (w : World) (g : Nat) (x : Nat × Cel) : Prop := w.heap[g]? = some (.cells #[.int .i64 x.1, .int .i32 x.2.1, .int .i64 x.2.2.1, .int .i64 x.2.2.2] 77 (0, 0))
theorem RunAt.get {w : World} {g : Nat} {x : Nat × Cel} (h : RunAt w g x) (j : Nat) : w.cell? ⟨g, j, none⟩ = #[Value.int .i64 x.1, .int .i32 x.2.1, .int .i64 x.2.2.1, .int .i64 x.2.2.2][j]? := cell_of_row w g j _ _ (0, 0) h
theorem HasB.mono' {w : World} {base base' : Nat} {v : Value} {xs : List Int} (h : HasB w base v xs) (hb : base' ≤ base) : HasB w base' v xs := by
  refine ⟨h.1, ?_⟩
  rcases h.2 with e | ⟨g, cap, cur, rfl, e2, r⟩
  · exact .inl e
  · exact .inr ⟨g, cap, cur, rfl, Nat.le_trans hb e2, r⟩
theorem Grew.keeps {v v' : Value} {w w' : World} (h : Grew v v' w w') {g : Nat} (hg : g < w.heap.size) (hne : ∀ k, v.ownBlock = some k → k < g) : w'.heap[g]? = w.heap[g]? :=
  h.by'.block g hg (fun e => by have := hne g e.symm; omega)
theorem uintL_len32 {n : Nat} (h : n ≤ 1114111) : (uintL n).length ≤ 10 := uintL_len (by omega)
theorem runBytes_len {x : Nat × Cel} (h : x.1 ≤ 1000000) (hs : Small x.2) : (runBytes x).length ≤ 40 := by
  obtain ⟨⟨r0, r1⟩, ⟨w0, w1⟩, a0, a1⟩ := hs
  unfold runBytes
  simp only [List.length_append]
  have h1 := uintL_len (n := x.1) (by omega)
  have h2 := uintL_len (n := x.2.1.toNat) (by omega)
  have h3 := uintL_len (n := x.2.2.1.toNat) (by omega)
  have h4 := uintL_len (n := x.2.2.2.toNat) (by omega)
  omega
theorem flatRun_len : ∀ (rs : List (Nat × Cel)), (∀ x ∈ rs, x.1 ≤ 1000000 ∧ Small x.2) → (rs.flatMap runBytes).length ≤ 40 * rs.length
  | [], _ => by simp
  | x :: rs, h => by
    have h1 := runBytes_len (h x (by simp)).1 (h x (by simp)).2
    have h2 := flatRun_len rs (fun y hy => h y (by simp [hy]))
    simp only [List.flatMap_cons, List.length_append, List.length_cons]
    omega
theorem runs_small {l : List Cel} (hl : l.length ≤ 300) (hs : ∀ c ∈ l, Small c) : ∀ x ∈ runsOf l, x.1 ≤ 300 ∧ Small x.2 := by
  intro x hx
  have ha := runsOf_alt l
  have hu := unrun_runs l
  refine ⟨?_, hs _ (by rw [← hu]; exact mem_unrun ha hx)⟩
  have key : ∀ (rs : List (Nat × Cel)), x ∈ rs → x.1 ≤ (unrun rs).length := by
    intro rs
    induction rs with
    | nil => intro h; cases h
    | cons y rs ih =>
      intro h
      rw [unrun_cons, List.length_append, List.length_replicate]
      rcases List.mem_cons.1 h with rfl | h
      · omega
      · have := ih h; omega
  have := key _ hx
  rw [hu] at this
  omega
/-- The bytes of a row that may be; none of another one. -/
def putV (wrap : Bool) (l : List Cel) : List Int := if mayL l then putL wrap l else []
def PutPost (wrap : Bool) (l : List Cel) (w : World) (e : Ending) (w' : World) : Prop := ∃ v, e = .returned (.tuple #[v, .bool (mayL l)]) ∧ HasB w' w.heap.size v (putV wrap l) ∧ Below w.heap.size w w'
theorem putL_len {wrap : Bool} {l : List Cel} (hl : l.length ≤ 300) (hs : ∀ c ∈ l, Small c) : (putL wrap l).length ≤ 12010 := by
  have h1 := flatRun_len (runsOf l) (fun x hx => ⟨by have := (runs_small hl hs x hx).1; omega, (runs_small hl hs x hx).2⟩)
  have h2 := runs_length l
  have h3 : headOf wrap (runsOf l).length ≤ 601 := by unfold headOf; split <;> omega
  have h4 := uintL_len (n := headOf wrap (runsOf l).length) (by omega)
  unfold putL
  rw [List.length_append]
  omega

set_option maxRecDepth 100000 in
set_option maxHeartbeats 3200000 in
theorem put_walk (A : Option Addr) (n c : Nat) (wrap : Bool) (l : List Cel) (w : World) (hs : Spans w) (hl : ∀ c ∈ l, -2147483648 ≤ c.1 ∧ c.1 ≤ 2147483647) (hq : Sq w w.heap.size 3 n A (flat l)) (hc : n ≤ c) (hn : n ≤ 1000000) :
    Calls Tryd.prog 24 #[rowV A n c wrap] w fun e w' => PutPost wrap l w e w' := by
  have hln : l.length = n := by have := hq.len; rw [flat_length] at this; omega
  have LN := Lib.hid hln
  have w1b : Below w.heap.size w (w.alloc (.cells #[.slice A n c, .bool wrap] 31)) := (Below.refl _ _).alloc (Nat.le_refl _) _
  have MW := Lib.hid (packMay_walk A n c wrap l (w.alloc (.cells #[.slice A n c, .bool wrap] 31)) (hs.below w1b hs.size) hl ((hq.below w1b).up (by simp)) hn)
  have HL := Lib.hid hl
  have Q := Lib.hid hq
  have W1B := Lib.hid w1b
  obtain ⟨B, hB⟩ : ∃ B, mayL l = B := ⟨_, rfl⟩
  rw [hB] at MW
  have BH := Lib.hid hB
  clear hln hs hl hq w1b hB
  cases B
  · go_enter Tryd.func24, Tryd.ntmps24
    go_wp2_with fail
    refine MW.out.mono ?_
    rintro e w2 ⟨rfl, b2⟩
    have B2 := Lib.hid (W1B.out.trans (b2.mono (by simp)))
    clear b2
    go_wp2
    go_ret2
    exact ⟨.slice none 0 0, by rw [BH.out]; rfl, by unfold putV; rw [BH.out]; exact HasB.nothing _ _, B2.out⟩
  · have SM := Lib.hid (mayL_small (fun x hx => (HL.out x hx).2) BH.out)
    have RS := Lib.hid (runs_small SM.out.1 SM.out.2)
    have hn3 : n ≤ 300 := by have := SM.out.1; have := LN.out; omega
    go_enter Tryd.func24, Tryd.ntmps24
    go_wp2_with fail
    refine MW.out.mono ?_
    rintro e w2 ⟨rfl, b2⟩
    have c0 : w2.cell? ⟨w.heap.size, 0, none⟩ = some (.slice A n c) := (b2.cell (p := ⟨w.heap.size, 0, none⟩) (by simp)).trans (by simp)
    have c1 : w2.cell? ⟨w.heap.size, 1, none⟩ = some (.bool wrap) := (b2.cell (p := ⟨w.heap.size, 1, none⟩) (by simp)).trans (by simp)
    have hz2 : w.heap.size < w2.heap.size := by have := b2.size; simp at this; omega
    have B2 := Lib.hid (W1B.out.trans (b2.mono (by simp)))
    clear b2
    go_wp2_with fail
    refine (runs_walk A n c l w2 ((Q.out.below B2.out).up B2.out.size) hc hn).mono ?_
    rintro e w3 ⟨v3, rfl, h3, b3⟩
    have d1 : w3.cell? ⟨w.heap.size, 1, none⟩ = some (.bool wrap) := (b3.cell (p := ⟨w.heap.size, 1, none⟩) hz2).trans c1
    obtain ⟨p, hp⟩ : ∃ p, (runsOf l).length = p := ⟨_, rfl⟩
    have PL := Lib.hid hp
    have hp3 : p ≤ 300 := by have := runs_length l; have := SM.out.1; omega
    obtain ⟨A3, c3, e3⟩ := h3.shape
    rw [hp] at e3
    subst e3
    have R3 := Lib.hid h3
    have B3 := Lib.hid (B2.out.trans (b3.mono (by omega)))
    have hz3 := b3.size
    clear b3 h3 hp c0 c1
    have HE : Hid (headOf wrap p = 2 * p + if wrap then 1 else 0) := rfl
    obtain ⟨hd, hhd⟩ : ∃ hd, headOf wrap p = hd := ⟨_, rfl⟩
    have HH := Lib.hid hhd
    have hd6 : hd ≤ 601 := by have := HE.out; rw [HH.out] at this; split at this <;> omega
    clear hhd
    have AU := Lib.hid (appendUint_walk hd (by omega) [] (by simp) w3.heap.size (.slice none 0 0) w3 (HasB.nothing _ _) (Nat.le_refl _))
    have Q3 := Lib.hid (show Sq w3 w3.heap.size 4 p A3 (flatR (runsOf l)) by have h := R3.out; unfold HasRuns at h; rw [PL.out] at h; exact Sq.own h)
    have TL := Lib.hid (show uintL hd ++ (runsOf l).flatMap runBytes = putV wrap l by unfold putV putL; rw [BH.out, PL.out, HH.out]; rfl)
    have LB := Lib.hid (fun (k : Nat) (hk : k ≤ p) => (show (uintL hd ++ ((runsOf l).take k).flatMap runBytes).length ≤ 20000 by
      have h1 := flatRun_len ((runsOf l).take k) (fun x hx => ⟨by have := (RS.out x (List.mem_of_mem_take hx)).1; omega, (RS.out x (List.mem_of_mem_take hx)).2⟩)
      have h2 := List.length_take_le k (runsOf l)
      have h4 := uintL_len (n := hd) (by omega)
      rw [List.length_append]
      omega))
    cases wrap
    all_goals
      first
        | (have e2 : (2 : Int) * (p : Int) = (hd : Int) := by have := HE.out; rw [HH.out] at this; simp at this; omega)
        | (obtain ⟨h0, hh0⟩ : ∃ h0 : Nat, 2 * p = h0 := ⟨_, rfl⟩
           have e2 : (2 : Int) * (p : Int) = (h0 : Int) := by omega
           have e3 : (h0 : Int) + 1 = (hd : Int) := by have := HE.out; rw [HH.out] at this; simp at this; omega
           have hh6 : h0 ≤ 600 := by omega
           clear hh0)
      go_wp2_with fail
      refine AU.out.mono ?_
      rintro e w4 ⟨v4, rfl, h4, g4⟩
      have H4 := Lib.hid h4
      have B4 := Lib.hid (g4.below (Nat.le_refl _) (fun k e => by cases e))
      clear h4 g4 d1
      clear e2
      try clear e3
      go_wp2_with fail
      go_loopw [6, 27] (fun u i wr => ∃ k : Nat, i = .int .i64 k ∧ k ≤ p ∧ HasB wr w3.heap.size u (uintL hd ++ ((runsOf l).take k).flatMap runBytes) ∧ Below w3.heap.size w3 wr) (fun _ i _ => p - (intOf i).toNat)
      case atStart => exact ⟨0, rfl, Nat.zero_le _, by simpa using H4.out, B4.out⟩
      case round =>
        obtain ⟨k, rfl, hk, hv, hb⟩ := hrel
        have hsz := hb.size
        by_cases hlt : k < p
        · obtain ⟨b, off, rfl, hbb, ⟨cnt, r, m, a⟩, hcc, q0, q1, q2, q3⟩ := (Q3.out.below hb).four hlt
          have hx := RS.out _ (List.mem_of_getElem? hcc)
          obtain ⟨hx1, ⟨r0, r1⟩, ⟨m0, m1⟩, a0, a1⟩ := hx
          simp only at hx1 r0 r1 m0 m1 a0 a1 q0 q1 q2 q3
          obtain ⟨r, rfl⟩ := Int.eq_ofNat_of_zero_le r0
          obtain ⟨m, rfl⟩ := Int.eq_ofNat_of_zero_le m0
          obtain ⟨a, rfl⟩ := Int.eq_ofNat_of_zero_le a0
          have TN := Lib.hid (show ((runsOf l).take k).flatMap runBytes ++ (uintL cnt ++ (uintL r ++ (uintL m ++ uintL a))) = ((runsOf l).take (k + 1)).flatMap runBytes by
            rw [take_one hcc, List.flatMap_append]
            simp [runBytes])
          have L0 := LB.out k (by omega)
          have L1 := uintL_len (n := cnt) (by omega)
          have L2 := uintL_len (n := r) (by omega)
          have L3 := uintL_len (n := m) (by omega)
          obtain ⟨got, hgot⟩ : ∃ got, uintL hd ++ ((runsOf l).take k).flatMap runBytes = got := ⟨_, rfl⟩
          rw [hgot] at hv L0
          have GH := Lib.hid hgot
          have HV := Lib.hid hv
          have HB := Lib.hid hb
          have hun := hv.lt
          have R5 := Lib.hid (show RunAt (wr.alloc (.cells #[.int .i64 cnt, .int .i32 r, .int .i64 m, .int .i64 a] 77)) wr.heap.size (cnt, r, m, a) from heap_alloc_new wr _)
          have HUN := Lib.hid hun
          have b5 : Below w3.heap.size w3 (wr.alloc (.cells #[.int .i64 cnt, .int .i32 r, .int .i64 m, .int .i64 a] 77)) := hb.alloc hsz _
          have B5 := Lib.hid b5
          have U5 := Lib.hid (show HasB (wr.alloc (.cells #[.int .i64 cnt, .int .i32 r, .int .i64 m, .int .i64 a] 77)) w3.heap.size u6 got from World.ownsRow.alloc hv _)
          have hz5 : (wr.alloc (.cells #[.int .i64 cnt, .int .i32 r, .int .i64 m, .int .i64 a] 77)).heap.size = wr.heap.size + 1 := by simp
          have Z5 := Lib.hid hz5
          clear hcc hv hb hgot hun b5 hz5 hbb
          go_wp2_with fail
          refine (appendUint_walk cnt (by omega) got (by omega) w3.heap.size u6 _ U5.out (by rw [Z5.out]; omega)).mono ?_
          rintro e w6 ⟨v6, rfl, h6, g6⟩
          have H6 := Lib.hid h6
          have G6 := Lib.hid g6
          have R6 := Lib.hid (show RunAt w6 wr.heap.size (cnt, r, m, a) from (g6.keeps (by rw [Z5.out]; omega) HUN.out).trans R5.out)
          have k1 : w6.cell? ⟨wr.heap.size, 1, none⟩ = some (.int .i32 r) := R6.out.get 1
          have S6 := Lib.hid (Nat.le_trans (by rw [Z5.out]; omega) g6.by'.size : w3.heap.size ≤ w6.heap.size)
          clear h6 g6
          go_wp2_with fail
          refine (appendUint_walk r (by omega) _ (by rw [List.length_append]; omega) w3.heap.size v6 w6 H6.out S6.out).mono ?_
          rintro e w7 ⟨v7, rfl, h7, g7⟩
          have g57 := G6.out.trans g7
          have H7 := Lib.hid h7
          have G7 := Lib.hid g57
          have R7 := Lib.hid (show RunAt w7 wr.heap.size (cnt, r, m, a) from (g57.keeps (by rw [Z5.out]; omega) HUN.out).trans R5.out)
          have k2 : w7.cell? ⟨wr.heap.size, 2, none⟩ = some (.int .i64 m) := R7.out.get 2
          have S7 := Lib.hid (Nat.le_trans S6.out g7.by'.size)
          clear h7 g7 g57 k1
          go_wp2_with fail
          refine (appendUint_walk m (by omega) _ (by rw [List.length_append, List.length_append]; omega) w3.heap.size v7 w7 H7.out S7.out).mono ?_
          rintro e w8 ⟨v8, rfl, h8, g8⟩
          have g58 := G7.out.trans g8
          have H8 := Lib.hid h8
          have G8 := Lib.hid g58
          have R8 := Lib.hid (show RunAt w8 wr.heap.size (cnt, r, m, a) from (g58.keeps (by rw [Z5.out]; omega) HUN.out).trans R5.out)
          have k3 : w8.cell? ⟨wr.heap.size, 3, none⟩ = some (.int .i64 a) := R8.out.get 3
          have S8 := Lib.hid (Nat.le_trans S7.out g8.by'.size)
          clear h8 g8 g58 k2
          go_wp2_with fail
          refine (appendUint_walk a (by omega) _ (by rw [List.length_append, List.length_append, List.length_append]; omega) w3.heap.size v8 w8 H8.out S8.out).mono ?_
          rintro e w9 ⟨v9, rfl, h9, g9⟩
          have G9 := Lib.hid (G8.out.trans g9)
          have H9 := Lib.hid (show HasB w9 w3.heap.size v9 (uintL hd ++ ((runsOf l).take (k + 1)).flatMap runBytes) by
            rw [← TN.out, ← List.append_assoc, GH.out, ← List.append_assoc, ← List.append_assoc, ← List.append_assoc]
            exact h9)
          have B9 := Lib.hid (B5.out.trans (G9.out.below (B := w3.heap.size) (by rw [Z5.out]; omega) (fun j e => (World.ownsRow.lt U5.out j e).1)))
          clear h9 g9 k3
          go_wp2
          go_roundw
          case rel => exact ⟨k + 1, by go_num, by omega, H9.out, B9.out⟩
          case measure => simp [intOf]; omega
        · have E : (runsOf l).take k = runsOf l := take_all _ (by have := PL.out; omega)
          rw [E, TL.out] at hv
          obtain ⟨A6, c6, rfl⟩ := hv.shape
          have HV := Lib.hid hv
          have HB := Lib.hid (B3.out.trans (hb.mono (Nat.le_trans B2.out.size hz3)))
          clear hv hb E
          go_wp2
          go_ret2
          exact ⟨_, by rw [BH.out]; rfl, HV.out.mono' (by omega), HB.out⟩
end Go.Proofs.YtalhlgiklochdaaDoor
