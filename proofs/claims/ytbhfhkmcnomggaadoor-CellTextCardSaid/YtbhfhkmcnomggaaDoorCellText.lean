/-
  The statement CellText: signs as cells are as many cells as they are wide; their text is that of the signs that are not of width 0; the text without the blanks at the end is its beginning. For every list of signs (the statement looks at the first thirty), every attribute; it holds where the table of widths is as its initialiser lays it, which the card ties to the program's text.
-/
import Derived.Test.YtbhfhkmcnomggaaDoorFrame
import Derived.Test.YtbhfhkmcnomggaaDoorArgs
import Derived.Test.YtbhfhkmcnomggaaDoorApp
import Derived.Test.YtbhfhkmcnomggaaDoorRefWidth
import Derived.Test.YtbhfhkmcnomggaaDoorRefPut
import Derived.Test.YtbhfhkmcnomggaaDoorAnd255
namespace Go.Proofs.YtbhfhkmcnomggaaDoor.cellText
open Go.ChangeShapes Go.WideShapes Go.ChangeAt Go.RowKit

def cellsL (a : Int) (l : List Int) : List (Int × Int × Int) := l.flatMap fun r => ofL r a
def wantL (l : List Int) : List UInt8 := l.flatMap fun r => if 0 < wof r then Lib.encodeRune r else []
def wideL : List Int → Int
  | [] => 0
  | r :: l => wof r + wideL l
theorem wideL_append (l m : List Int) : wideL (l ++ m) = wideL l + wideL m := by
  induction l with
  | nil => simp [wideL]
  | cons r l ih => simp only [List.cons_append, wideL, ih]; omega
theorem wof_two (r : Int) : wof r = 0 ∨ wof r = 1 ∨ wof r = 2 := by have := wof_range r; omega
theorem mayA_yes {a : Int} (h0 : 0 ≤ a) (h1 : a ≤ 255) : mayA a = true := by unfold mayA; simp [h0, h1]
theorem wof_null : wof 0 = 0 := by decide
theorem of_text {a : Int} (h0 : 0 ≤ a) (h1 : a ≤ 255) (r : Int) : textL (ofL r a) = (if 0 < wof r then Lib.encodeRune r else []) ∧ ((ofL r a).length : Int) = wof r := by
  have hr : r = 0 → wof r = 0 := fun e => by rw [e]; exact wof_null
  unfold ofL
  rw [mayA_yes h0 h1]
  rcases wof_two r with h | h | h
  · simp [h, textL]
  · have hz : r ≠ 0 := fun e => by have := hr e; omega
    simp [h, textL, hasB, isB, hz]
  · have hz : r ≠ 0 := fun e => by have := hr e; omega
    simp [h, textL, hasB, isB, hz]
theorem cells_text {a : Int} (h0 : 0 ≤ a) (h1 : a ≤ 255) (l : List Int) : textL (cellsL a l) = wantL l ∧ ((cellsL a l).length : Int) = wideL l := by
  induction l with
  | nil => exact ⟨rfl, rfl⟩
  | cons r l ih =>
    have h := of_text h0 h1 r
    have e1 : cellsL a (r :: l) = ofL r a ++ cellsL a l := by simp [cellsL]
    have e2 : wantL (r :: l) = (if 0 < wof r then Lib.encodeRune r else []) ++ wantL l := by simp [wantL]
    rw [e1, e2, textL_append, h.1, ih.1, List.length_append]
    refine ⟨rfl, ?_⟩
    simp only [wideL]
    omega
theorem cells_next (a : Int) (l : List Int) (r : Int) : cellsL a (l ++ [r]) = cellsL a l ++ ofL r a := by simp [cellsL]
theorem want_next (l : List Int) (r : Int) : wantL (l ++ [r]) = wantL l ++ (if 0 < wof r then Lib.encodeRune r else []) := by simp [wantL]
theorem of_signs {a r : Int} (hr : -2147483648 ≤ r ∧ r ≤ 2147483647) : Signs (ofL r a) := by
  intro c hc
  unfold ofL at hc
  split at hc
  · split at hc
    · simp at hc; subst hc; exact hr
    · split at hc
      · simp at hc; rcases hc with rfl | rfl
        · exact hr
        · simp
      · simp at hc
  · simp at hc
theorem cells_signs {a : Int} {l : List Int} (hl : Runes l) : Signs (cellsL a l) := by
  intro c hc
  unfold cellsL at hc
  rw [List.mem_flatMap] at hc
  obtain ⟨r, h1, h2⟩ := hc
  exact of_signs (hl r h1) c h2
theorem wide_range (l : List Int) : 0 ≤ wideL l ∧ wideL l ≤ 2 * l.length := by
  induction l with
  | nil => simp [wideL]
  | cons r l ih => simp only [wideL, List.length_cons]; rcases wof_two r with h | h | h <;> omega
theorem want_len (l : List Int) : (wantL l).length ≤ 4 * l.length := by
  induction l with
  | nil => simp [wantL]
  | cons r l ih =>
    have e : wantL (r :: l) = (if 0 < wof r then Lib.encodeRune r else []) ++ wantL l := by simp [wantL]
    have := encodeRune_length r
    rw [e, List.length_append, List.length_cons]
    split
    · omega
    · simp; omega
theorem bytes_of {s : ByteArray} {l : List UInt8} (h : s.data.toList = l) : s = ⟨l.toArray⟩ := by
  subst h
  exact ByteArray.ext (Array.toList_inj.1 (by simp))
theorem bytes_size (l : List UInt8) : (⟨l.toArray⟩ : ByteArray).size = l.length := by show Array.size _ = _; simp
theorem bytes_head {l m : List UInt8} (h : ∃ t, l = m ++ t) : (⟨l.toArray⟩ : ByteArray).extract 0 m.length = ⟨m.toArray⟩ := by
  obtain ⟨t, rfl⟩ := h
  apply bytes_of
  rw [Lib.extract_data]
  simp
theorem text_head (l : List (Int × Int × Int)) : ∃ t, textL l = textL (trimL l) ++ t := by
  refine ⟨textL (l.drop (trimN l l.length)), ?_⟩
  unfold trimL
  rw [← textL_append, List.take_append_drop]
theorem trim_signs {l : List (Int × Int × Int)} (h : Signs l) : Signs (trimL l) := fun c hc => h c (List.mem_of_mem_take hc)
theorem trim_len (l : List (Int × Int × Int)) : (trimL l).length ≤ l.length := by unfold trimL; rw [List.length_take]; omega
theorem sq_cut {w : World} {B n m : Nat} {A : Option Addr} {l : List Int} (hq : Sq w B 1 n A (l.map (Value.int .i32))) (hm : m ≤ n) : Sq w B 1 m A ((l.take m).map (Value.int .i32)) := by
  have hl := hq.size_ints
  refine ⟨by simp; omega, fun h => ?_⟩
  obtain ⟨b, off, e, hb, hcell⟩ := hq.spot (by omega)
  refine ⟨b, off, e, hb, fun j u hu => hcell j u ?_⟩
  rw [List.map_take, List.getElem?_take] at hu
  split at hu
  · exact hu
  · cases hu
theorem fit {n m : Nat} (h : n + m ≤ 1000) : n + m ≤ maxLen ∧ (n + m) * 24 ≤ 140737488355328 := by unfold maxLen; omega
theorem hasC_below {w w' : World} {base : Nat} {v : Value} {l : List (Int × Int × Int)} (h : HasC w base v l) (hb : Below w.heap.size w w') : HasC w' base v l :=
  World.ownsRow.kept (row := none) h ⟨hb.os, hb.tape, hb.output, hb.size, fun k hk _ => hb.block k hk⟩ (by cases v.ownBlock <;> simp)
theorem hasC_shape {w : World} {base : Nat} {v : Value} {l : List (Int × Int × Int)} (h : HasC w base v l) : ∃ A c, v = .slice A l.length c ∧ l.length ≤ c := by
  rcases h.2 with ⟨rfl, h0⟩ | ⟨g, cap, cur, rfl, _, _, hc, _⟩
  · rw [h0]; exact ⟨_, _, rfl, Nat.le_refl _⟩
  · exact ⟨_, _, rfl, hc⟩

set_option maxHeartbeats 1600000 in
theorem walk (A : Option Addr) (n c : Nat) (l : List Int) (_ : n ≤ c) (_ : c ≤ maxLen) (hr : Runes l) (x : Int) (_ : -9223372036854775808 ≤ x ∧ x ≤ 9223372036854775807) (w : World) (hs : Spans w) (hq : Sq w w.heap.size 1 n A (l.map (Value.int .i32))) : Calls Tryd.prog 10 #[.slice A n c, .int .i64 x] w fun e w' => e = .returned (.bool true) ∧ Below w.heap.size w w' := by
  obtain ⟨i0, hi, hz0, hz1, hz2⟩ := info_parts infoCell
  obtain ⟨m, hm⟩ : ∃ m : Nat, min (n : Int) 30 = (m : Int) := ⟨min n 30, by omega⟩
  have hm1 : m ≤ n := by omega
  have hm2 : m ≤ 30 := by omega
  have q := sq_cut hq hm1
  have r1 : Runes (l.take m) := fun r h => hr r (List.mem_of_mem_take h)
  obtain ⟨y, hy⟩ : ∃ y, l.take m = y := ⟨_, rfl⟩
  rw [hy] at q r1
  have QA := Lib.hid q
  have RA := Lib.hid r1
  have LN := Lib.hid q.size_ints
  have S := Lib.hid hs
  clear hs hq hr q r1 hy
  go_enter Tryd.func10, Tryd.ntmps10
  go_wp2_with fail
  refine (begun_walk w S.out).mono ?_
  rintro e w1 ⟨rfl, b1⟩
  have R1 := Lib.hid b1
  have hs1 := b1.size
  have S1 := Lib.hid (S.out.below b1 S.out.size)
  clear b1 S
  go_wp2_with fail
  clear hm
  have ha := and255 x
  generalize bits .and .i64 x 255 = a at ha ⊢
  obtain ⟨ha0, ha1⟩ := ha
  go_loopw [6, 7, 8, 9] (fun v t z i wr => ∃ (k : Nat) (s : ByteArray), i = .int .i64 k ∧ k ≤ m ∧ t = .string s ∧ Hid (s.data.toList = wantL (y.take k)) ∧ z = .int .i64 (wideL (y.take k)) ∧ HasC wr w1.heap.size v (cellsL a (y.take k)) ∧ Below w1.heap.size w1 wr) (fun _ _ _ i _ => m - (intOf i).toNat)
  case atStart => exact ⟨0, ByteArray.empty, rfl, Nat.zero_le _, rfl, Lib.hid rfl, rfl, World.ownsRow_nil _ _ _ _, Below.refl _ _⟩
  case round =>
    obtain ⟨k, s, rfl, hk, rfl, WS, rfl, hv, hb⟩ := hrel
    by_cases hlt : k < m
    · obtain ⟨b, off, rfl, hbb, hcw⟩ := (QA.out.below R1.out).int_at hlt
      have hb1 : b < w1.heap.size := Nat.lt_of_lt_of_le hbb hs1
      have hrx := RA.out.get k
      have hkl : k < y.length := by have := LN.out; omega
      have hcr : wr.cell? ⟨b, off + k, none⟩ = some (.int .i32 (nth y k)) := (hb.cell (p := ⟨b, off + k, none⟩) hb1).trans hcw
      have CW := Lib.hid hcw
      have TN := Lib.hid (take_next hkl)
      have hsz := hb.size
      have SP := Lib.hid (S1.out.below hb S1.out.size)
      have HV := Lib.hid hv
      have HB := Lib.hid hb
      have CT := cells_text ha0 ha1 (y.take k)
      have hcl : (cellsL a (y.take k)).length ≤ 60 := by
        have h1 := (wide_range (y.take k)).2
        have h2 := CT.2
        rw [List.length_take] at h1
        omega
      have hwr := wide_range (y.take k)
      rw [List.length_take] at hwr
      have hss : s.size ≤ 120 := by
        have h1 := want_len (y.take k)
        rw [← WS.out, List.length_take] at h1
        have h2 : s.size = s.data.toList.length := by rw [Array.length_toList]; rfl
        omega
      have hw2 := wof_two (nth y k)
      have OT := Lib.hid (of_text ha0 ha1 (nth y k))
      have hol : (ofL (nth y k) a).length ≤ 2 := by have := OT.out.2; omega
      obtain ⟨A6, c6, rfl, hc6⟩ := hasC_shape hv
      clear hv hb hcw CT
      go_wp2_with fail
      refine (cellOf_walk (nth y k) a hrx.1 hrx.2 wr SP.out).mono ?_
      rintro e w2 ⟨v2, rfl, hv2, b2⟩
      obtain ⟨A2, c2, rfl, _⟩ := hasC_shape hv2
      have V2 := Lib.hid hv2
      have B2 := Lib.hid b2
      have hs2 := b2.size
      have VH := Lib.hid (hasC_below HV.out (Below.mono b2 (Nat.le_refl _)))
      clear hv2 b2
      obtain ⟨o, ho⟩ : ∃ o, ofL (nth y k) a = o := ⟨_, rfl⟩
      rw [ho] at V2 OT hol ⊢
      obtain ⟨p, hp⟩ : ∃ p, cellsL a (y.take k) = p := ⟨_, rfl⟩
      rw [hp] at VH HV hcl hc6 ⊢
      have OH := Lib.hid ho
      have PH := Lib.hid hp
      clear ho hp
      go_wp2_with (at_builtin; refine wpl_app rfl _ _ 47 rfl w1.heap.size 50 i0 (.agg #[.int .i32 0, .int .i64 0, .int .i64 0]) 3 24 Tryd.underlying47 hi hz0 hz1 hz2 rfl (by decide) (.slice A6 p.length c6) p.length (flat p) rfl VH.out A2 o.length c2 (flat o) rfl w2.heap.size (by exact Sq.own V2.out) (flat_one _) (fit (by omega)).1 (fit (by omega)).2 (Nat.le_trans hsz hs2) ?_; intro v3 w3 hown hg _; (have N3 := Lib.hid ((HB.out.trans (B2.out.mono hsz)).grown hg (Nat.le_trans hsz hs2) (fun j e => (World.ownsRow.lt VH.out j e).1))); (have hs3 := N3.out.size); (have O3 := Lib.hid (show HasC w3 w1.heap.size v3 (cellsL a (y.take (k + 1))) by rw [TN.out, cells_next, PH.out, OH.out]; unfold HasC; rw [List.length_append, flat_append]; exact hown)); (have c3 := (N3.out.cell (p := ⟨b, off + k, none⟩) hb1).trans CW.out); clear hown hg)
      refine (refWidth_walk (nth y k) hrx.1 hrx.2 w3).mono ?_
      rintro e w4 ⟨rfl, b4⟩
      have N4 := Lib.hid (N3.out.trans (b4.mono hs3))
      have hs4 := N4.out.size
      have O4 := Lib.hid (hasC_below O3.out b4)
      have c4 := (N4.out.cell (p := ⟨b, off + k, none⟩) hb1).trans CW.out
      clear b4 c3
      by_cases hwp : 0 < wof (nth y k)
      · go_wp2_with fail
        refine (refPut_any (nth y k) hrx.1 hrx.2 w4).mono ?_
        rintro e w5 ⟨rfl, b5⟩
        have N5 := Lib.hid (N4.out.trans (b5.mono hs4))
        have hs5 := N5.out.size
        have O5 := Lib.hid (hasC_below O4.out b5)
        have c5 := (N5.out.cell (p := ⟨b, off + k, none⟩) hb1).trans CW.out
        have hen := encodeRune_length (nth y k)
        have hes : (⟨(Lib.encodeRune (nth y k)).toArray⟩ : ByteArray).size ≤ 4 := by rw [bytes_size]; exact hen
        have EN := Lib.hid (show ∀ z : ByteArray, z = ⟨(Lib.encodeRune (nth y k)).toArray⟩ → (s ++ z).data.toList = wantL (y.take (k + 1)) from fun z hz => by rw [hz, ByteArray.data_append, Array.toList_append, WS.out, TN.out, want_next, if_pos hwp])
        obtain ⟨z, hze⟩ : ∃ z, (⟨(Lib.encodeRune (nth y k)).toArray⟩ : ByteArray) = z := ⟨_, rfl⟩
        have ZE := Lib.hid hze
        rw [hze] at hes ⊢
        clear b5 c4 hze
        go_wp2_with fail
        refine (refWidth_walk (nth y k) hrx.1 hrx.2 w5).mono ?_
        rintro e w6 ⟨rfl, b6⟩
        have N6 := Lib.hid (N5.out.trans (b6.mono hs5))
        have O6 := Lib.hid (hasC_below O5.out b6)
        clear b6 c5
        go_wp2
        go_roundw
        case rel => exact ⟨k + 1, s ++ z, by go_num, by omega, rfl, Lib.hid (EN.out z ZE.out.symm), by rw [TN.out, wideL_append]; simp only [wideL, Int.add_zero], O6.out, N6.out⟩
        case measure => simp [intOf]; omega
      · have hw0 : wof (nth y k) = 0 := by omega
        have W0 := Lib.hid hw0
        go_wp2
        go_roundw
        case rel => exact ⟨k + 1, s, by go_num, by omega, rfl, Lib.hid (by rw [WS.out, TN.out, want_next, if_neg (by have := W0.out; omega)]; simp), by rw [TN.out, wideL_append]; simp only [wideL, W0.out, Int.add_zero], O4.out, N4.out⟩
        case measure => simp [intOf]; omega
    · have e : y.take k = y := take_all _ (by have := LN.out; omega)
      rw [e] at hv WS ⊢
      clear e
      have CT := cells_text ha0 ha1 y
      have hwr := wide_range y
      have hLw : wideL y = ((cellsL a y).length : Int) := CT.2.symm
      have hll : (cellsL a y).length ≤ 60 := by have := LN.out; omega
      have hsg := cells_signs (a := a) RA.out
      have hse : s = ⟨(textL (cellsL a y)).toArray⟩ := bytes_of (by rw [WS.out, CT.1])
      have hth := bytes_head (text_head (cellsL a y))
      have htl := textL_length (cellsL a y)
      have htt := textL_length (trimL (cellsL a y))
      have htr := trim_len (cellsL a y)
      rw [hLw]
      obtain ⟨A6, c6, rfl, hc6⟩ := hasC_shape hv
      generalize cellsL a y = L at hv hll hsg hse hth htl htt htr hc6 ⊢
      have SGH := Lib.hid hsg
      have TSG := Lib.hid (trim_signs hsg)
      have HV := Lib.hid hv
      have HB := Lib.hid hb
      have hsz := hb.size
      have ht0 : (textL (trimL L)).length ≤ (textL L).length := by
        obtain ⟨u, hu⟩ := text_head L
        rw [hu, List.length_append]; omega
      obtain ⟨T, hT⟩ : ∃ T, (⟨(textL (trimL L)).toArray⟩ : ByteArray) = T := ⟨_, rfl⟩
      have hTs : T.size = (textL (trimL L)).length := by rw [← hT, bytes_size]
      have hss : s.size = (textL L).length := by rw [hse, bytes_size]
      rw [hT, ← hse, ← hTs] at hth
      have hTl : T.size ≤ s.size := by omega
      have hs2 : s.size ≤ 400 := by omega
      have TH := Lib.hid hth
      have TE := Lib.hid hT
      have SE := Lib.hid hse
      clear hv hb hsg hT hth hse CT hLw hwr hTs hss WS ht0 htt htl
      go_wp2_with fail
      refine (trim_walk A6 L.length c6 hc6 L wr (by omega) (Sq.own HV.out)).mono ?_
      rintro e w2 ⟨v2, rfl, hv2, b2⟩
      obtain ⟨A2, c2, rfl, _⟩ := hasC_shape hv2
      have V2 := Lib.hid hv2
      have B2 := Lib.hid b2
      have hz2 := b2.size
      clear hv2 b2
      go_wp2_with fail
      refine (cellText_walk A2 (trimL L).length c2 (trimL L) w2 (by omega) TSG.out (Sq.own V2.out)).mono ?_
      rintro e w3 ⟨rfl, b3⟩
      have B3 := Lib.hid (B2.out.trans (b3.mono hz2))
      have hz3 := B3.out.size
      have V3 := Lib.hid (hasC_below HV.out B3.out)
      clear b3
      rw [TE.out]
      go_wp2_with fail
      refine (cellText_walk A6 L.length c6 L w3 (by omega) SGH.out (Sq.own V3.out)).mono ?_
      rintro e w4 ⟨rfl, b4⟩
      have B4 := Lib.hid (HB.out.trans ((B3.out.trans (b4.mono hz3)).mono hsz))
      clear b4
      rw [← SE.out]
      have hth := TH.out
      have hTz : (0 : Int) ≤ (T.size : Int) := by omega
      go_wp2
      go_ret
      exact ⟨rfl, R1.out.trans (B4.out.mono hs1)⟩

/-- WHAT THE WALK GIVES, FOR EVERY ARGUMENT AND EVERY WORLD THAT HOLDS THE TABLE. -/
theorem contract (H : Type) (enc : TypeId × Value → H) (W : World) (base : Nat) (args : Array Value) (ds gs : List (DataW H)) (before : List MemPlace)
    (hval : ∀ (j : Nat) t v, Tryd.f10.params[j]? = some t → args[j]? = some v → Value.okWide Tryd.prog W .any base t v)
    (hW : DataW.Whole enc Tryd.prog Tryd.f10.params.toList Rows.cellTextSpec.vars false W args.toList ds gs before) (hL : laidMetH Tryd.prog Rows.cellTextRow.laid W) :
    Calls Tryd.prog 10 args W fun e W' => ∃ v, e = .returned v ∧ Rows.cellTextSpec.post enc Tryd.prog Tryd.f10 false true false false W args v W' := by
  have hW' := hW
  obtain ⟨p, q, hA0, hV, rfl, hfz, hnd⟩ := hW
  have hA : DataW.TrodAll enc Tryd.prog W 0 (fun _ => true) true Tryd.f10.params.toList args.toList ds p := hA0
  rw [Tryd.params10] at hA hval
  obtain ⟨v0, vs0, d0, ds0, p0, q0, hargs, rfl, rfl, h0, r0⟩ := trodAll_cons hA
  obtain ⟨v1, vs1, d1, ds1, p1, q1, rfl, rfl, rfl, h1, r1⟩ := trodAll_cons r0
  obtain ⟨rfl, rfl, rfl⟩ := trodAll_nil r1
  obtain rfl : args = #[v0, v1] := by cases args; simp_all
  obtain ⟨rfl, rfl⟩ := trodVars_none hV
  obtain ⟨Ax, nx, cx, x, rfl, hcx, hmx, hrx, hqx⟩ := open_runes (hval 0 24 v0 rfl rfl) h0
  obtain ⟨y, rfl, rfl, rfl, wy⟩ := open_int Tryd.underlying3 (hval 1 3 v1 rfl rfl) h1
  clear hA0
  refine (walk Ax nx cx x hcx hmx hrx y (wf_i64 wy) W (spans_of hL) hqx).mono fun e W' ⟨he, hg⟩ => ?_
  subst he
  exact ⟨_, rfl, close rfl hW' ⟨rfl, rfl, rfl⟩ (by kernel_rfl) (by kernel_rfl) hg⟩

theorem laid_met (os : Os) : laidMet Tryd.prog Rows.cellTextRow.laid ((laidWorld os).forCall (fun _ _ => 0) ⟨#[], #[.slice none 0 0, .int .i64 0], []⟩).memory :=
  laidMet_of_run' 8 (by kernel_rfl) (by kernel_rfl)
theorem reads (os : Os) {H : Type} (enc : TypeId × Value → H) : ∃ places, DataW.whole enc Tryd.prog ((laidWorld os).forCall (fun _ _ => 0) ⟨#[], #[.slice none 0 0, .int .i64 0], []⟩).memory Tryd.f10.params.toList Rows.cellTextSpec.vars false (#[.slice none 0 0, .int .i64 0] : Array Value).toList 8 = some ([.nil, .lit (.int .i64 0)], [], places) :=
  ⟨[], by kernel_rfl⟩

set_option maxRecDepth 100000 in
theorem lifted (os : Os) (started : os.Started) (H : Type) (enc : TypeId × Value → H) (F : Stop.Interp) :
    ReturnsInHanded {} Tryd.checked os 10 .any ((OpenSpec.ofChange Rows.cellTextSpec).preRow enc Tryd.prog Tryd.f10 Rows.cellTextRow.domain false Rows.cellTextRow.laid) (((OpenSpec.ofChange Rows.cellTextSpec).at F).post enc Tryd.prog Tryd.f10 false true false false) := by
  obtain ⟨places, hx⟩ := reads os enc
  refine returnsInHanded_of_row (C := Tryd.checked) (s := OpenSpec.ofChange Rows.cellTextSpec) ownNone started (by kernel_rfl) Tryd.func10
    (witness_row_at (enc := enc) (C := Tryd.checked) false (laidWorld os) #[.slice none 0 0, .int .i64 0] rfl (by kernel_rfl) (by kernel_rfl) (by kernel_rfl)
      (OpenSpec.preRow_of_cond 8 hx (by kernel_rfl) (fun k hk => by cases hk) (by kernel_rfl) (laid_met os))) ?_
  intro W base args ds gs before hval hW _ _ _ hL _ _
  exact contract H enc W base args ds gs before hval hW hL

theorem said : Rows.CellTextSaid :=
  OpenClaim.holds_of_cond 10 Tryd.f10 rfl rfl rfl rfl rfl rfl rfl ⟨rfl, rfl, rfl, rfl, rfl⟩ rfl rfl rfl rfl rfl (by kernel_rfl) Tryd.func10 (by kernel_rfl)
    (of_decide_eq_true (by kernel_rfl)) (by unfold Func.isWrapper; first | (rw [if_pos (by decide +kernel)]; kernel_rfl) | (rw [if_neg (by decide +kernel)]; exact ⟨rfl, rfl⟩))
    (fun os started H enc _ F => by rw [OpenClaim.pre_eq_preRow]; exact lifted os started H enc F)

/-- No parameter wants a stand-in; the program's own looks are off: what the card asks. -/
theorem plain (f : FuncId) (fn : Func) (hf : Tryd.pinned.checked.prog.funcNamed "rotulus/rotuluslaw1.CellText" = some f) (hfn : Tryd.pinned.checked.prog.funcs[f]? = some fn) :
    false = Tryd.pinned.checked.prog.looks [] ∧ ∀ (j : Nat) t, fn.params[j]? = some t → Tryd.pinned.checked.prog.wantsStandIn t = false := by
  obtain rfl : f = 10 := Option.some.inj ((show Tryd.prog.funcNamed "rotulus/rotuluslaw1.CellText" = some 10 by kernel_rfl).symm.trans hf) |>.symm
  obtain rfl : fn = Tryd.f10 := (Option.some.inj (Tryd.func10.symm.trans hfn)).symm
  refine ⟨by kernel_rfl, fun j t ht => ?_⟩
  rw [Tryd.params10] at ht
  have hm := Array.mem_of_getElem? ht
  simp at hm
  rcases hm with rfl | rfl
  · exact (show Tryd.prog.wantsStandIn 24 = false by kernel_rfl)
  · exact (show Tryd.prog.wantsStandIn 3 = false by kernel_rfl)

/-- THE CARD. -/
theorem card : Rows.CellTextCardSaid :=
  Claim7.holds_tied_plain_at .later [] _ _ _ _ said (fun _ h => by cases h) (by kernel_rfl) (fun _ h => by cases h) cellText_row_tie rfl ⟨rfl, rfl⟩ (by kernel_rfl) rfl plain (by kernel_rfl)
end Go.Proofs.YtbhfhkmcnomggaaDoor.cellText
