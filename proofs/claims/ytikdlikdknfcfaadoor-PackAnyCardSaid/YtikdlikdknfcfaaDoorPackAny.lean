/-
  The statement PackAny: any bytes begin with a row's, just with its, or with none's: the bytes that are handed in, a row's bytes of which one was turned, its first bytes, and its bytes with others behind. For every list of bytes (of which the statement looks at the first sixty), every row (of which it looks at the first 310 cells), every place and every byte; it holds where the table of widths is as its initialiser lays it, which the card ties to the program's text.
-/
import Derived.Test.YtikdlikdknfcfaaDoorBegun
import Derived.Test.YtikdlikdknfcfaaDoorBegun4
import Derived.Test.YtikdlikdknfcfaaDoorRowArgs
import Derived.Test.YtikdlikdknfcfaaDoorTells
import Derived.Test.YtikdlikdknfcfaaDoorAppIf
namespace Go.Proofs.YtikdlikdknfcfaaDoor.packAny
open Go.ChangeShapes Go.WideShapes Go.ChangeAt Go.RowKit

theorem putV_bytes {wrap : Bool} {l : List Cel} : ∀ x ∈ putV wrap l, 0 ≤ x ∧ x ≤ 255 := by
  intro x hx
  unfold putV at hx
  split at hx
  · unfold putL at hx
    rcases List.mem_append.1 hx with h | h
    · exact uintL_bytes _ _ h
    · obtain ⟨y, _, h⟩ := List.mem_flatMap.1 h
      unfold runBytes at h
      simp only [List.mem_append] at h
      rcases h with h | h | h | h <;> exact uintL_bytes _ _ h
  · cases hx
theorem xor_byte (a b : Int) : 0 ≤ bits .xor .u8 a b ∧ bits .xor .u8 a b ≤ 255 := by
  have e : bits .xor .u8 a b = IntKind.u8.wrap ((BitVec.ofInt 8 a ^^^ BitVec.ofInt 8 b).toNat : Int) := rfl
  rw [e]
  have h := (BitVec.ofInt 8 a ^^^ BitVec.ofInt 8 b).isLt
  have := IntKind.wrap_u8 ((BitVec.ofInt 8 a ^^^ BitVec.ofInt 8 b).toNat : Int)
  rw [this]
  omega

theorem own_len_le {w : World} {B : Nat} {e : TypeId} {s n c : Nat} {A : Option Addr} {xs : List Value} (h : w.ownsRow B e s (.slice A n c) n xs) : n ≤ c := by
  rcases Nat.eq_zero_or_pos n with h0 | h0
  · omega
  · obtain ⟨g, c', ev, h1, _⟩ := own_at h h0
    injection ev with e1 e2 e3
    omega
/-- A byte of a row of its own is written anew. -/
theorem own_byte_set {w : World} {base n c q : Nat} {A : Option Addr} {l : List Int} (h : w.ownsRow base 5 1 (.slice A n c) n (l.map (Value.int .u8))) (hq : q < n) :
    ∃ g, A = some ⟨g, 0, none⟩ ∧ base ≤ g ∧ g < w.heap.size ∧ w.cell? ⟨g, q, none⟩ = some (.int .u8 (nth l q)) ∧ w.frozen? ⟨g, q, none⟩ = false ∧ ∀ x, (w.setCell ⟨g, q, none⟩ (.int .u8 x)).ownsRow base 5 1 (.slice A n c) n ((l.set q x).map (Value.int .u8)) := by
  have hl : l.length = n := by have := h.1; simpa using this
  obtain ⟨g, c', ev, _, hB, _, _⟩ := own_at h (by omega)
  have hlt := World.ownsRow.lt h g (by rw [ev]; rfl)
  injection ev with e1 e2 e3
  subst e1 e3
  refine ⟨g, rfl, hB, hlt.2, ?_, h.frozenAt q, fun x => ?_⟩
  · rw [h.cellAt q (by omega), List.getElem?_map, List.getElem?_eq_getElem (by omega), nth_get (by omega)]
    rfl
  · have := (h.stored q (.int .u8 x)).1
    rw [← List.map_set] at this
    exact this

set_option maxRecDepth 100000 in
set_option maxHeartbeats 6400000 in
theorem walk (A : Option Addr) (n c : Nat) (l : List Int) (hc : n ≤ c) (_ : c ≤ maxLen) (hl : ∀ x ∈ l, 0 ≤ x ∧ x ≤ 255) (r : RowIn) (y : Int) (hy : -9223372036854775808 ≤ y ∧ y ≤ 9223372036854775807) (z : Int) (_ : 0 ≤ z ∧ z ≤ 255) (w : World) (hs : Spans w) (hq : Sq w w.heap.size 1 n A (l.map (Value.int .u8))) (hr : r.Ok w w.heap.size) :
    Calls Tryd.prog 5 #[.slice A n c, rowV r.A r.n r.c r.wrap, .int .i64 y, .int .u8 z] w fun e w' => e = .returned (.bool true) ∧ Below w.heap.size w w' := by
  obtain ⟨i0, hi, hz0, hz1, hz2⟩ := info_parts infoByte
  obtain ⟨rA, rn, rc, wrap, rl⟩ := r
  simp only
  obtain ⟨rle, rcap, rsigns, rsq⟩ := hr
  simp only at rle rcap rsigns rsq
  have S := Lib.hid hs
  have RS := Lib.hid rsigns
  have RQ := Lib.hid rsq
  obtain ⟨m, hm⟩ : ∃ m, min n 60 = m := ⟨_, rfl⟩
  have hmin : min (n : Int) 60 = (m : Int) := by omega
  have hmn : m ≤ n := by omega
  have hm60 : m ≤ 60 := by omega
  have hmc : m ≤ c := by omega
  have QH := Lib.hid (sq_bytes_take hq hmn)
  have LH := Lib.hid (show ∀ x ∈ l.take m, 0 ≤ x ∧ x ≤ 255 from fun x hx => hl x (List.mem_of_mem_take hx))
  obtain ⟨lm, hlm⟩ : ∃ lm, l.take m = lm := ⟨_, rfl⟩
  rw [hlm] at QH LH
  clear hs hq hl hm rsigns rsq hlm
  go_enter Tryd.func5, Tryd.ntmps5
  have B0 := Lib.hid ((Below.refl w.heap.size w).alloc (Nat.le_refl _) (.cells #[.slice rA rn rc, .bool wrap] 31))
  have R0 := Lib.hid (show RowAt (w.alloc (.cells #[.slice rA rn rc, .bool wrap] 31)) w.heap.size (.slice rA rn rc) wrap from heap_alloc_new w _)
  go_wp2_with fail
  generalize w.alloc (.cells #[.slice rA rn rc, .bool wrap] 31) = w0 at B0 R0 ⊢
  refine (begun4_walk w0 (S.out.below B0.out S.out.size)).mono ?_
  rintro e w1 ⟨rfl, b1⟩
  have B1 := Lib.hid (B0.out.trans (b1.mono B0.out.size))
  have R1 := Lib.hid (show RowAt w1 w.heap.size (.slice rA rn rc) wrap from (b1.block _ R0.out.lt).trans R0.out)
  clear b1 B0 R0
  go_wp2_with fail
  refine (tells_walk A m c lm w1 (S.out.below B1.out S.out.size) ((QH.out.below B1.out).up B1.out.size) hmc (by omega) LH.out).mono ?_
  rintro e w2 ⟨rfl, b2⟩
  have B2 := Lib.hid (B1.out.trans (b2.mono B1.out.size))
  have R2 := Lib.hid (show RowAt w2 w.heap.size (.slice rA rn rc) wrap from (b2.block _ R1.out.lt).trans R1.out)
  clear b2 B1 R1
  have r0 := R2.out.get 0
  have r1 := R2.out.get 1
  go_wp2_with fail
  refine (lawRow_walk rA rn rc wrap rl w2 ((RQ.out.below B2.out).up B2.out.size) rle rcap).mono ?_
  rintro e w3 ⟨v, rfl, hv, b3⟩
  obtain ⟨L, hL⟩ : ∃ L, cut310 rl = L := ⟨_, rfl⟩
  have SL : Hid (∀ c ∈ L, -2147483648 ≤ c.1 ∧ c.1 ≤ 2147483647) := Lib.hid (fun c h => RS.out c (List.mem_of_mem_take (by rw [← hL] at h; exact h)))
  have L310 : L.length ≤ 310 := by rw [← hL]; exact cut310_len rl
  have HLL := Lib.hid hL
  rw [hL] at hv
  clear hL
  obtain ⟨A', c', rfl, hc'⟩ := HasC.shape hv
  obtain ⟨k, hk⟩ : ∃ k, L.length = k := ⟨_, rfl⟩
  rw [hk] at hc' hv L310 ⊢
  have LK := Lib.hid hk
  have VQ := Lib.hid (HasC.sq hv)
  have B3 := Lib.hid (B2.out.trans (b3.mono B2.out.size))
  have R3 := Lib.hid (show RowAt w3 w.heap.size (.slice rA rn rc) wrap from (b3.block _ R2.out.lt).trans R2.out)
  clear r0 r1 hv hk b3 B2 R2
  go_wp2_with fail
  refine (put_walk A' k c' wrap L w3 (S.out.below B3.out S.out.size) SL.out VQ.out hc' (by omega)).mono ?_
  rintro e w4 ⟨v6, rfl, h6, b4⟩
  obtain ⟨A6, c6, rfl⟩ := HasB.shape h6
  obtain ⟨p, hp⟩ : ∃ p, putV wrap L = p := ⟨_, rfl⟩
  have HP := Lib.hid hp
  rw [hp] at h6 ⊢
  have PB := Lib.hid (show ∀ x ∈ p, 0 ≤ x ∧ x ≤ 255 by rw [← hp]; exact putV_bytes)
  obtain ⟨pl, hpl⟩ : ∃ pl, p.length = pl := ⟨_, rfl⟩
  have HPL := Lib.hid hpl
  have PQ := Lib.hid (HasB.sq h6)
  rw [hpl] at h6 PQ ⊢
  have hbb : ∃ bb, mayL L = bb := ⟨_, rfl⟩
  obtain ⟨bb, hbb⟩ := hbb
  have HBB := Lib.hid hbb
  rw [hbb]
  have B4 := Lib.hid (B3.out.trans (b4.mono B3.out.size))
  have R4 := Lib.hid (show RowAt w4 w.heap.size (.slice rA rn rc) wrap from (b4.block _ R3.out.lt).trans R3.out)
  have r0 := R4.out.get 0
  have r1 := R4.out.get 1
  have hc6 : pl ≤ c6 := own_len_le (show w4.ownsRow w3.heap.size 5 1 (.slice A6 pl c6) pl (p.map (Value.int .u8)) by rw [← hpl] at h6 ⊢; exact h6)
  clear h6 b4 B3 R3 VQ hp hpl hbb
  rcases bb with _ | _
  · go_wp2_with fail
    refine (lawRow_walk rA rn rc wrap rl w4 ((RQ.out.below B4.out).up B4.out.size) rle rcap).mono ?_
    rintro e w5 ⟨v5, rfl, hv, b5⟩
    rw [HLL.out] at hv
    obtain ⟨A5, c5, rfl, hc5⟩ := HasC.shape hv
    rw [LK.out] at hc5 hv ⊢
    have VQ := Lib.hid (HasC.sq hv)
    have B5 := Lib.hid (B4.out.trans (b5.mono B4.out.size))
    clear r0 r1 hv b5
    go_wp2_with fail
    refine (refRow_walk A5 k c5 wrap L w5 SL.out VQ.out (by omega)).mono ?_
    rintro e w6 ⟨rfl, b6⟩
    rw [HBB.out]
    have B6 := Lib.hid (B5.out.trans (b6.mono B5.out.size))
    clear b6
    go_wp2
    go_ret
    exact ⟨by simp, B6.out⟩
  · by_cases hy0 : y < 0
    · have hyb : decide (y < 0) = true := by simp [hy0]
      go_wp2_with fail
      refine (lawRow_walk rA rn rc wrap rl w4 ((RQ.out.below B4.out).up B4.out.size) rle rcap).mono ?_
      rintro e w5 ⟨v5, rfl, hv, b5⟩
      rw [HLL.out] at hv
      obtain ⟨A5, c5, rfl, hc5⟩ := HasC.shape hv
      rw [LK.out] at hc5 hv ⊢
      have VQ := Lib.hid (HasC.sq hv)
      have B5 := Lib.hid (B4.out.trans (b5.mono B4.out.size))
      clear r0 r1 hv b5
      go_wp2_with fail
      refine (refRow_walk A5 k c5 wrap L w5 SL.out VQ.out (by omega)).mono ?_
      rintro e w6 ⟨rfl, b6⟩
      rw [HBB.out]
      have B6 := Lib.hid (B5.out.trans (b6.mono B5.out.size))
      clear b6
      go_wp2
      go_ret
      exact ⟨by simp, B6.out⟩
    · obtain ⟨yn, rfl⟩ := Int.eq_ofNat_of_zero_le (show 0 ≤ y by omega)
      have hyb : decide ((yn : Int) < 0) = false := by simp
      clear hy0
      by_cases hp2 : 200 < pl
      · have hpb : decide ((200 : Int) < (pl : Int)) = true := by simp; omega
        go_wp2_with fail
        refine (lawRow_walk rA rn rc wrap rl w4 ((RQ.out.below B4.out).up B4.out.size) rle rcap).mono ?_
        rintro e w5 ⟨v5, rfl, hv, b5⟩
        rw [HLL.out] at hv
        obtain ⟨A5, c5, rfl, hc5⟩ := HasC.shape hv
        rw [LK.out] at hc5 hv ⊢
        have VQ := Lib.hid (HasC.sq hv)
        have B5 := Lib.hid (B4.out.trans (b5.mono B4.out.size))
        clear r0 r1 hv b5
        go_wp2_with fail
        refine (refRow_walk A5 k c5 wrap L w5 SL.out VQ.out (by omega)).mono ?_
        rintro e w6 ⟨rfl, b6⟩
        rw [HBB.out]
        have B6 := Lib.hid (B5.out.trans (b6.mono B5.out.size))
        clear b6
        go_wp2
        go_ret
        exact ⟨by simp, B6.out⟩
      · have hpb : decide ((200 : Int) < (pl : Int)) = false := by simp; omega
        have hp0 : 0 < pl := by
          have h := HPL.out
          rw [← HP.out] at h
          unfold putV at h
          rw [if_pos HBB.out] at h
          have := putL_pos wrap L
          omega
        obtain ⟨q, hq⟩ : ∃ q, yn % pl = q := ⟨_, rfl⟩
        have hqk : q < pl := by rw [← hq]; exact Nat.mod_lt _ hp0
        have hq1 : (yn : Int) % (pl : Int) = (q : Int) := by rw [← hq]; rfl
        have hq2 : (yn : Int).tmod (pl : Int) = (q : Int) := by rw [Int.tmod_eq_emod_of_nonneg (by omega), hq1]
        have hqc : q ≤ c6 := by omega
        have O0 := Lib.hid (byte_all p)
        have O1 := Lib.hid (byte_all lm)
        clear hq
        go_wp2_with (
          at_builtin
          refine wpl_app rfl (.const (.slice none 0 0)) (.tmp 46) 23 rfl w4.heap.size 5 i0 (.int .u8 0) 1 1 Tryd.underlying23 hi hz0 hz1 hz2 rfl (by decide) (.slice none 0 0) 0 [] rfl (World.ownsRow_nil _ _ _ _) A6 pl c6 (p.map (Value.int .u8)) rfl w4.heap.size PQ.out O0.out (by unfold maxLen; omega) (by omega) (Nat.le_refl _) ?_
          intro v5 w5 h5 g5 o5
          simp only [Nat.zero_add, List.nil_append] at h5
          obtain ⟨A5, c5, rfl⟩ := own_shape h5
          have hc5 := own_len_le h5
          obtain ⟨g, rfl, hg0, hg1, hgc, hgf, hset⟩ := own_byte_set h5 hqk
          have B5 := Lib.hid ((Below.refl w4.heap.size w4).grown g5 (Nat.le_refl _) (fun k e => by cases e))
          have SET := Lib.hid hset
          clear h5 g5 o5 hset)
        obtain ⟨x, hx⟩ : ∃ x, bits .xor .u8 (nth p q) z = x := ⟨_, rfl⟩
        have x255 : 0 ≤ x ∧ x ≤ 255 := by rw [← hx]; exact xor_byte _ _
        rw [hx]
        have OW := Lib.hid (SET.out x)
        have B6 := Lib.hid (B5.out.setCell (p := ⟨g, q, none⟩) hg0 (.int .u8 x))
        have PB2 := Lib.hid (show ∀ y ∈ p.set q x, 0 ≤ y ∧ y ≤ 255 from fun y hy => (List.mem_or_eq_of_mem_set hy).elim (PB.out y) (fun e => e ▸ x255))
        clear hgc hgf SET hx
        generalize w5.setCell ⟨g, q, none⟩ (.int .u8 x) = w6 at OW B6 ⊢
        have hw4 := B4.out.size
        refine (tells_walk (some ⟨g, 0, none⟩) pl c5 (p.set q x) w6 (S.out.below (B4.out.trans (B6.out.mono hw4)) S.out.size) (Sq.own OW.out) hc5 (by omega) PB2.out).mono ?_
        rintro e w7 ⟨rfl, b7⟩
        have B7 := Lib.hid (B6.out.trans (b7.mono B6.out.size))
        clear b7 OW B6 PB2
        go_wp2_with fail
        refine (tells_walk A6 q c6 (p.take q) w7 (S.out.below (B4.out.trans (B7.out.mono hw4)) S.out.size) (((sq_bytes_take PQ.out (by omega)).below B7.out).up B7.out.size) hqc (by omega) (fun y hy => PB.out y (List.mem_of_mem_take hy))).mono ?_
        rintro e w8 ⟨rfl, b8⟩
        have B8 := Lib.hid (B7.out.trans (b8.mono B7.out.size))
        have PQ8 := Lib.hid (PQ.out.below B8.out)
        have QB8 := Lib.hid (QH.out.below (B4.out.trans (B8.out.mono hw4)))
        have hw8 := B8.out.size
        clear b8 B7 B5
        go_wp2_with (first
          | (at_builtin; refine wpl_app_if rfl (.const (.slice none 0 0)) (.tmp 70) 23 rfl w8.heap.size 5 i0 (.int .u8 0) 1 1 Tryd.underlying23 hi hz0 hz1 hz2 rfl (by decide) (.slice none 0 0) 0 [] rfl (World.ownsRow_nil _ _ _ _) A6 pl c6 (p.map (Value.int .u8)) rfl w4.heap.size PQ8.out O0.out (by unfold maxLen; omega) (by omega) (Nat.le_refl _) ?_; intro A9 c9 w9 h9 g9; simp only [Nat.zero_add, List.nil_append] at h9 ⊢; (have H9 := Lib.hid h9); (have B9 := Lib.hid ((Below.refl w8.heap.size w8).grown g9 (Nat.le_refl _) (fun k e => by cases e))); (have QB9 := Lib.hid (QB8.out.below (B9.out.mono (Nat.le_trans hw4 hw8)))); clear h9 g9)
          | (at_builtin; refine wpl_app_if rfl (.tmp 71) (.tmp 72) 23 rfl w8.heap.size 5 i0 (.int .u8 0) 1 1 Tryd.underlying23 hi hz0 hz1 hz2 rfl (by decide) (.slice A9 pl c9) pl (p.map (Value.int .u8)) rfl H9.out A m c (lm.map (Value.int .u8)) rfl w.heap.size QB9.out O1.out (by unfold maxLen; omega) (by omega) B9.out.size ?_; intro A10 c10 w10 h10 g10; (have hc10 := own_len_le h10); (have H10 := Lib.hid h10); (have B10 := Lib.hid (B9.out.grown g10 B9.out.size (fun k e => (World.ownsRow.lt H9.out k e).1))); clear h10 g10))
        have BX := Lib.hid (B4.out.trans ((B8.out.trans (B10.out.mono hw8)).mono hw4))
        refine (tells_walk A10 (pl + m) c10 (p ++ lm) w10 (S.out.below BX.out S.out.size) (by rw [List.map_append]; exact Sq.own H10.out) hc10 (by omega) (fun y hy => (List.mem_append.1 hy).elim (PB.out y) (LH.out y))).mono ?_
        rintro e w11 ⟨rfl, b11⟩
        have BY := Lib.hid (BX.out.trans (b11.mono BX.out.size))
        clear b11 BX H10 H9 B9 B10
        go_wp2
        go_ret
        exact ⟨rfl, BY.out⟩

-- WHAT THE WALK GIVES, FOR EVERY ARGUMENT AND EVERY WORLD THAT HOLDS THE TABLE.
set_option maxRecDepth 100000 in
theorem contract (H : Type) (enc : TypeId × Value → H) (W : World) (base : Nat) (args : Array Value) (ds gs : List (DataW H)) (before : List MemPlace)
    (hval : ∀ (j : Nat) t v, Tryd.f5.params[j]? = some t → args[j]? = some v → Value.okWide Tryd.prog W .any base t v)
    (hW : DataW.Whole enc Tryd.prog Tryd.f5.params.toList Rows.packAnySpec.vars false W args.toList ds gs before) (hL : laidMetH Tryd.prog Rows.packAnyRow.laid W) :
    Calls Tryd.prog 5 args W fun e W' => ∃ v, e = .returned v ∧ Rows.packAnySpec.post enc Tryd.prog Tryd.f5 false true false false W args v W' := by
  have hW' := hW
  obtain ⟨p, q, hA0, hV, rfl, hfz, hnd⟩ := hW
  have hA : DataW.TrodAll enc Tryd.prog W 0 (fun _ => true) true Tryd.f5.params.toList args.toList ds p := hA0
  rw [Tryd.params5] at hA hval
  obtain ⟨v0, vs0, d0, ds0, p0, q0, hargs, rfl, rfl, h0, r0⟩ := trodAll_cons hA
  obtain ⟨v1, vs1, d1, ds1, p1, q1, rfl, rfl, rfl, h1, r1⟩ := trodAll_cons r0
  obtain ⟨v2, vs2, d2, ds2, p2, q2, rfl, rfl, rfl, h2, r2⟩ := trodAll_cons r1
  obtain ⟨v3, vs3, d3, ds3, p3, q3, rfl, rfl, rfl, h3, r3⟩ := trodAll_cons r2
  obtain ⟨rfl, rfl, rfl⟩ := trodAll_nil r3
  obtain rfl : args = #[v0, v1, v2, v3] := by cases args; simp_all
  obtain ⟨rfl, rfl⟩ := trodVars_none hV
  obtain ⟨Ax, nx, cx, x, rfl, hcx, hmx, hrx, hqx⟩ := open_bytes (hval 0 23 v0 rfl rfl) h0
  obtain ⟨y, rfl, hy⟩ := open_row (hval 1 31 v1 rfl rfl) h1
  obtain ⟨z, rfl, rfl, rfl, wz⟩ := open_int Tryd.underlying3 (hval 2 3 v2 rfl rfl) h2
  obtain ⟨u, rfl, rfl, rfl, wu⟩ := open_int Tryd.underlying5 (hval 3 5 v3 rfl rfl) h3
  clear hA0
  refine (walk Ax nx cx x hcx hmx hrx y z (wf_i64 wz) u (wf_u8 wu) W (spans_of hL) hqx hy).mono fun e W' ⟨he, hg⟩ => ?_
  subst he
  exact ⟨_, rfl, close rfl hW' ⟨rfl, rfl, rfl⟩ (by kernel_rfl) (by kernel_rfl) hg⟩

set_option maxRecDepth 100000 in
theorem laid_met (os : Os) : laidMet Tryd.prog Rows.packAnyRow.laid ((laidWorld os).forCall (fun _ _ => 0) ⟨#[], #[.slice none 0 0, .agg #[.slice none 0 0, .bool false], .int .i64 0, .int .u8 0], []⟩).memory :=
  laidMet_of_run' 8 (by kernel_rfl) (by kernel_rfl)
set_option maxRecDepth 100000 in
theorem reads (os : Os) {H : Type} (enc : TypeId × Value → H) : ∃ places, DataW.whole enc Tryd.prog ((laidWorld os).forCall (fun _ _ => 0) ⟨#[], #[.slice none 0 0, .agg #[.slice none 0 0, .bool false], .int .i64 0, .int .u8 0], []⟩).memory Tryd.f5.params.toList Rows.packAnySpec.vars false (#[.slice none 0 0, .agg #[.slice none 0 0, .bool false], .int .i64 0, .int .u8 0] : Array Value).toList 8 = some ([.nil, .agg [.nil, .lit (.bool false)], .lit (.int .i64 0), .lit (.int .u8 0)], [], places) :=
  ⟨[], by kernel_rfl⟩

set_option maxRecDepth 100000 in
theorem lifted (os : Os) (started : os.Started) (H : Type) (enc : TypeId × Value → H) (F : Stop.Interp) :
    ReturnsInHanded {} Tryd.checked os 5 .any ((OpenSpec.ofChange Rows.packAnySpec).preRow enc Tryd.prog Tryd.f5 Rows.packAnyRow.domain false Rows.packAnyRow.laid) (((OpenSpec.ofChange Rows.packAnySpec).at F).post enc Tryd.prog Tryd.f5 false true false false) := by
  obtain ⟨places, hx⟩ := reads os enc
  refine returnsInHanded_of_row (C := Tryd.checked) (s := OpenSpec.ofChange Rows.packAnySpec) ownNone started (by kernel_rfl) Tryd.func5
    (witness_row_at (enc := enc) (C := Tryd.checked) false (laidWorld os) #[.slice none 0 0, .agg #[.slice none 0 0, .bool false], .int .i64 0, .int .u8 0] rfl (by kernel_rfl) (by kernel_rfl) (by kernel_rfl)
      (OpenSpec.preRow_of_cond 8 hx (by kernel_rfl) (fun k hk => by cases hk) (by kernel_rfl) (laid_met os))) ?_
  intro W base args ds gs before hval hW _ _ _ hL _ _
  exact contract H enc W base args ds gs before hval hW hL

set_option maxRecDepth 100000 in
theorem said : Rows.PackAnySaid :=
  OpenClaim.holds_of_cond 5 Tryd.f5 rfl rfl rfl rfl rfl rfl rfl ⟨rfl, rfl, rfl, rfl, rfl⟩ rfl rfl rfl rfl rfl (by kernel_rfl) Tryd.func5 (by kernel_rfl)
    (of_decide_eq_true (by kernel_rfl)) (by unfold Func.isWrapper; first | (rw [if_pos (by decide +kernel)]; kernel_rfl) | (rw [if_neg (by decide +kernel)]; exact ⟨rfl, rfl⟩))
    (fun os started H enc _ F => by rw [OpenClaim.pre_eq_preRow]; exact lifted os started H enc F)

-- No parameter wants a stand-in; the program's own looks are off: what the card asks.
set_option maxRecDepth 100000 in
theorem plain (f : FuncId) (fn : Func) (hf : Tryd.pinned.checked.prog.funcNamed "rotulus/rotuluslaw4.PackAny" = some f) (hfn : Tryd.pinned.checked.prog.funcs[f]? = some fn) :
    false = Tryd.pinned.checked.prog.looks [] ∧ ∀ (j : Nat) t, fn.params[j]? = some t → Tryd.pinned.checked.prog.wantsStandIn t = false := by
  obtain rfl : f = 5 := Option.some.inj ((show Tryd.prog.funcNamed "rotulus/rotuluslaw4.PackAny" = some 5 by kernel_rfl).symm.trans hf) |>.symm
  obtain rfl : fn = Tryd.f5 := (Option.some.inj (Tryd.func5.symm.trans hfn)).symm
  refine ⟨by kernel_rfl, fun j t ht => ?_⟩
  rw [Tryd.params5] at ht
  have hm := Array.mem_of_getElem? ht
  simp at hm
  rcases hm with rfl | rfl | rfl | rfl
  · exact (show Tryd.prog.wantsStandIn 23 = false by kernel_rfl)
  · exact (show Tryd.prog.wantsStandIn 31 = false by kernel_rfl)
  · exact (show Tryd.prog.wantsStandIn 3 = false by kernel_rfl)
  · exact (show Tryd.prog.wantsStandIn 5 = false by kernel_rfl)

-- The card.
set_option maxRecDepth 100000 in
theorem card : Rows.PackAnyCardSaid :=
  Claim7.holds_tied_plain_at .later [] _ _ _ _ said (fun _ h => by cases h) (by kernel_rfl) (fun _ h => by cases h) packAny_row_tie rfl ⟨rfl, rfl⟩ (by kernel_rfl) rfl plain (by kernel_rfl)
end Go.Proofs.YtikdlikdknfcfaaDoor.packAny
