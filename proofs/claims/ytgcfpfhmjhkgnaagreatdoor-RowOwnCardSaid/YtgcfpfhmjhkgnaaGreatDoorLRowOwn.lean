/-
  The statement RowOwn: what Set and Erase answer is one's own: written into, it leaves the row that was given. For every row, column and sign; it holds where the table of widths is as its initialiser lays it, which the card ties to the program's text.
-/
import Derived.Test.YtgcfpfhmjhkgnaaGreatDoorQBegun0
import Derived.Test.YtgcfpfhmjhkgnaaGreatDoorQBase4
import Derived.Test.YtgcfpfhmjhkgnaaGreatDoorQSum0
import Derived.Test.YtgcfpfhmjhkgnaaGreatDoorQRefRow1
import Derived.Test.YtgcfpfhmjhkgnaaGreatDoorQBase8
import Derived.Test.YtgcfpfhmjhkgnaaGreatDoorQBase2
import Derived.Test.YtgcfpfhmjhkgnaaGreatDoorQRow0
import Derived.Test.YtgcfpfhmjhkgnaaGreatDoorQRow1
import Derived.Test.YtgcfpfhmjhkgnaaGreatDoorQRow2
import Derived.Test.YtgcfpfhmjhkgnaaGreatDoorQBase6
import Derived.BigQuiet
import Derived.Deep.CutRange
namespace Go.Proofs.YtgcfpfhmjhkgnaaGreatDoor.rowOwn
open Go.ChangeShapes Go.WideShapes Go.ChangeAt Go.RowKit
open Rw
theorem eqL_refl (l : List Cel) : eqL l l = true := by simp [eqL]
theorem erase_len (l : List Cel) (a b : Int) : (eraseRes l a b).length = l.length := by
 unfold eraseRes
 split
 ·exact ovL_length _ _ _
 ·rfl
theorem set_len (l : List Cel) (a : Int) (L : List Cel) : (setRes l a L).length = l.length := by
 unfold setRes
 split
 ·exact ovL_length _ _ _
 ·rfl
theorem erase_signs {l : List Cel} (a b : Int) (hl : ∀ c ∈ l, -2147483648 ≤ c.1 ∧ c.1 ≤ 2147483647) : ∀ c ∈ eraseRes l a b, -2147483648 ≤ c.1 ∧ c.1 ≤ 2147483647 := by
 unfold eraseRes
 split
 ·exact Sc.ovL_signs hl (Sc.blanks_signs _)
 ·exact hl
theorem set_signs {l L : List Cel} (a : Int) (hl : ∀ c ∈ l, -2147483648 ≤ c.1 ∧ c.1 ≤ 2147483647) (hL : ∀ c ∈ L, -2147483648 ≤ c.1 ∧ c.1 ≤ 2147483647) : ∀ c ∈ setRes l a L, -2147483648 ≤ c.1 ∧ c.1 ≤ 2147483647 := by
 unfold setRes
 split
 ·exact Sc.ovL_signs hl hL
 ·exact hl
theorem laid_row (w5 : World) (A : Option Addr) (n c : Nat) (wrap : Bool) : Below w5.heap.size w5 (w5.alloc (.cells #[.slice A n c, .bool wrap] 24)) ∧ RowAt (w5.alloc (.cells #[.slice A n c, .bool wrap] 24)) w5.heap.size (.slice A n c) wrap :=
 ⟨(Below.refl _ _).alloc (Nat.le_refl _) _, heap_alloc_new w5 _⟩
theorem row_keep {W W' : World} {g : Nat} {v : Value} {wr : Bool} (h : RowAt W g v wr) (b : Below W.heap.size W W') : RowAt W' g v wr := (b.block g h.lt).trans h
theorem hasC_n {w : World} {base n c : Nat} {A : Option Addr} {l : List Cel} (h : HasC w base (.slice A n c) l) : l.length = n ∧ n ≤ c := by
 obtain ⟨_, _, e, h2⟩ := HasC.shape h
 injection e with _ e1 e2
 exact ⟨e1.symm, by omega⟩
theorem sq_n {w : World} {B n : Nat} {A : Option Addr} {l : List Cel} (h : Sq w B 3 n A (flat l)) : l.length = n := by
 have := h.len
 rw [flat_length] at this
 omega
theorem own_cells {w : World} {B : Nat} {e : TypeId} {s n c : Nat} {A : Option Addr} {xs : List Value} (h : w.ownsRow B e s (.slice A n c) n xs) (hn : 0 < n) :
  ∃ g, A = some ⟨g, 0, none⟩ ∧ B ≤ g ∧ (∀ j, j < n * s → ∃ u, w.cell? ⟨g, j, none⟩ = some u) ∧ (∀ j, w.frozen? ⟨g, j, none⟩ = false) ∧ Typed w e g ∧ ∀ j u, (w.setCell ⟨g, j, none⟩ u).ownsRow B e s (.slice A n c) n (xs.set j u) := by
 obtain ⟨g, c', ev, _, hB, _, _⟩ := own_at h hn
 injection ev with e1 e2 e3
 subst e1 e3
 refine ⟨g, rfl, hB, fun j hj => ?_, fun j => h.frozenAt j, ?_, fun j u => (h.stored j u).1⟩
 ·rw [h.cellAt j hj]
  have hl : j < xs.length := by rw [h.1]; exact hj
  exact ⟨xs[j], List.getElem?_eq_getElem hl⟩
 ·rcases h.2 with ⟨e, _⟩ | ⟨g', cap, cur, e, _, e3, _⟩
  ·cases e
  ·injection e with e
   injection e with e
   injection e with e
   subst e
   exact ⟨_, _, e3⟩
def Own3 (w5 W : World) (A : Option Addr) (n c : Nat) : Prop := ∃ xs, W.ownsRow w5.heap.size 33 3 (.slice A n c) n xs
theorem Own3.keep {w5 W W' : World} {A : Option Addr} {n c : Nat} (h : Own3 w5 W A n c) (hk : ∀ k, (Value.slice A n c).ownBlock = some k → W'.heap[k]? = W.heap[k]?) : Own3 w5 W' A n c := by
 obtain ⟨xs, h⟩ := h
 refine ⟨xs, h.1, ?_⟩
 rcases h.2 with e | ⟨g, cap, cur, e, e2, e3, r⟩
 ·exact .inl e
 ·exact .inr ⟨g, cap, cur, e, e2, (hk g (by rw [e]; rfl)).trans e3, r⟩
theorem Own3.of {w5 W : World} {A : Option Addr} {n c : Nat} {l : List Cel} (h : HasC W w5.heap.size (.slice A n c) l) (hn : l.length = n) : Own3 w5 W A n c := ⟨_, by unfold HasC at h; rw [hn] at h; exact h⟩
structure Two (w5 : World) (g9 : Nat) (AV : Option Addr) (cV : Nat) (wV : Bool) (g11 : Nat) (AE : Option Addr) (cE : Nat) (wE : Bool) (n : Nat) (W : World) : Prop where
 low : Below w5.heap.size w5 W
 ra : RowAt W g9 (.slice AV n cV) wV
 rb : RowAt W g11 (.slice AE n cE) wE
 va : Own3 w5 W AV n cV
 vb : Own3 w5 W AE n cE
 apart : ∀ k, (Value.slice AV n cV).ownBlock = some k → (Value.slice AE n cE).ownBlock ≠ some k
namespace Two
variable {w5 W W' : World} {g9 g11 cV cE n : Nat} {AV AE : Option Addr} {wV wE : Bool}
theorem Own3.lt {w5 W : World} {A : Option Addr} {n c : Nat} (h : Own3 w5 W A n c) : ∀ k, (Value.slice A n c).ownBlock = some k → k < W.heap.size := fun k e => let ⟨_, h⟩ := h; (World.ownsRow.lt h k e).2
theorem laid (h : Two w5 g9 AV cV wV g11 AE cE wE n W) (b : Below W.heap.size W W') : Two w5 g9 AV cV wV g11 AE cE wE n W' :=
 ⟨h.low.trans (b.mono h.low.size), row_keep h.ra b, row_keep h.rb b, h.va.keep (fun k e => b.block k (Own3.lt h.va k e)), h.vb.keep (fun k e => b.block k (Own3.lt h.vb k e)), h.apart⟩
theorem swap (h : Two w5 g9 AV cV wV g11 AE cE wE n W) : Two w5 g11 AE cE wE g9 AV cV wV n W := ⟨h.low, h.rb, h.ra, h.vb, h.va, fun k e e' => h.apart k e' e⟩
theorem put (h : Two w5 g9 AV cV wV g11 AE cE wE n W) {i : Nat} (hi : i < n) : ∃ gg, AV = some ⟨gg, 0, none⟩ ∧ (∃ u, W.cell? ⟨gg, i * 3 + 2, none⟩ = some u) ∧ W.frozen? ⟨gg, i * 3 + 2, none⟩ = false ∧ Two w5 g9 AV cV wV g11 AE cE wE n (W.setCell ⟨gg, i * 3 + 2, none⟩ (.int .i64 50)) := by
 obtain ⟨xs, hx⟩ := h.va
 obtain ⟨gg, rfl, hB, hcell, hfree, hty, hset⟩ := own_cells hx (by omega)
 have O := OnlyRow.cell gg (i * 3 + 2) W (.int .i64 50)
 refine ⟨gg, rfl, hcell _ (by omega), hfree _, ⟨h.low.setCell (p := ⟨gg, i * 3 + 2, none⟩) hB _, (O.block g9 ?_).trans h.ra, (O.block g11 ?_).trans h.rb, ⟨_, hset _ _⟩, h.vb.keep (fun k e => O.block k (fun e' => h.apart gg rfl (by rw [← e']; exact e))), h.apart⟩⟩
 ·exact (show Typed W 24 g9 from ⟨_, _, h.ra⟩).apart hty (by decide)
 ·exact (show Typed W 24 g11 from ⟨_, _, h.rb⟩).apart hty (by decide)
end Two
set_option maxRecDepth 100000 in
set_option maxHeartbeats 12800000 in
theorem walk (r : RowIn) (y : Int) (hy : -9223372036854775808 ≤ y ∧ y ≤ 9223372036854775807) (z : Int) (hz : -2147483648 ≤ z ∧ z ≤ 2147483647) (w : World) (hs : Spans w) (hr : r.Ok w w.heap.size) :
  Calls Tryz.prog 3 #[rowV r.A r.n r.c r.wrap, .int .i64 y, .int .i32 z] w fun e w' => e = .returned (.bool true) ∧ Below w.heap.size w w' := by
 obtain ⟨rA, rn, rc, rw_, rl⟩ := r
 have S := Lib.hid hs
 obtain ⟨h1, h2, h3, h4⟩ := hr
 dsimp only at h1 h2 h3 h4
 have HR := Lib.hid (And.intro h3 h4)
 obtain ⟨b0, hb0⟩ : ∃ b0, w.heap.size = b0 := ⟨_, rfl⟩
 obtain ⟨w0, hw0⟩ : ∃ w0, w.alloc (.cells #[.slice rA rn rc, .bool rw_] 24) = w0 := ⟨_, rfl⟩
 have B0 := Lib.hid (show Below w.heap.size w w0 ∧ RowAt w0 b0 (.slice rA rn rc) rw_ from by
  rw [← hw0, ← hb0]
  exact ⟨(Below.refl _ _).alloc (Nat.le_refl _) _, heap_alloc_new w _⟩)
 have HB0 := Lib.hid hb0
 have HW0 := Lib.hid hw0
 have H1 := Lib.hid (And.intro h1 h2)
 clear hs h1 h2 h3 h4 hb0 hw0
 go_enter Tryz.func3, Tryz.ntmps3
 go_wp2_with fail
 rw [HB0.out]
 change Calls _ _ _ (w.alloc (.cells #[.slice rA rn rc, .bool rw_] 24)) _
 rw [HW0.out]
 refine (Bg.begun7_walk w0 (S.out.below B0.out.1 S.out.size)).mono ?_
 rintro e w1 ⟨rfl, b1⟩
 have R1 := Lib.hid (show RowAt w1 b0 (.slice rA rn rc) rw_ from (b1.block b0 B0.out.2.lt).trans B0.out.2)
 have B1 := Lib.hid (B0.out.1.trans (b1.mono B0.out.1.size))
 have k0 : w1.cell? ⟨b0, 0, none⟩ = some (.slice rA rn rc) := R1.out.get 0
 have k1 : w1.cell? ⟨b0, 1, none⟩ = some (.bool rw_) := R1.out.get 1
 have LR := Lib.hid (lawRow_walk rA rn rc rw_ rl w1 ((HR.out.2.below B1.out).up B1.out.size) H1.out.1 H1.out.2)
 have HL := Lib.hid (show ∀ c ∈ cut310 rl, -2147483648 ≤ c.1 ∧ c.1 ≤ 2147483647 from fun c hc => HR.out.1 c (List.mem_of_mem_take hc))
 have S1 := Lib.hid (S.out.below B1.out S.out.size)
 clear b1 B0 HW0
 go_wp2_with fail
 refine LR.out.mono ?_
 rintro e w2 ⟨v2, rfl, hv2, b2⟩
 obtain ⟨A2, c2, rfl, _⟩ := HasC.shape hv2
 obtain ⟨l, hl⟩ : ∃ l, cut310 rl = l := ⟨_, rfl⟩
 have hl310 : l.length ≤ 310 := by rw [← hl]; exact cut310_len rl
 rw [hl] at hv2 HL ⊢
 obtain ⟨n, hn⟩ : ∃ n, l.length = n := ⟨_, rfl⟩
 rw [hn] at hv2 hl310 ⊢
 have LN := Lib.hid hn
 have r2 : RowAt w2 b0 (.slice rA rn rc) rw_ := (b2.block b0 R1.out.lt).trans R1.out
 have q0 := r2.get 0
 have q1 := r2.get 1
 have qf0 := r2.free 0
 have qf1 := r2.free 1
 have OF := (OnlyRow.cell b0 0 w2 (.slice A2 n c2)).trans (OnlyRow.cell b0 1 _ (.bool rw_))
 have RF := Lib.hid (RowAt.put2 r2 (.slice A2 n c2) rw_)
 have hb0lt := R1.out.lt
 have HF := Lib.hid (HasC.keep hv2 (fun j e => OF.block j (by have := (HasC.lt hv2 j e).1; omega)))
 have B2 := Lib.hid (show Below w.heap.size w ((w2.setCell ⟨b0, 0, none⟩ (.slice A2 n c2)).setCell ⟨b0, 1, none⟩ (.bool rw_)) from (B1.out.trans (b2.mono B1.out.size)).trans ((Turned.ofOnly OF).toBelow (B1.out.trans (b2.mono B1.out.size)).size (fun k hk e => by have := HB0.out; omega)))
 clear hn hl hv2 b2 OF LR k0 k1 S1 HR R1 H1 B1 hb0lt r2
 go_upto_region 5 with fail
 generalize (w2.setCell ⟨b0, 0, none⟩ (.slice A2 n c2)).setCell ⟨b0, 1, none⟩ (.bool rw_) = w3 at RF HF B2 ⊢
 have k0 : w3.cell? ⟨b0, 0, none⟩ = some (.slice A2 n c2) := RF.out.get 0
 have k1 : w3.cell? ⟨b0, 1, none⟩ = some (.bool rw_) := RF.out.get 1
 have S3 := Lib.hid (S.out.below B2.out S.out.size)
 have Q3 := Lib.hid (HasC.sq HF.out)
 have hnc : n ≤ c2 := (hasC_n HF.out).2
 have CP := Lib.hid (refCopy_walk A2 n c2 rw_ l w3 Q3.out (by omega))
 clear q0 q1 qf0 qf1 S HF
 go_wp2_with fail
 refine CP.out.mono ?_
 rintro e w4 ⟨v4, rfl, hv4, b4⟩
 obtain ⟨A4, c4, rfl, hc4⟩ := HasC.shape hv4
 rw [LN.out] at hv4 hc4 ⊢
 obtain ⟨g8, hg8⟩ : ∃ g, w4.heap.size = g := ⟨_, rfl⟩
 obtain ⟨w5, hw5⟩ : ∃ w5, w4.alloc (.cells #[.slice A4 n c4, .bool rw_] 24) = w5 := ⟨_, rfl⟩
 have ba4 := laid_row w4 A4 n c4 rw_
 rw [hw5] at ba4
 have Q8 := Lib.hid (show Sq w5 w5.heap.size 3 n A4 (flat l) from ((HasC.sq hv4).below ba4.1).up ba4.1.size)
 have R8 := Lib.hid (show RowAt w5 g8 (.slice A4 n c4) rw_ from by rw [← hg8]; exact ba4.2)
 have T5 := Lib.hid (show Below w3.heap.size w3 w5 from b4.trans (ba4.1.mono b4.size))
 have HG8 := Lib.hid hg8
 have HW5 := Lib.hid hw5
 clear CP hv4 b4 ba4 hg8 hw5 k0 k1
 go_upto_region 6 with fail
 rw [HG8.out]
 change Code.wp _ _ _ _ (w4.alloc (.cells #[.slice A4 n c4, .bool rw_] 24))
 rw [HW5.out]
 clear HW5 HG8
 have B5 := Lib.hid (B2.out.trans (T5.out.mono B2.out.size))
 have R0 := Lib.hid (row_keep RF.out T5.out)
 have Q0 := Lib.hid ((Q3.out.below T5.out).up T5.out.size)
 have S5 := Lib.hid (S3.out.below T5.out S3.out.size)
 have k0 : w5.cell? ⟨b0, 0, none⟩ = some (.slice A2 n c2) := R0.out.get 0
 have k1 : w5.cell? ⟨b0, 1, none⟩ = some (.bool rw_) := R0.out.get 1
 clear RF Q3 S3 B2 T5
 by_cases hn0 : n = 0
 ·subst hn0
  go_wp2
  go_ret
  exact ⟨rfl, B5.out⟩
 have hn0b : ((n : Int) == 0) = false := by simp; omega
 by_cases hy0 : y < 0
 ·go_wp2
  go_ret
  exact ⟨rfl, B5.out⟩
 obtain ⟨col, hcol⟩ : ∃ col : Nat, (y.tmod (n : Int)) = (col : Int) := ⟨(y.tmod (n : Int)).toNat, by have := Int.tmod_nonneg (n : Int) (show 0 ≤ y by omega); omega⟩
 have hcn : col < n := by have := Int.tmod_lt_of_pos y (show (0 : Int) < (n : Int) by omega); omega
 have hcw : IntKind.i64.wrap (col : Int) = (col : Int) := IntWalk.i64_in _ (by omega)
 have OL := Lib.hid (Sc.ofL_signs (r := z) (a := 1) hz.1 hz.2)
 obtain ⟨m, hm⟩ : ∃ m, (ofL z 1).length = m := ⟨_, rfl⟩
 have hm2 : m ≤ 2 := by have h1 := Sc.ofL_length (r := z) (a := 1) (by omega) (by omega); have h2 := wof_range z; omega
 have hnn : n ≤ 310 := hl310
 clear hy
 go_upto_region 8 with fail
 refine Ord.start (S := fun W => Below w5.drew.heap.size w5.drew W) (n := 15) (by kernel_rfl) (by kernel_rfl) (Below.refl _ _) ?_
 have RRd := Lib.hid (show RowAt w5.drew b0 (.slice A2 n c2) rw_ from R0.out)
 have QQd := Lib.hid ((Q0.out.below (Below.refl w5.heap.size w5).drew).up (Below.refl w5.heap.size w5).drew.size)
 apply own8_great (w0 := w5.drew) (A2 := A2) (n := n) (c2 := c2) (b0 := b0) (m := m) (col := col) (y := y) (z := z) (l := l) (wr := rw_)
 case R => exact ⟨by kernel_rfl, by kernel_rfl⟩
 case hQ => exact fun _ _ _ _ _ h => h
 case hsp => exact S5.out.below (Below.refl _ _).drew S5.out.size
 case hspz => exact (S5.out.below (Below.refl _ _).drew S5.out.size).size
 case RR => exact RRd.out
 case Q0 => exact QQd.out
 case hl => exact HL.out
 case hn => omega
 case hn0 => exact hn0
 case hcol => exact hcol
 case hcw => exact hcw
 case hlS => rw [set_len]; exact LN.out
 case hz => exact hz
 case hL => exact OL.out
 case hLm => exact hm
 case hm => omega
 case F => exact ⟨rfl, rfl, rfl, rfl, rfl, rfl⟩
 intro a7 w7 g9 AV cV F7 f9 GV HV b7 hge9
 have T7 := Lib.hid (show Below w5.heap.size w5 w7 from (Below.refl w5.heap.size w5).drew.trans b7)
 have GV7 := Lib.hid GV
 have HV7 := Lib.hid (show HasC w7 w5.heap.size (.slice AV n cV) (setRes l (col : Int) (ofL z 1)) from HV)
 have HG9 := Lib.hid (show w5.heap.size ≤ g9 from hge9)
 refine own8_frame F7.size F7.defers F7.s1 F7.s2 F7.s3 F7.s8 f9 ?_
 clear F7 f9 GV HV b7 hge9 k0 k1
 intros
 try dsimp only
 go_upto_region 9 with fail
 have B7 := Lib.hid (B5.out.trans (T7.out.mono B5.out.size))
 have R7 := Lib.hid (row_keep R0.out T7.out)
 have Q7 := Lib.hid ((Q0.out.below T7.out).up T7.out.size)
 have S7 := Lib.hid (S5.out.below T7.out S5.out.size)
 refine Ord.start (S := fun W => Below w7.drew.heap.size w7.drew W) (n := 16) (by kernel_rfl) (by kernel_rfl) (Below.refl _ _) ?_
 apply own9_great (w0 := w7.drew) (A2 := A2) (n := n) (c2 := c2) (b0 := b0) (col := col) (y := y) (z := z) (l := l) (wr := rw_)
 case R => exact ⟨by kernel_rfl, by kernel_rfl⟩
 case hQ => exact fun _ _ _ _ _ h => h
 case hsp => exact S7.out.below (Below.refl _ _).drew S7.out.size
 case hspz => exact (S7.out.below (Below.refl _ _).drew S7.out.size).size
 case RR => exact R7.out
 case Q0 => exact (Q7.out.below (Below.refl w7.heap.size w7).drew).up (Below.refl w7.heap.size w7).drew.size
 case hl => exact HL.out
 case hn => omega
 case hn0 => exact hn0
 case hcol => exact hcol
 case hcw => exact hcw
 case hlS => rw [erase_len]; exact LN.out
 case F => exact ⟨rfl, rfl, rfl, rfl, rfl, rfl, rfl⟩
 intro a9 w9 g11 AE cE F9 f11 GE HE b9 hge11
 have T9 := Lib.hid (show Below w7.heap.size w7 w9 from (Below.refl w7.heap.size w7).drew.trans b9)
 have TW := Lib.hid (show Two w5 g9 AV cV rw_ g11 AE cE (eraseWrap rw_ l (col : Int) (n : Int)) n w9 from by
  have h75 := T7.out.size
  have hE : HasC w9 w7.heap.size (.slice AE n cE) (eraseRes l (col : Int) (n : Int)) := HE
  refine ⟨T7.out.trans (T9.out.mono h75), row_keep GV7.out T9.out, GE, Own3.of (HasC.keep HV7.out (fun k e => T9.out.block k (HasC.lt HV7.out k e).2)) (by rw [set_len]; exact LN.out), Own3.of (HasC.mono hE h75) (by rw [erase_len]; exact LN.out), fun k e e' => ?_⟩
  have h1 := (HasC.lt HV7.out k e).2
  have h2 := (HasC.lt hE k e').1
  omega)
 have hb5 : b0 < w5.heap.size := R0.out.lt
 have KEEP := Lib.hid (show ∀ W, Below w5.heap.size w5 W → RowAt W b0 (.slice A2 n c2) rw_ ∧ Sq W W.heap.size 3 n A2 (flat l) ∧ RowAt W g8 (.slice A4 n c4) rw_ ∧ Sq W W.heap.size 3 n A4 (flat l) ∧ Spans W ∧ Below w.heap.size w W from fun W b =>
  ⟨row_keep R0.out b, (Q0.out.below b).up b.size, row_keep R8.out b, (Q8.out.below b).up b.size, S5.out.below b S5.out.size, B5.out.trans (b.mono B5.out.size)⟩)
 obtain ⟨we, hwe⟩ : ∃ we, eraseWrap rw_ l (col : Int) (n : Int) = we := ⟨_, rfl⟩
 rw [hwe] at TW
 refine own9_frame F9.size F9.defers F9.s1 F9.s2 F9.s3 F9.s8 F9.s9 f11 ?_
 clear F9 f11 GE HE b9 hge11 hwe HG9 GV7 HV7 T7 T9 B7 R7 Q7 S7 RRd QQd hb5 B5 R0 Q0 R8 Q8 S5
 intro u0 u4 u5 u6 u7 u10 u12 u13 u14 u15 u16 u17 u18 u19 u20 u21 u22 u23 u24 u25 u26 u27 u28 u29 u30 u31 u32 u33 u34 u35 u36 u37 u38 u39 u40 u41 u42 u43 u44 u45 u46 u47 u48 u49 u50 u51 u52 u53 u54 u55 u56 u57 u58 u59 u60 u61 u62 u63 u64 u65 u66 u67 u68 u69 u70 u71 u72 u73 u74 u75 u76 u77 u78 u79 u80 u81 u82 u83 u84 u85 u86 u87 u88 u89 u90 u91 u92 u93 u94 u95 u96 u97 u98 u99 u100 u101 u102
 try dsimp only
 have ENDW := Lib.hid (show ∀ W, Below w5.heap.size w5 W → Calls Tryz.prog 14 #[rowV A2 n c2 rw_, rowV A4 n c4 rw_] W fun e w' => e = .returned (.bool true) ∧ Below W.heap.size W w' from fun W b => by
  refine (eqRow_walk A2 A4 n c2 n c4 rw_ rw_ l l W (by omega) (by omega) (KEEP.out W b).2.1 (KEEP.out W b).2.2.2.1).mono ?_
  rintro e w' ⟨rfl, hb⟩
  rw [eqL_refl, beq_self_eq_true]
  exact ⟨rfl, hb⟩)
 have k0 := ((KEEP.out w9 TW.out.low).1).get 0
 have k1 := ((KEEP.out w9 TW.out.low).1).get 1
 have RR := Lib.hid (refRow_walk A2 n c2 rw_ l w9 HL.out (KEEP.out w9 TW.out.low).2.1 (by omega))
 go_wp2_with fail
 refine RR.out.mono ?_
 rintro e w10 ⟨rfl, b10⟩
 have TX := Lib.hid (TW.out.laid b10)
 clear RR b10 k0 k1 TW
 obtain ⟨mb, hmb⟩ : ∃ mb, mayL l = mb := ⟨_, rfl⟩
 rw [hmb]
 clear hmb
 cases mb with
 | false =>
  have k0 := ((KEEP.out w10 TX.out.low).1).get 0
  have k1 := ((KEEP.out w10 TX.out.low).1).get 1
  have k2 := ((KEEP.out w10 TX.out.low).2.2.1).get 0
  have k3 := ((KEEP.out w10 TX.out.low).2.2.1).get 1
  have EN := Lib.hid (ENDW.out w10 TX.out.low)
  have BB := Lib.hid ((KEEP.out w10 TX.out.low).2.2.2.2.2)
  go_wp2_with fail
  refine EN.out.mono ?_
  rintro e w11 ⟨rfl, b11⟩
  go_wp2
  go_ret
  exact ⟨rfl, BB.out.trans (b11.mono BB.out.size)⟩
 | true =>
  have a0 : w10.cell? ⟨g9, 0, none⟩ = some (.slice AV n cV) := TX.out.ra.get 0
  go_wp2_with fail
  clear a0
  go_loopw [13, 60] (fun _ v60 wr => ∃ i : Nat, v60 = .int .i64 (i : Int) ∧ i ≤ n ∧ Hid (Two w5 g9 AV cV rw_ g11 AE cE we n wr)) (fun _ v60 _ => n - (intOf v60).toNat)
  case atStart => exact ⟨0, rfl, Nat.zero_le _, TX⟩
  case round =>
   obtain ⟨i, rfl, hi, TI⟩ := hrel
   clear TX
   by_cases hin : i < n
   ·have hi0 : (0 : Int) ≤ (i : Int) := by omega
    have hin' : (i : Int) < (n : Int) := by omega
    have hinc : IntKind.i64.wrap ((i : Int) + 1) = (i : Int) + 1 := IntWalk.i64_in _ (by omega)
    have TD := Lib.hid (TI.out.laid (Below.refl wr.heap.size wr).drew)
    have KD := KEEP.out wr.drew TD.out.low
    go_upto_region 14 with fail
    refine Ord.start (S := fun W => Below wr.drew.heap.size wr.drew W) (n := 19) (by kernel_rfl) (by kernel_rfl) (Below.refl _ _) ?_
    rcases Nat.eq_zero_or_pos m with hm0 | hm0
    ·apply own14_no (w1 := wr.drew) (b0 := b0) (m := m) (y := y) (z := z) (p0 := u0) (p4 := u4) (p5 := u5) (p6 := u6) (p7 := u7) (p8 := .pointer (some ⟨g8, 0, none⟩)) (p9 := .pointer (some ⟨g9, 0, none⟩)) (p10 := u10) (p11 := .pointer (some ⟨g11, 0, none⟩)) (p12 := u12) (p13 := .int .i64 (i : Int)) (p14 := u14) (p15 := u15) (p16 := u16) (p17 := u17) (p18 := u18) (p19 := u19) (p20 := u20) (p21 := u21) (p22 := u22) (p23 := u23) (p24 := u24) (p25 := u25) (p26 := u26) (p27 := u27) (p28 := u28) (p29 := u29) (p30 := u30) (p31 := u31) (p32 := u32) (p33 := u33) (p34 := u34) (p35 := u35) (p36 := u36) (p37 := u37) (p38 := u38) (p39 := u39) (p40 := u40) (p41 := u41) (p42 := u42) (p43 := u43) (p44 := u44) (p45 := u45) (p46 := u46) (p47 := u47) (p48 := u48) (p49 := u49) (p50 := u50) (p51 := u51) (p52 := u52) (p53 := u53) (p54 := u54) (p55 := .agg #[.slice A2 n c2, .bool rw_]) (p56 := .bool true) (p57 := .pointer (some ⟨g9, 0, none⟩)) (p58 := .slice AV n cV) (p59 := .int .i64 (n : Int)) (p60 := .int .i64 (i : Int)) (p61 := .bool true) (p62 := .int .i64 (i : Int)) (p82 := u82) (p83 := u83) (p84 := u84) (p85 := u85) (p86 := u86) (p87 := u87) (p88 := u88) (p89 := u89) (p90 := u90) (p91 := u91) (p92 := u92) (p93 := u93) (p94 := u94) (p95 := u95) (p96 := u96) (p97 := u97) (p98 := u98) (p99 := u99) (p100 := u100) (p101 := u101) (p102 := u102)
     case R => exact ⟨by kernel_rfl, by kernel_rfl⟩
     case hQ => exact fun _ _ _ _ _ h => h
     case hz => exact hz
     case hLm => exact hm
     case hgt => exact hm0
     case F => constructor <;> rfl
     case hS => exact Below.refl _ _
     intro a2 W2 F2 f81 hW2
     have T2 := Lib.hid (TD.out.laid hW2)
     refine own14_frame F2.size F2.defers F2.s0 F2.s1 F2.s2 F2.s3 F2.s4 F2.s5 F2.s6 F2.s7 F2.s8 F2.s9 F2.s10 F2.s11 F2.s12 F2.s13 F2.s14 F2.s15 F2.s16 F2.s17 F2.s18 F2.s19 F2.s20 F2.s21 F2.s22 F2.s23 F2.s24 F2.s25 F2.s26 F2.s27 F2.s28 F2.s29 F2.s30 F2.s31 F2.s32 F2.s33 F2.s34 F2.s35 F2.s36 F2.s37 F2.s38 F2.s39 F2.s40 F2.s41 F2.s42 F2.s43 F2.s44 F2.s45 F2.s46 F2.s47 F2.s48 F2.s49 F2.s50 F2.s51 F2.s52 F2.s53 F2.s54 F2.s55 F2.s56 F2.s57 F2.s58 F2.s59 F2.s60 F2.s61 F2.s62 f81 F2.s82 F2.s83 F2.s84 F2.s85 F2.s86 F2.s87 F2.s88 F2.s89 F2.s90 F2.s91 F2.s92 F2.s93 F2.s94 F2.s95 F2.s96 F2.s97 F2.s98 F2.s99 F2.s100 F2.s101 F2.s102 ?_
     intros
     clear F2 f81 hW2 KD TD TI
     try dsimp only
     go_wp2
     go_roundw
     case rel => exact ⟨i + 1, by first | rfl | (congr 1; done) | (congr 1; omega), by omega, T2⟩
     case measure => first | (simp [intOf]; done) | (simp [intOf]; omega)
    ·obtain ⟨bb, hbb⟩ : ∃ bb, decide ((col : Int) + (m : Int) ≤ (n : Int)) = bb := ⟨_, rfl⟩
     apply own14_yes (w1 := wr.drew) (A2 := A2) (n := n) (c2 := c2) (b0 := b0) (m := m) (col := col) (y := y) (z := z) (wr := rw_) (bb := bb) (p0 := u0) (p4 := u4) (p5 := u5) (p6 := u6) (p7 := u7) (p8 := .pointer (some ⟨g8, 0, none⟩)) (p9 := .pointer (some ⟨g9, 0, none⟩)) (p10 := u10) (p11 := .pointer (some ⟨g11, 0, none⟩)) (p12 := u12) (p13 := .int .i64 (i : Int)) (p14 := u14) (p15 := u15) (p16 := u16) (p17 := u17) (p18 := u18) (p19 := u19) (p20 := u20) (p21 := u21) (p22 := u22) (p23 := u23) (p24 := u24) (p25 := u25) (p26 := u26) (p27 := u27) (p28 := u28) (p29 := u29) (p30 := u30) (p31 := u31) (p32 := u32) (p33 := u33) (p34 := u34) (p35 := u35) (p36 := u36) (p37 := u37) (p38 := u38) (p39 := u39) (p40 := u40) (p41 := u41) (p42 := u42) (p43 := u43) (p44 := u44) (p45 := u45) (p46 := u46) (p47 := u47) (p48 := u48) (p49 := u49) (p50 := u50) (p51 := u51) (p52 := u52) (p53 := u53) (p54 := u54) (p55 := .agg #[.slice A2 n c2, .bool rw_]) (p56 := .bool true) (p57 := .pointer (some ⟨g9, 0, none⟩)) (p58 := .slice AV n cV) (p59 := .int .i64 (n : Int)) (p60 := .int .i64 (i : Int)) (p61 := .bool true) (p62 := .int .i64 (i : Int)) (p82 := u82) (p83 := u83) (p84 := u84) (p85 := u85) (p86 := u86) (p87 := u87) (p88 := u88) (p89 := u89) (p90 := u90) (p91 := u91) (p92 := u92) (p93 := u93) (p94 := u94) (p95 := u95) (p96 := u96) (p97 := u97) (p98 := u98) (p99 := u99) (p100 := u100) (p101 := u101) (p102 := u102)
     case R => exact ⟨by kernel_rfl, by kernel_rfl⟩
     case hQ => exact fun _ _ _ _ _ h => h
     case hz => exact hz
     case hLm => exact hm
     case hgt => exact hm0
     case RR => exact KD.1
     case hn0 => exact hn0
     case hcol => exact hcol
     case hcw => exact hcw
     case hsum => exact IntWalk.i64_in _ (by omega)
     case hle => exact hbb
     case F => constructor <;> rfl
     case hS => exact Below.refl _ _
     intro a2 W2 F2 f81 hW2
     have T2 := Lib.hid (TD.out.laid hW2)
     refine own14_frame F2.size F2.defers F2.s0 F2.s1 F2.s2 F2.s3 F2.s4 F2.s5 F2.s6 F2.s7 F2.s8 F2.s9 F2.s10 F2.s11 F2.s12 F2.s13 F2.s14 F2.s15 F2.s16 F2.s17 F2.s18 F2.s19 F2.s20 F2.s21 F2.s22 F2.s23 F2.s24 F2.s25 F2.s26 F2.s27 F2.s28 F2.s29 F2.s30 F2.s31 F2.s32 F2.s33 F2.s34 F2.s35 F2.s36 F2.s37 F2.s38 F2.s39 F2.s40 F2.s41 F2.s42 F2.s43 F2.s44 F2.s45 F2.s46 F2.s47 F2.s48 F2.s49 F2.s50 F2.s51 F2.s52 F2.s53 F2.s54 F2.s55 F2.s56 F2.s57 F2.s58 F2.s59 F2.s60 F2.s61 F2.s62 f81 F2.s82 F2.s83 F2.s84 F2.s85 F2.s86 F2.s87 F2.s88 F2.s89 F2.s90 F2.s91 F2.s92 F2.s93 F2.s94 F2.s95 F2.s96 F2.s97 F2.s98 F2.s99 F2.s100 F2.s101 F2.s102 ?_
     intros
     clear F2 f81 hW2 KD TD TI hbb
     try dsimp only
     cases bb
     ·go_wp2
      go_roundw
      case rel => exact ⟨i + 1, by first | rfl | (congr 1; done) | (congr 1; omega), by omega, T2⟩
      case measure => first | (simp [intOf]; done) | (simp [intOf]; omega)
     ·obtain ⟨gg, rfl, ⟨uu, hu⟩, hfr, T3'⟩ := T2.out.put hin
      have T3 := Lib.hid T3'
      have a0 : W2.cell? ⟨g9, 0, none⟩ = some (.slice (some ⟨gg, 0, none⟩) n cV) := T2.out.ra.get 0
      clear T3' T2
      go_wp2
      go_roundw
      case rel => exact ⟨i + 1, by first | rfl | (congr 1; done) | (congr 1; omega), by omega, T3⟩
      case measure => first | (simp [intOf]; done) | (simp [intOf]; omega)
   ·obtain rfl : i = n := by omega
    have b0' : wr.cell? ⟨g11, 0, none⟩ = some (.slice AE i cE) := TI.out.rb.get 0
    go_wp2_with fail
    clear b0'
    go_loopw [14, 91] (fun _ v91 wx => ∃ j : Nat, v91 = .int .i64 (j : Int) ∧ j ≤ i ∧ Hid (Two w5 g9 AV cV rw_ g11 AE cE we i wx)) (fun _ v91 _ => i - (intOf v91).toNat)
    case atStart => exact ⟨0, rfl, Nat.zero_le _, TI⟩
    case round =>
     obtain ⟨q, rfl, hq, TJ⟩ := hrel
     clear TI
     by_cases hqn : q < i
     ·have hq0 : (0 : Int) ≤ (q : Int) := by omega
      have hqn' : (q : Int) < (i : Int) := by omega
      have hinc : IntKind.i64.wrap ((q : Int) + 1) = (q : Int) + 1 := IntWalk.i64_in _ (by omega)
      obtain ⟨gg, rfl, ⟨uu, hu⟩, hfr, T3'⟩ := TJ.out.swap.put hqn
      have T3 := Lib.hid T3'.swap
      have a0 : wr.cell? ⟨g11, 0, none⟩ = some (.slice (some ⟨gg, 0, none⟩) i cE) := TJ.out.rb.get 0
      clear T3' TJ
      go_wp2
      go_roundw
      case rel => exact ⟨q + 1, by first | rfl | (congr 1; done) | (congr 1; omega), by omega, T3⟩
      case measure => first | (simp [intOf]; done) | (simp [intOf]; omega)
     ·obtain rfl : q = i := by omega
      have k0 := ((KEEP.out wr TJ.out.low).1).get 0
      have k1 := ((KEEP.out wr TJ.out.low).1).get 1
      have k2 := ((KEEP.out wr TJ.out.low).2.2.1).get 0
      have k3 := ((KEEP.out wr TJ.out.low).2.2.1).get 1
      have EN := Lib.hid (ENDW.out wr TJ.out.low)
      have BB := Lib.hid ((KEEP.out wr TJ.out.low).2.2.2.2.2)
      go_wp2_with fail
      refine EN.out.mono ?_
      rintro e w11 ⟨rfl, b11⟩
      go_wp2
      go_ret
      exact ⟨rfl, BB.out.trans (b11.mono BB.out.size)⟩
set_option maxRecDepth 100000 in
theorem contract (H : Type) (enc : TypeId × Value → H) (W : World) (base : Nat) (args : Array Value) (ds gs : List (DataW H)) (before : List MemPlace)
  (hval : ∀ (j : Nat) t v, Tryz.f3.params[j]? = some t → args[j]? = some v → Value.okWide Tryz.prog W .any base t v)
  (hW : DataW.Whole enc Tryz.prog Tryz.f3.params.toList Rows.rowOwnSpec.vars false W args.toList ds gs before) (hL : laidMetH Tryz.prog Rows.rowOwnRow.laid W) :
  Calls Tryz.prog 3 args W fun e W' => ∃ v, e = .returned v ∧ Rows.rowOwnSpec.post enc Tryz.prog Tryz.f3 false true false false W args v W' := by
 have hW' := hW
 obtain ⟨p, q, hA0, hV, rfl, hfz, hnd⟩ := hW
 have hA : DataW.TrodAll enc Tryz.prog W 0 (fun _ => true) true Tryz.f3.params.toList args.toList ds p := hA0
 rw [Tryz.params3] at hA hval
 obtain ⟨v0, vs0, d0, ds0, p0, q0, hargs, rfl, rfl, h0, r0⟩ := trodAll_cons hA
 obtain ⟨v1, vs1, d1, ds1, p1, q1, rfl, rfl, rfl, h1, r1⟩ := trodAll_cons r0
 obtain ⟨v2, vs2, d2, ds2, p2, q2, rfl, rfl, rfl, h2, r2⟩ := trodAll_cons r1
 obtain ⟨rfl, rfl, rfl⟩ := trodAll_nil r2
 obtain rfl : args = #[v0, v1, v2] := by cases args; simp_all
 obtain ⟨rfl, rfl⟩ := trodVars_none hV
 obtain ⟨x, rfl, hx⟩ := open_row (hval 0 24 v0 rfl rfl) h0
 obtain ⟨y, rfl, rfl, rfl, wy⟩ := open_int Tryz.underlying3 (hval 1 3 v1 rfl rfl) h1
 obtain ⟨z, rfl, rfl, rfl, wz⟩ := open_int Tryz.underlying21 (hval 2 21 v2 rfl rfl) h2
 clear hA0
 refine (walk x y (wf_i64 wy) z (wf_i32 wz) W (spans_of hL) hx).mono fun e W' ⟨he, hg⟩ => ?_
 subst he
 exact ⟨_, rfl, close rfl hW' ⟨rfl, rfl, rfl⟩ (by kernel_rfl) (by kernel_rfl) hg⟩
set_option maxRecDepth 100000 in
theorem laid_met (os : Os) : laidMet Tryz.prog Rows.rowOwnRow.laid ((laidWorld os).forCall (fun _ _ => 0) ⟨#[], #[.agg #[.slice none 0 0, .bool false], .int .i64 0, .int .i32 0], []⟩).memory :=
 laidMet_of_run' 8 (by kernel_rfl) (by kernel_rfl)
set_option maxRecDepth 100000 in
theorem reads (os : Os) {H : Type} (enc : TypeId × Value → H) : ∃ places, DataW.whole enc Tryz.prog ((laidWorld os).forCall (fun _ _ => 0) ⟨#[], #[.agg #[.slice none 0 0, .bool false], .int .i64 0, .int .i32 0], []⟩).memory Tryz.f3.params.toList Rows.rowOwnSpec.vars false (#[.agg #[.slice none 0 0, .bool false], .int .i64 0, .int .i32 0] : Array Value).toList 8 = some ([.agg [.nil, .lit (.bool false)], .lit (.int .i64 0), .lit (.int .i32 0)], [], places) :=
 ⟨[], by kernel_rfl⟩
set_option maxRecDepth 100000 in
theorem lifted (os : Os) (started : os.Started) (H : Type) (enc : TypeId × Value → H) (F : Stop.Interp) :
  ReturnsInHanded {} Tryz.checked os 3 .any ((OpenSpec.ofChange Rows.rowOwnSpec).preRow enc Tryz.prog Tryz.f3 Rows.rowOwnRow.domain false Rows.rowOwnRow.laid) (((OpenSpec.ofChange Rows.rowOwnSpec).at F).post enc Tryz.prog Tryz.f3 false true false false) := by
 obtain ⟨places, hx⟩ := reads os enc
 refine returnsInHanded_of_row (C := Tryz.checked) (s := OpenSpec.ofChange Rows.rowOwnSpec) ownNone started (by kernel_rfl) Tryz.func3
  (witness_row_at (enc := enc) (C := Tryz.checked) false (laidWorld os) #[.agg #[.slice none 0 0, .bool false], .int .i64 0, .int .i32 0] rfl (by kernel_rfl) (by kernel_rfl) (by kernel_rfl)
   (OpenSpec.preRow_of_cond 8 hx (by kernel_rfl) (fun k hk => by cases hk) (by kernel_rfl) (laid_met os))) ?_
 intro W base args ds gs before hval hW _ _ _ hL _ _
 exact contract H enc W base args ds gs before hval hW hL
set_option maxRecDepth 100000 in
set_option maxHeartbeats 0 in
theorem facts : joinedFacts Tryz.checked.prog 3 Tryz.f3 (OpenSpec.ofChange Rows.rowOwnSpec).bare Rows.rowOwnRow = true := by
 have h1 := Sum.tables.1
 have h2 := Sum.tables.2.1
 have h3 := Sum.tables.2.2
 have h4 := Sum.mayEnter
 have e1 : Rows.rowOwnRow.lifted = Rows.rowOwnRow.lifted := by kernel_rfl
 have e2 : Rows.rowOwnRow.make = Rows.rowOwnRow.make := by kernel_rfl
 have h5 : (Rows.rowOwnRow.lifted == Tryz.checked.prog.liftsFinal) = true := by rw [e1]; exact Sum.lifts
 have h6 : (Tryz.checked.prog.make == some Rows.rowOwnRow.make) = true := by rw [e2]; exact Sum.make
 unfold joinedFacts
 repeat' (with_reducible refine Sum.and_mk ?_ ?_)
 all_goals first
  | with_reducible exact h1
  | with_reducible exact h2
  | with_reducible exact h4
  | with_reducible exact h5
  | with_reducible exact h6
  | (rw [h3]; as_aux_lemma => kernel_rfl)
  | (clear h1 h2 h3 h4 h5 h6 e1 e2; as_aux_lemma => kernel_rfl)
set_option maxRecDepth 100000 in
theorem said : Rows.RowOwnSaid :=
 OpenClaim.holds_of_cond 3 Tryz.f3 rfl rfl rfl rfl rfl rfl rfl ⟨rfl, rfl, rfl, rfl, rfl⟩ rfl rfl rfl rfl rfl (by kernel_rfl) Tryz.func3 facts
  (of_decide_eq_true (by kernel_rfl)) (by unfold Func.isWrapper; first | (rw [if_pos (by decide +kernel)]; kernel_rfl) | (rw [if_neg (by decide +kernel)]; exact ⟨rfl, rfl⟩))
  (fun os started H enc _ F => by rw [OpenClaim.pre_eq_preRow]; exact lifted os started H enc F)
set_option maxRecDepth 100000 in
theorem plain (f : FuncId) (fn : Func) (hf : Tryz.pinned.checked.prog.funcNamed "rotulus/rotuluslaw7.RowOwn" = some f) (hfn : Tryz.pinned.checked.prog.funcs[f]? = some fn) :
  false = Tryz.pinned.checked.prog.looks [] ∧ ∀ (j : Nat) t, fn.params[j]? = some t → Tryz.pinned.checked.prog.wantsStandIn t = false := by
 obtain rfl : f = 3 := Option.some.inj ((show Tryz.prog.funcNamed "rotulus/rotuluslaw7.RowOwn" = some 3 by kernel_rfl).symm.trans hf) |>.symm
 obtain rfl : fn = Tryz.f3 := (Option.some.inj (Tryz.func3.symm.trans hfn)).symm
 refine ⟨by kernel_rfl, fun j t ht => ?_⟩
 rw [Tryz.params3] at ht
 have hm := Array.mem_of_getElem? ht
 simp at hm
 rcases hm with rfl | rfl | rfl
 ·exact (show Tryz.prog.wantsStandIn 24 = false by kernel_rfl)
 ·exact (show Tryz.prog.wantsStandIn 3 = false by kernel_rfl)
 ·exact (show Tryz.prog.wantsStandIn 21 = false by kernel_rfl)
set_option maxRecDepth 100000 in
theorem card : Rows.RowOwnCardSaid :=
 Claim7.holds_tied_plain_at .later [] _ _ _ _ said (fun _ h => by cases h) (by kernel_rfl) (fun _ h => by cases h) rowOwn_row_tie rfl ⟨rfl, rfl⟩ (by kernel_rfl) rfl plain (by kernel_rfl)
end Go.Proofs.YtgcfpfhmjhkgnaaGreatDoor.rowOwn
