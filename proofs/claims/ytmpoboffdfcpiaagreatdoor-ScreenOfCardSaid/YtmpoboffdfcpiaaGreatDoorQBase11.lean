import Derived.Test.YtmpoboffdfcpiaaGreatDoorQBase8
set_option maxRecDepth 100000
set_option maxHeartbeats 6400000
namespace Go.Proofs.YtmpoboffdfcpiaaGreatDoor
open Go.ChangeShapes Go.WideShapes Go.ChangeAt Go.RowKit
namespace Sc
open Rw
def cutL (w : Nat) (l : List Cel) : List Cel := l.take w ++ blanksL (w - l.length)
theorem cutL_length (w : Nat) (l : List Cel) : (cutL w l).length = w := by
 unfold cutL
 rw [List.length_append, List.length_take, blanksL_length]
 omega
theorem cutL_at (w : Nat) (l : List Cel) (i : Nat) : cAt (cutL w l) i = if i < w then cAt l i else (32, 1, 0) := by
 by_cases h : i < w
 ·rw [if_pos h]
  by_cases h2 : i < l.length
  ·refine cAt_some ?_
   unfold cutL
   rw [List.getElem?_append_left (by rw [List.length_take]; omega), List.getElem?_take, if_pos h]
   exact cAt_get h2
  ·rw [cAt_none (l := l) (by omega)]
   refine cAt_some ?_
   unfold cutL
   rw [List.getElem?_append_right (by rw [List.length_take]; omega)]
   unfold blanksL
   rw [List.getElem?_replicate, if_pos (by rw [List.length_take]; omega)]
 ·rw [if_neg h, cAt_none (by rw [cutL_length]; omega)]
theorem fitL_eq (w : Nat) (l : List Cel) : fitL w l = if (cAt (cutL w l) (w - 1)).2.1 = 2 then (cutL w l).set (w - 1) (32, 1, 0) else cutL w l := rfl
theorem fitL_length (w : Nat) (l : List Cel) : (fitL w l).length = w := by
 rw [fitL_eq]
 split
 ·rw [List.length_set, cutL_length]
 ·exact cutL_length w l
theorem fitL_at {w : Nat} (hw : 0 < w) (l : List Cel) (i : Nat) : cAt (fitL w l) i = if i < w then (if i + 1 = w ∧ (cAt l i).2.1 = 2 then (32, 1, 0) else cAt l i) else (32, 1, 0) := by
 have e0 : cAt (cutL w l) (w - 1) = cAt l (w - 1) := by rw [cutL_at, if_pos (by omega)]
 rw [fitL_eq, e0]
 by_cases h2 : (cAt l (w - 1)).2.1 = 2
 ·rw [if_pos h2, cAt_set _ _ _ _ (by rw [cutL_length]; omega), cutL_at]
  by_cases hi : i = w - 1
  ·subst hi
   rw [if_pos rfl, if_pos (by omega), if_pos ⟨by omega, h2⟩]
  ·rw [if_neg hi]
   by_cases h : i < w
   ·rw [if_pos h, if_pos h, if_neg (by omega)]
   ·rw [if_neg h, if_neg h]
 ·rw [if_neg h2, cutL_at]
  by_cases h : i < w
  ·rw [if_pos h, if_pos h]
   by_cases hi : i + 1 = w ∧ (cAt l i).2.1 = 2
   ·obtain ⟨e, e2⟩ := hi
    obtain rfl : i = w - 1 := by omega
    exact absurd e2 h2
   ·rw [if_neg hi]
  ·rw [if_neg h, if_neg h]
theorem lone_cut {w : Nat} {l : List Cel} (h : Rw.Good l) {k : Nat} (hk : k < w) : Rw.lone (cutL w l) k = decide (k + 1 = w ∧ (cAt l k).2.1 = 2) := by
 have hp : cPrev (cutL w l) k = cPrev l k := by
  unfold cPrev
  by_cases h0 : k = 0
  ·rw [if_pos h0, if_pos h0]
  ·rw [if_neg h0, if_neg h0, cutL_at, if_pos (by omega)]
 have hl := h.not_lone k
 unfold Rw.lone at hl ⊢
 rw [hp, cutL_at, cutL_at, if_pos hk]
 by_cases he : k + 1 < w
 ·rw [if_pos he, hl]
  symm
  rw [decide_eq_false_iff_not]
  omega
 ·rw [if_neg he]
  rw [Bool.or_eq_false_iff] at hl
  rw [hl.2, Bool.or_false]
  have e : k + 1 = w := by omega
  by_cases h2 : (cAt l k).2.1 = 2
  ·simp [e, h2]
  ·simp [e, h2]
theorem fit_scan {w : Nat} {l : List Cel} (h : Rw.Good l) (hw : 0 < w) : scanK (cutL w l) w = fitL w l := by
 have st : ∀ k, k < w → scanK (cutL w l) k = cutL w l := by
  intro k
  induction k with
  | zero => intro _; rfl
  | succ k ih =>
   intro hk
   unfold scanK
   rw [ih (by omega), lone_cut h (by omega), decide_eq_false (by omega)]
   rfl
 obtain ⟨m, rfl⟩ : ∃ m, w = m + 1 := ⟨w - 1, by omega⟩
 unfold scanK
 have e0 : cAt (cutL (m + 1) l) m = cAt l m := by rw [cutL_at, if_pos (by omega)]
 rw [st m (by omega), lone_cut h (Nat.lt_succ_self m), fitL_eq, Nat.add_sub_cancel, e0]
 by_cases h2 : (cAt l m).2.1 = 2
 ·simp [h2]
 ·simp [h2]
theorem fit_good {w : Nat} {l : List Cel} (h : Rw.Good l) (hw : 0 < w) : Rw.Good (fitL w l) := by
 have at' := fitL_at hw l
 have prev : ∀ i, cPrev (fitL w l) i = if i = 0 then (32, 1, 0) else cAt (fitL w l) (i - 1) := fun i => rfl
 have key : ∀ i, i < w → 0 < i → cAt (fitL w l) (i - 1) = cAt l (i - 1) := fun i hi h0 => by rw [at', if_pos (by omega), if_neg (by omega)]
 refine ⟨fun i hi => ?_, fun i => ?_, fun i => ?_⟩
 ·rw [fitL_length] at hi
  rw [at', if_pos hi]
  split
  ·rfl
  ·by_cases h2 : i < l.length
   ·exact h.each i h2
   ·rw [cAt_none (by omega)]; rfl
 ·rw [prev]
  by_cases h0 : i = 0
  ·subst h0
   rw [if_pos rfl, at', if_pos hw]
   constructor
   ·intro e; cases e
   ·intro e
    split at e
    ·cases e
    ·exact absurd e h.first
  ·rw [if_neg h0]
   by_cases hi : i < w
   ·rw [key i hi (by omega), at', if_pos hi]
    have hp := h.pair i
    unfold cPrev at hp
    rw [if_neg h0] at hp
    split
    ·rename_i e
     constructor
     ·intro e2; rw [hp, e.2] at e2; cases e2
     ·intro e2; cases e2
    ·exact hp
   ·rw [at' i, if_neg hi]
    constructor
    ·intro e
     rw [at'] at e
     split at e
     ·split at e
      ·cases e
      ·rename_i h1 h2
       exact absurd ⟨by omega, e⟩ h2
     ·cases e
    ·intro e; cases e
 ·rw [prev]
  intro e
  rw [at'] at e ⊢
  split at e
  ·rename_i hi
   rw [if_pos hi]
   split at e
   ·cases e
   ·rename_i h2
    rw [if_neg h2]
    have hl := h.like i e
    unfold cPrev at hl
    by_cases h0 : i = 0
    ·subst h0; exact absurd e h.first
    ·rw [if_neg h0] at hl ⊢
     rw [key i hi (by omega)]
     exact hl
  ·cases e
theorem fit_signs {w : Nat} {l : List Cel} (hw : 0 < w) (h : ∀ c ∈ l, -2147483648 ≤ c.1 ∧ c.1 ≤ 2147483647) : ∀ c ∈ fitL w l, -2147483648 ≤ c.1 ∧ c.1 ≤ 2147483647 := by
 intro c hc
 obtain ⟨i, hi, rfl⟩ := List.mem_iff_getElem.1 hc
 have e : (fitL w l)[i] = cAt (fitL w l) i := (cAt_some (List.getElem?_eq_getElem hi)).symm
 rw [e, fitL_at hw]
 split
 ·split
  ·decide
  ·by_cases h2 : i < l.length
   ·exact h _ (List.mem_of_getElem? (cAt_get h2))
   ·rw [cAt_none (by omega)]; decide
 ·decide
theorem fitS_ok {w : Nat} (hw : 0 < w) {x : Option SR} (hx : ∀ y, x = some y → ∀ c ∈ y.1, -2147483648 ≤ c.1 ∧ c.1 ≤ 2147483647) : RowOk w (fitS w x) := by
 match x, hx with
 | none, _ => exact blank_ok w
 | some (l, wr), hx =>
  show RowOk w (if mayL l then (fitL w l, wr) else (blanksL w, false))
  by_cases hm : mayL l = true
  ·rw [if_pos hm]
   exact ⟨fit_good ((mayL_iff l).1 hm).2 hw, fitL_length w l, fit_signs hw (hx _ rfl)⟩
  ·rw [if_neg hm]
   exact blank_ok w
theorem modA_in (a : Int) : 0 ≤ modA a ∧ modA a ≤ 255 := by unfold modA; omega
theorem ofS_ok (rows : List SR) (w h ar ac a : Int) (hx : ∀ y ∈ rows, ∀ c ∈ y.1, -2147483648 ≤ c.1 ∧ c.1 ≤ 2147483647) : Ok (ofS rows w h ar ac a) := by
 have hw : 2 ≤ clampN w 2 300 ∧ clampN w 2 300 ≤ 300 := by unfold clampN; omega
 have hh : 1 ≤ clampN h 1 100 ∧ clampN h 1 100 ≤ 100 := by unfold clampN; omega
 refine ⟨hw.1, hw.2, ?_, ?_, ?_, ?_, (modA_in a).1, (modA_in a).2, fun x hm => ?_⟩
 ·show 1 ≤ (rowsOfS _ _ _).length; rw [rowsOfS_length]; exact hh.1
 ·show (rowsOfS _ _ _).length ≤ 100; rw [rowsOfS_length]; exact hh.2
 ·show clampN ar 0 _ < (rowsOfS _ _ _).length
  rw [rowsOfS_length]
  generalize clampN h 1 100 = k at hh
  unfold clampN
  omega
 ·show clampN ac 0 _ ≤ clampN w 2 300
  generalize clampN w 2 300 = k at hw
  unfold clampN
  omega
 ·obtain ⟨i, _, rfl⟩ := List.mem_map.1 (show x ∈ (List.range _).map _ from hm)
  exact fitS_ok (by show 0 < clampN w 2 300; omega) (fun y e => hx y (List.mem_of_getElem? e))
end Sc
namespace Sc
open Rw
theorem rowIn_own {W : World} {B g n : Nat} {l : List Cel} (h : HasC W B (.slice (some ⟨g, 0, none⟩) n n) l) (hn : 0 < n) : RowIn' W g l [] ∧ B ≤ g ∧ l.length = n := by
 have hl : l.length = n := by
  obtain ⟨_, _, e, _⟩ := HasC.shape h
  injection e with _ e _
  exact e.symm
 rcases h.2 with ⟨e, h0⟩ | ⟨g', cap, cur, e, e2, e3, e4, e5, e6, e7⟩
 ·omega
 ·injection e with ea eb ec
  injection ea with ea
  injection ea with ea
  subst ea ec
  refine ⟨⟨?_⟩, e2, hl⟩
  rw [e3, List.append_nil]
  have : cur = (flat l).toArray := by
   apply Array.ext'
   show cur.toList = flat l
   rw [← e7]
   exact (List.take_of_length_le (by rw [Array.length_toList, e6]; omega)).symm
  rw [this]
theorem putO_fit (wn : Nat) (l : List Cel) : putO (blanksL wn) 0 (l.take wn) = cutL wn l := by
 unfold putO cutL
 rw [List.take_zero, List.nil_append, Nat.zero_add, List.length_take]
 congr 1
 unfold blanksL
 rw [List.drop_replicate]
 congr 1
 omega
theorem run_copy_nil {P : Program} (w : World) (dT sT ty elem : TypeId) (i : TypeInfo) (a : Addr) (dLen dCap sCap : Nat) (hu : P.underlying dT = some (.slice elem)) (hi : P.info? elem = some i) :
  (Builtin.copy_ #[dT, sT] ty #[.slice (some a) dLen dCap, .slice none 0 sCap]).run P w = .ok (goInt 0) w := by
 have e : (storeCells a []).run P w = .ok () w := rfl
 simp [Builtin.copy_, run_underlying hu, Builtin.lenOf, Builtin.firstCells, sizeOf, typeInfo, hi, e]
def FitPost (wn : Nat) (wr : Bool) (l : List Cel) (w : World) (e : Ending) (w' : World) : Prop :=
 ∃ g, e = .returned (.agg #[.slice (some ⟨g, 0, none⟩) wn wn, .bool wr]) ∧ HasC w' w.heap.size (.slice (some ⟨g, 0, none⟩) wn wn) l ∧ Below w.heap.size w w'
theorem fitted_walk (A : Option Addr) (n c : Nat) (wrap : Bool) (l : List Cel) (wn : Nat) (w : World) (hs : Spans w) (hl : ∀ c ∈ l, -2147483648 ≤ c.1 ∧ c.1 ≤ 2147483647) (hq : Sq w w.heap.size 3 n A (flat l)) (w2 : 2 ≤ wn) (w3 : wn ≤ 300) :
  Calls Tryz.prog 58 #[rowV A n c wrap, .int .i64 (wn : Int)] w fun e w' => FitPost wn (fitS wn (some (l, wrap))).2 (fitS wn (some (l, wrap))).1 w e w' := by
 obtain ⟨i0, hi0, hz0, hz1, hz2⟩ := info_parts infoCell
 have hbl : blankN (wn : Int) = wn := by unfold blankN; omega
 have BK := Lib.hid (fun W : World => rowBlank_walk (wn : Int) W)
 rw [hbl] at BK
 have MAY := Lib.hid (fun (W : World) (hb : Below w.heap.size w W) => packMay_any A n c wrap l W (hs.below hb hs.size) hl ((hq.below hb).up hb.size))
 have Q := Lib.hid hq
 obtain ⟨b2, hb2⟩ : ∃ b2, w.heap.size = b2 := ⟨_, rfl⟩
 obtain ⟨w1, hw1⟩ : ∃ w1, (w.alloc (.cells #[.slice A n c, .bool wrap] 58)).alloc (.cells #[.slice none 0 0, .bool false] 58) = w1 := ⟨_, rfl⟩
 have B1 := Lib.hid (show Below w.heap.size w w1 from by rw [← hw1]; exact ((Below.refl _ _).alloc (Nat.le_refl _) _).alloc (by simp) _)
 have R2 := Lib.hid (show RowAt w1 b2 (.slice A n c) wrap from by
  rw [← hw1, ← hb2]
  exact (Below.heap_alloc _ _ _ (by simp)).trans (heap_alloc_new w _))
 have R4 := Lib.hid (show RowAt w1 (b2 + 1) (.slice none 0 0) false from by
  have := heap_alloc_new (w.alloc (.cells #[.slice A n c, .bool wrap] 58)) (.cells #[.slice none 0 0, .bool false] 58)
  rw [hw1, show (w.alloc (.cells #[.slice A n c, .bool wrap] 58)).heap.size = b2 + 1 by simp [hb2]] at this
  exact this)
 have Z1 := Lib.hid (show w1.heap.size = b2 + 2 from by rw [← hw1, ← hb2]; simp)
 have HB := Lib.hid hb2
 have HBK := Lib.hid hb2
 have HW := Lib.hid hw1
 clear hs hl hq hb2 hw1 hbl
 go_enter Tryz.func58, Tryz.ntmps58
 go_wp2_with fail
 rw [HW.out, HB.out]
 clear HW HB
 refine (BK.out w1).mono ?_
 rintro e wa ⟨g, rfl, hc, ba⟩
 obtain ⟨ri, hgB, _⟩ := rowIn_own hc (by omega)
 obtain ⟨b5, hb5⟩ : ∃ b5, wa.heap.size = b5 := ⟨_, rfl⟩
 obtain ⟨wb, hwb⟩ : ∃ wb, wa.alloc (.cells #[.slice (some ⟨g, 0, none⟩) wn wn, .bool false] 58) = wb := ⟨_, rfl⟩
 have bb : Below wa.heap.size wa wb := by rw [← hwb]; exact (Below.refl _ _).alloc (Nat.le_refl _) _
 have z1 := Z1.out
 have za := ba.size
 have r5 : RowAt wb b5 (.slice (some ⟨g, 0, none⟩) wn wn) false := by rw [← hwb, ← hb5]; exact heap_alloc_new wa _
 have r2 : RowAt wb b2 (.slice A n c) wrap := (bb.block b2 (by omega)).trans ((ba.block b2 (by omega)).trans R2.out)
 have r4 : RowAt wb (b2 + 1) (.slice none 0 0) false := (bb.block _ (by omega)).trans ((ba.block _ (by omega)).trans R4.out)
 have RI := Lib.hid (show RowIn' wb g (blanksL wn) [] from ri.below bb)
 have BB := Lib.hid ((B1.out.trans (ba.mono B1.out.size)).trans (bb.mono (by have := B1.out.size; omega)))
 have ORD := Lib.hid (show b2 + 2 ≤ g ∧ g < b5 ∧ b2 + 2 ≤ b5 ∧ b5 < wb.heap.size from ⟨by omega, by rw [← hb5]; exact ri.lt, by omega, r5.lt⟩)
 have R2b := Lib.hid r2
 have R4b := Lib.hid r4
 have R5b := Lib.hid r5
 have q2 : wb.cell? ⟨b2, 0, none⟩ = some (.slice A n c) := r2.get 0
 have q2' : wb.cell? ⟨b2, 1, none⟩ = some (.bool wrap) := r2.get 1
 have HB5 := Lib.hid hb5
 have HWB := Lib.hid hwb
 clear hb5 hwb bb ba r2 r4 r5 ri hc hgB za z1 BK B1 R2 R4 Z1
 go_upto_region 2 with fail
 rw [HB5.out]
 first
  | rw [HWB.out]
  | (change Code.wp _ _ _ _ (wa.alloc (.cells #[.slice (some ⟨g, 0, none⟩) wn wn, .bool false] 58)); rw [HWB.out])
 clear HB5 HWB
 have MW := Lib.hid (MAY.out wb BB.out)
 obtain ⟨mb, hmb⟩ : ∃ mb, mayL l = mb := ⟨_, rfl⟩
 rw [hmb] at MW
 have MB := Lib.hid hmb
 clear hmb
 go_wp2_with fail
 refine MW.out.mono ?_
 rintro e wc ⟨rfl, bc⟩
 have B3 := Lib.hid (BB.out.trans (bc.mono BB.out.size))
 have ord := ORD.out
 have R2c := Lib.hid (show RowAt wc b2 (.slice A n c) wrap from (bc.block b2 (by omega)).trans R2b.out)
 have R4c := Lib.hid (show RowAt wc (b2 + 1) (.slice none 0 0) false from (bc.block _ (by omega)).trans R4b.out)
 have R5c := Lib.hid (show RowAt wc b5 (.slice (some ⟨g, 0, none⟩) wn wn) false from (bc.block _ (by omega)).trans R5b.out)
 have RIc := Lib.hid (RI.out.below bc)
 have p20 : wc.cell? ⟨b2, 0, none⟩ = some (.slice A n c) := R2c.out.get 0
 have p21 : wc.cell? ⟨b2, 1, none⟩ = some (.bool wrap) := R2c.out.get 1
 have p50 : wc.cell? ⟨b5, 0, none⟩ = some (.slice (some ⟨g, 0, none⟩) wn wn) := R5c.out.get 0
 have p51 : wc.cell? ⟨b5, 1, none⟩ = some (.bool false) := R5c.out.get 1
 have p40 : wc.cell? ⟨b2 + 1, 0, none⟩ = some (.slice none 0 0) := R4c.out.get 0
 have p41 : wc.cell? ⟨b2 + 1, 1, none⟩ = some (.bool false) := R4c.out.get 1
 clear ord bc BB MW MAY RI R2b R4b R5b q2 q2'
 have f40 := R4c.out.free 0
 have f41 := R4c.out.free 1
 cases mb
 ·have FS := Lib.hid (show fitS wn (some (l, wrap)) = (blanksL wn, false) from by
   show (if mayL l then (fitL wn l, wrap) else (blanksL wn, false)) = _
   rw [MB.out]; rfl)
  have RF := Lib.hid (RowAt.put2 R4c.out (.slice (some ⟨g, 0, none⟩) wn wn) false)
  have OF := (OnlyRow.cell (b2 + 1) 0 wc (.slice (some ⟨g, 0, none⟩) wn wn)).trans (OnlyRow.cell (b2 + 1) 1 _ (.bool false))
  have ord := ORD.out
  have hbk := HBK.out
  have HF := Lib.hid (hasC_full (base := w.heap.size) (n := wn) (show RowIn' _ g (blanksL wn) [] from ⟨(OF.block g (by omega)).trans RIc.out.heap⟩) (by omega) (blanksL_length wn) (by omega))
  have BF := Lib.hid (B3.out.trans ((Turned.ofOnly OF).toBelow B3.out.size (fun q hq e => by omega)))
  clear OF ord hbk HBK ORD RIc R2c R5c
  go_wp2
  generalize (wc.setCell ⟨b2 + 1, 0, none⟩ (.slice (some ⟨g, 0, none⟩) wn wn)).setCell ⟨b2 + 1, 1, none⟩ (.bool false) = wz at RF HF BF ⊢
  have e0 : wz.cell? ⟨b2 + 1, 0, none⟩ = some (.slice (some ⟨g, 0, none⟩) wn wn) := RF.out.get 0
  have e1 : wz.cell? ⟨b2 + 1, 1, none⟩ = some (.bool false) := RF.out.get 1
  exact bodyPost_ret (v := .agg #[.slice (some ⟨g, 0, none⟩) wn wn, .bool false]) (by simp [results, Tryz.results58, go_sem, e0, e1]) rfl (by rw [FS.out]; exact ⟨g, rfl, HF.out, BF.out⟩)
 ·have FS := Lib.hid (show fitS wn (some (l, wrap)) = (fitL wn l, wrap) from by
   show (if mayL l then (fitL wn l, wrap) else (blanksL wn, false)) = _
   rw [MB.out]; rfl)
  have ord := ORD.out
  have hbk := HBK.out
  have hln : l.length = n := by have := Q.out.len; rw [flat_length] at this; omega
  obtain ⟨wd, hcp, rid, od⟩ : ∃ wd, (Builtin.copy_ #[51, 51] 3 #[.slice (some ⟨g, 0, none⟩) wn wn, .slice A n c]).run Tryz.prog wc = .ok (goInt (Nat.min n wn)) wd ∧ RowIn' wd g (cutL wn l) [] ∧ OnlyRow g wc wd := by
   have hR := RIc.out.copied (k := 0) (L := l.take wn) (by rw [blanksL_length, List.length_take]; omega)
   rw [putO_fit, Nat.zero_mul] at hR
   rcases A with _ | a
   ·have h0 : n = 0 := by
     by_cases h : 0 < n
     ·obtain ⟨_, _, e, _⟩ := Q.out.spot h
      cases e
     ·omega
    subst h0
    have hl0 : l = [] := List.length_eq_zero_iff.1 hln
    refine ⟨wc, by rw [run_copy_nil wc _ _ _ _ i0 _ _ _ _ Tryz.underlying51 hi0]; simp, ?_, OnlyRow.refl _ _⟩
    have e : cutL wn [] = blanksL wn := by unfold cutL; simp
    rw [hl0, e]
    exact RIc.out
   ·refine ⟨_, run_copy_three (P := Tryz.prog) wc 51 51 3 62 i0 g 0 wn wn a n c _ 62 (flat (l.take wn)) Tryz.underlying51 hi0 hz1 RIc.out.heap ?_ ?_ ?_ (flat_one _), hR, onlyRow g _ _⟩
    ·rw [flat_length, List.length_take, hln]
     congr 1
     exact Nat.min_comm _ _
    ·intro j v hj
     have hlt := (List.getElem?_eq_some_iff.1 hj).1
     rw [flat_length, List.length_take] at hlt
     obtain ⟨b, off, e, hb, hcell⟩ := (Q.out.below B3.out).spot (by omega)
     injection e with e
     subst e
     have e2 : (⟨b, off, none⟩ : Addr).add j = ⟨b, off + j, none⟩ := by unfold Addr.add; split <;> simp_all
     rw [e2]
     refine hcell j v ?_
     rw [flat_take] at hj
     rw [List.getElem?_take] at hj
     split at hj
     ·exact hj
     ·cases hj
    ·have h1 := flat_length (l.take wn)
     have h2 := flat_length (blanksL wn)
     rw [List.length_take] at h1
     rw [blanksL_length] at h2
     simp
     omega
  have R2d := Lib.hid (show RowAt wd b2 (.slice A n c) wrap from (od.block b2 (by omega)).trans R2c.out)
  have R4d := Lib.hid (show RowAt wd (b2 + 1) (.slice none 0 0) false from (od.block _ (by omega)).trans R4c.out)
  have R5d := Lib.hid (show RowAt wd b5 (.slice (some ⟨g, 0, none⟩) wn wn) false from (od.block _ (by omega)).trans R5c.out)
  have Bd := Lib.hid (B3.out.trans ((Turned.ofOnly od).toBelow B3.out.size (fun q hq e => by omega)))
  have u21 : wd.cell? ⟨b2, 1, none⟩ = some (.bool wrap) := R2d.out.get 1
  have u51 : wd.cell? ⟨b5, 1, none⟩ = some (.bool false) := R5d.out.get 1
  have v51 := R5d.out.free 1
  obtain ⟨we, hwe⟩ : ∃ we, wd.setCell ⟨b5, 1, none⟩ (.bool wrap) = we := ⟨_, rfl⟩
  have o5 := OnlyRow.cell b5 1 wd (.bool wrap)
  rw [hwe] at o5
  have R5e := Lib.hid (show RowAt we b5 (.slice (some ⟨g, 0, none⟩) wn wn) wrap from by rw [← hwe]; exact heap_setCell_same _ b5 1 _ _ _ R5d.out)
  have R4e := Lib.hid (show RowAt we (b2 + 1) (.slice none 0 0) false from (o5.block _ (by omega)).trans R4d.out)
  have RIe := Lib.hid (show RowIn' we g (cutL wn l) [] from ⟨(o5.block _ (by omega)).trans rid.heap⟩)
  have Be := Lib.hid (Bd.out.trans ((Turned.ofOnly o5).toBelow Bd.out.size (fun q hq e => by omega)))
  have HWE := Lib.hid hwe
  have hgb : g < b5 := ord.2.1
  have hbg : b2 + 2 ≤ g := ord.1
  clear hwe o5 od rid hbk hln RIc R2c R4c R5c B3 Q Bd R2d R4d R5d ord p40 p41 f40 f41
  go_upto_region 6 with fail
  rw [HWE.out]
  clear HWE u21 u51 v51 p20 p21 p50 p51 hcp
  obtain ⟨m, hm⟩ : ∃ m, wn = m + 1 := ⟨wn - 1, by omega⟩
  obtain ⟨x, hx⟩ : ∃ x, (cAt (cutL wn l) m).2.1 = x := ⟨_, rfl⟩
  have hml : m < (cutL wn l).length := by rw [cutL_length]; omega
  have c1 : we.cell? ⟨g, m * 3 + 1, none⟩ = some (.int .i64 x) := by rw [← hx]; exact (RIe.out.cell hml).2.1
  have HX := Lib.hid hx
  have HM := Lib.hid hm
  have ML := Lib.hid hml
  have hm1 : (wn : Int) - 1 = (m : Int) := by omega
  have hm0 : (0 : Int) ≤ (m : Int) := by omega
  have hmn : (m : Int) < (wn : Int) := by omega
  have hwm : IntKind.i64.wrap (m : Int) = (m : Int) := IntWalk.i64_in _ (by omega)
  have e50 : we.cell? ⟨b5, 0, none⟩ = some (.slice (some ⟨g, 0, none⟩) wn wn) := R5e.out.get 0
  have e51 : we.cell? ⟨b5, 1, none⟩ = some (.bool wrap) := R5e.out.get 1
  clear hx hm hml
  go_upto_if 27 with fail
  go_cut [5] from 20 to 33 (fun s5 wx => s5 = .pointer (some ⟨b5, 0, none⟩) ∧ Hid (RowIn' wx g (fitL wn l) []) ∧ Hid (RowAt wx b5 (.slice (some ⟨g, 0, none⟩) wn wn) wrap) ∧ Hid (RowAt wx (b2 + 1) (.slice none 0 0) false) ∧ Hid (Below w.heap.size w wx))
  case first =>
   have hmm : wn - 1 = m := by have := HM.out; omega
   by_cases h2 : x = 2
   ·have FE := Lib.hid (show fitL wn l = (cutL wn l).set m (32, 1, 0) from by rw [fitL_eq, hmm, HX.out, if_pos h2])
    have BW := Lib.hid (blank_walk we.drew)
    subst h2
    clear hmm
    go_wp2_with fail
    go_region_with (go_at_call 108; refine BW.out.mono ?_; rintro e wf ⟨rfl, bf⟩; (have Rf := Lib.hid (RIe.out.below ((Below.refl we.heap.size we).drew.trans bf))); (have y0 := (Rf.out.cell ML.out).1); (have y1 := (Rf.out.cell ML.out).2.1); (have y2 := (Rf.out.cell ML.out).2.2); (have f0 := Rf.out.free (m * 3)); (have f1 := Rf.out.free (m * 3 + 1)); (have f2 := Rf.out.free (m * 3 + 2)); (have g50 : wf.cell? ⟨b5, 0, none⟩ = some (.slice (some ⟨g, 0, none⟩) wn wn) := ((show RowAt wf b5 (.slice (some ⟨g, 0, none⟩) wn wn) wrap from (((Below.refl we.heap.size we).drew.trans bf).block b5 R5e.out.lt).trans R5e.out).get 0)); (have BF := Lib.hid ((Below.refl we.heap.size we).drew.trans bf)); clear bf)
    all_goals
     have RG := Lib.hid (show RowIn' _ g (fitL wn l) [] from by rw [FE.out]; exact Rf.out.set ML.out 32 1 0)
     have OG := RowIn'.only wf g m (.int .i32 32) (.int .i64 1) (.int .i64 0)
     have R5g := Lib.hid (show RowAt _ b5 (.slice (some ⟨g, 0, none⟩) wn wn) wrap from (OG.block b5 (by omega)).trans ((BF.out.block b5 R5e.out.lt).trans R5e.out))
     have R4g := Lib.hid (show RowAt _ (b2 + 1) (.slice none 0 0) false from (OG.block _ (by omega)).trans ((BF.out.block _ R4e.out.lt).trans R4e.out))
     have hbk := HBK.out
     have Bg := Lib.hid ((Be.out.trans (BF.out.mono Be.out.size)).trans ((Turned.ofOnly OG).toBelow (Be.out.trans (BF.out.mono Be.out.size)).size (fun q hq e => by omega)))
     clear OG hbk
     go_wp2_with fail
     go_meet
     case rel => exact ⟨rfl, RG, R5g, R4g, Bg⟩
   ·have hxb : (x == 2) = false := by simp; omega
    have FE := Lib.hid (show fitL wn l = cutL wn l from by rw [fitL_eq, hmm, HX.out, if_neg h2])
    clear hmm
    go_wp2_with fail
    go_meet
    case rel => exact ⟨rfl, by rw [FE.out]; exact RIe, R5e, R4e, Be⟩
  case rest =>
   obtain ⟨rfl, RX, R5x, R4x, BX⟩ := hcut
   have z40 : wc.cell? ⟨b2 + 1, 0, none⟩ = some (.slice none 0 0) := R4x.out.get 0
   have z41 : wc.cell? ⟨b2 + 1, 1, none⟩ = some (.bool false) := R4x.out.get 1
   have z50 : wc.cell? ⟨b5, 0, none⟩ = some (.slice (some ⟨g, 0, none⟩) wn wn) := R5x.out.get 0
   have z51 : wc.cell? ⟨b5, 1, none⟩ = some (.bool wrap) := R5x.out.get 1
   have f40 := R4x.out.free 0
   have f41 := R4x.out.free 1
   have RF := Lib.hid (RowAt.put2 R4x.out (.slice (some ⟨g, 0, none⟩) wn wn) wrap)
   have OF := (OnlyRow.cell (b2 + 1) 0 wc (.slice (some ⟨g, 0, none⟩) wn wn)).trans (OnlyRow.cell (b2 + 1) 1 _ (.bool wrap))
   have hbk := HBK.out
   have HF := Lib.hid (hasC_full (base := w.heap.size) (n := wn) (show RowIn' _ g (fitL wn l) [] from ⟨(OF.block g (by omega)).trans RX.out.heap⟩) (by omega) (fitL_length wn l) (by omega))
   have BF := Lib.hid (BX.out.trans ((Turned.ofOnly OF).toBelow BX.out.size (fun q hq e => by omega)))
   clear OF hbk HBK ORD RX R5x R4x BX c1 e50 e51 RIe R5e R4e Be
   go_wp2
   generalize (wc.setCell ⟨b2 + 1, 0, none⟩ (.slice (some ⟨g, 0, none⟩) wn wn)).setCell ⟨b2 + 1, 1, none⟩ (.bool wrap) = wz at RF HF BF ⊢
   have e0 : wz.cell? ⟨b2 + 1, 0, none⟩ = some (.slice (some ⟨g, 0, none⟩) wn wn) := RF.out.get 0
   have e1 : wz.cell? ⟨b2 + 1, 1, none⟩ = some (.bool wrap) := RF.out.get 1
   exact bodyPost_ret (v := .agg #[.slice (some ⟨g, 0, none⟩) wn wn, .bool wrap]) (by simp [results, Tryz.results58, go_sem, e0, e1]) rfl (by rw [FS.out]; exact ⟨g, rfl, HF.out, BF.out⟩)
end Sc
namespace Sc
open Rw
def ROf (s : Scr) (W : World) (e : Ending) (W' : World) : Prop :=
 ∃ p g cap tail xs, e = .returned (ptrS p) ∧ RAt W' p g cap tail s xs ∧ W.heap.size ≤ p ∧ W.heap.size ≤ g ∧ Below W.heap.size W W'
def ncells (wd h : Nat) (v : Value) : Array Value := #[.int .i64 (wd : Int), .int .i64 (h : Int), v, .int .i64 0, .int .i64 0, .int .i64 0]
structure RNew (w0 W : World) (p wd h : Nat) (v : Value) (k : Nat) (ys : List RowIn) : Prop where
 scr : W.heap[p]? = some (.cells (ncells wd h v) 97 (0, 0))
 p0 : w0.heap.size ≤ p
 rows : RowsIn W w0.heap.size v ys
 len : ys.length = k
 same : ys.map sr = List.replicate k (blanksL wd, false)
 old : Below w0.heap.size w0 W
theorem rnew_walk (wd h : Int) (w : World) : Calls Tryz.prog 59 #[.int .i64 wd, .int .i64 h] w fun e w' => ROf (newS wd h) w e w' := by
 obtain ⟨i0, hi, hz0, hz1, hz2⟩ := info_parts infoRowR
 obtain ⟨wn, hwn⟩ : ∃ wn : Nat, min (max wd 2) 300 = (wn : Int) := ⟨(min (max wd 2) 300).toNat, by omega⟩
 obtain ⟨hn, hhn⟩ : ∃ hn : Nat, min (max h 1) 100 = (hn : Int) := ⟨(min (max h 1) 100).toNat, by omega⟩
 have w2 : 2 ≤ wn ∧ wn ≤ 300 := by omega
 have h1 : 1 ≤ hn ∧ hn ≤ 100 := by omega
 have eN : newS wd h = ⟨wn, List.replicate hn (blanksL wn, false), 0, 0, 0⟩ := by
  unfold newS
  rw [hwn, hhn]
  rfl
 have hOk := newS_ok wd h
 rw [eN] at hOk ⊢
 have OKN := Lib.hid hOk
 obtain ⟨p, hp⟩ : ∃ p, w.heap.size = p := ⟨_, rfl⟩
 obtain ⟨w1, hw1⟩ : ∃ w1, w.alloc (.cells #[.int .i64 (wn : Int), .int .i64 (hn : Int), .slice none 0 0, .int .i64 0, .int .i64 0, .int .i64 0] 97) = w1 := ⟨_, rfl⟩
 have N1 := Lib.hid (show RNew w w1 p wn hn (.slice none 0 0) 0 [] from by
  rw [← hw1]
  exact ⟨by rw [← hp]; exact heap_alloc_new w _, by omega, RowsIn.nothing _ _, rfl, rfl, (Below.refl _ _).alloc (Nat.le_refl _) _⟩)
 have HP := Lib.hid hp
 have HW := Lib.hid hw1
 have hbl : blankN (wn : Int) = wn := by unfold blankN; omega
 have BLK := Lib.hid (fun W : World => (show Calls Tryz.prog 109 #[.int .i64 (wn : Int)] W fun e w' => OverPost false (blanksL wn) W e w' from by
  have hb := refBlankRow_walk (wn : Int) W
  rw [hbl] at hb
  exact hb))
 clear hp hw1 eN hOk hbl
 go_enter Tryz.func59, Tryz.ntmps59
 go_wp2_with fail
 rw [HP.out]
 first
  | rw [HW.out]
  | (change Code.wp _ _ _ _ (w.alloc (.cells #[.int .i64 (wn : Int), .int .i64 (hn : Int), .slice none 0 0, .int .i64 0, .int .i64 0, .int .i64 0] 97)); rw [HW.out])
 clear HW hwn hhn
 go_loopw [6] (fun v6 wr => ∃ (k : Nat) (v : Value) (ys : List RowIn), v6 = .int .i64 (k : Int) ∧ k ≤ hn ∧ Hid (RNew w wr p wn hn v k ys)) (fun v6 _ => hn - (intOf v6).toNat)
 case atStart => exact ⟨0, _, _, rfl, Nat.zero_le _, N1⟩
 case round =>
  obtain ⟨k, v, ys, rfl, hk, NR⟩ := hrel
  clear N1
  have k1 : wr.cell? ⟨p, 1, none⟩ = some (.int .i64 (hn : Int)) := cell_of_row _ p 1 _ _ (0, 0) NR.out.scr
  by_cases hlt : k < hn
  ·have hlt' : (k : Int) < (hn : Int) := by omega
   have hinc : IntKind.i64.wrap ((k : Int) + 1) = (k : Int) + 1 := IntWalk.i64_in _ (by omega)
   go_upto_region 5 with fail
   have k0 : wr.cell? ⟨p, 0, none⟩ = some (.int .i64 (wn : Int)) := cell_of_row _ p 0 _ _ (0, 0) NR.out.scr
   have k2 : wr.cell? ⟨p, 2, none⟩ = some v := cell_of_row _ p 2 _ _ (0, 0) NR.out.scr
   have hpl : p < wr.heap.size := (Array.getElem?_eq_some_iff.1 NR.out.scr).1
   have F32 : k + 1 ≤ maxLen ∧ (k + 1) * 32 ≤ 140737488355328 := by unfold maxLen; omega
   have hsz := NR.out.old.size
   obtain ⟨A0, c0, rfl, _⟩ := NR.out.rows.shape
   rw [NR.out.len] at NR k2
   go_region_law (first
    | (go_simp; go_at_call 109; refine (BLK.out _).mono ?_; rintro e w3 ⟨A7, n7, c7, rfl, hb7, b3'⟩; (have b3 : Below wr.heap.size wr w3 := ((Below.refl wr.heap.size wr).drew).trans b3'); (have HB3 := Lib.hid (HasC.mono hb7 (Nat.zero_le _))); (have R3 := Lib.hid (NR.out.rows.below b3)); (have P3 := Lib.hid ((b3.block p hpl).trans NR.out.scr)); (have B3 := Lib.hid (NR.out.old.trans (b3.mono hsz))); (have z3 : w3.cell? ⟨p, 2, none⟩ = some (.slice A0 k c0) := cell_of_row _ p 2 _ _ (0, 0) P3.out); (have z30 : w3.cell? ⟨p, 0, none⟩ = some (.int .i64 (wn : Int)) := cell_of_row _ p 0 _ _ (0, 0) P3.out); (have hpl3 : p < w3.heap.size := (Array.getElem?_eq_some_iff.1 P3.out).1); (have ba := (Below.refl w3.heap.size w3).alloc (Nat.le_refl _) (.cells #[.slice A7 n7 c7, .bool false] 58)); (have z4 : (w3.alloc (.cells #[.slice A7 n7 c7, .bool false] 58)).cell? ⟨p, 2, none⟩ = some (.slice A0 k c0) := (ba.cell (p := ⟨p, 2, none⟩) hpl3).trans z3); (have P4 := Lib.hid ((ba.block p hpl3).trans P3.out)); (have HB4 := Lib.hid (HasC.keep (w' := w3.alloc (.cells #[.slice A7 n7 c7, .bool false] 58)) HB3.out (fun i e => ba.block i (HasC.lt HB3.out i e).2))); (have R4 := Lib.hid (R3.out.below ba)); (have B4 := Lib.hid (B3.out.trans (ba.mono B3.out.size))); (have SQ := Lib.hid (show Sq (w3.alloc (.cells #[.slice A7 n7 c7, .bool false] 58)) (w3.alloc (.cells #[.slice A7 n7 c7, .bool false] 58)).heap.size 2 1 (some ⟨w3.heap.size, 0, none⟩) [.slice A7 n7 c7, .bool false] from ⟨rfl, fun _ => ⟨w3.heap.size, 0, rfl, by simp, fun j u hu => (cell_of_row _ _ _ _ _ (0, 0) (heap_alloc_new w3 _)).trans (by rw [Nat.zero_add, List.getElem?_toArray]; exact hu)⟩⟩)); (have OWN := Lib.hid (show World.ownsRow (w3.alloc (.cells #[.slice A7 n7 c7, .bool false] 58)) w.heap.size 58 2 (.slice A0 k c0) k (ys.flatMap RowIn.vals) from by have h := R4.out.own; rwa [NR.out.len] at h)); (have BAS := Lib.hid (show w.heap.size ≤ (w3.alloc (.cells #[.slice A7 n7 c7, .bool false] 58)).heap.size from B4.out.size)); clear ba b3 b3' hb7 HB3 R3 P3 B3)
    | (refine step_app rfl _ _ 22 rfl w.heap.size 58 i0 (.agg #[.slice none 0 0, .bool false]) 2 32 Tryz.underlying22 hi hz0 hz1 hz2 rfl (by decide) (.slice A0 k c0) k (ys.flatMap RowIn.vals) rfl OWN.out (some ⟨w3.heap.size, 0, none⟩) 1 1 [.slice A7 n7 c7, .bool false] rfl (w3.alloc (.cells #[.slice A7 n7 c7, .bool false] 58)).heap.size SQ.out (by simp [Value.oneCell']) F32.1 F32.2 BAS.out ?_; intro A' c' w5 hown hg _; (have hne : ∀ j, (Value.slice A0 k c0).ownBlock = some j → j ≠ p := fun j e e2 => (own_typedR OWN.out j e).apart (show Typed _ 97 p from ⟨_, _, P4.out⟩) (by decide) e2); (have hown' := Lib.hid hown); (have hg' := Lib.hid hg); (have P5 := Lib.hid ((hg.block p (Array.getElem?_eq_some_iff.1 P4.out).1 (fun e => hne p e.symm rfl)).trans P4.out)); (have z5 : w5.cell? ⟨p, 2, none⟩ = some (.slice A0 k c0) := cell_of_row _ p 2 _ _ (0, 0) P5.out); (have f5 : w5.frozen? ⟨p, 2, none⟩ = false := frozen_of_row _ p _ _ _ P5.out); clear hown hg hne))
   all_goals
    have NX := Lib.hid (show RNew w (w5.setCell ⟨p, 2, none⟩ (.slice A' (k + 1) c')) p wn hn (.slice A' (k + 1) c') (k + 1) (ys ++ [⟨A7, n7, c7, false, blanksL wn⟩]) from by
     have hl : ys.length = k := NR.out.len
     have R5 : RowsIn w5 w.heap.size (.slice A' (k + 1) c') (ys ++ [⟨A7, n7, c7, false, blanksL wn⟩]) := R4.out.snoc hg'.out (by rw [hl]; exact hown'.out) HB4.out (blanks_signs wn)
     have ht := Turned.ofCell p 2 w5 (.slice A' (k + 1) c')
     have hty : Typed w5 97 p := ⟨_, _, P5.out⟩
     have bl4 := NR.out.p0
     refine ⟨heap_setCell_same w5 p 2 _ _ _ P5.out, NR.out.p0, R5.turned ht (fun j e e2 => (R5.typed j e).apart hty (by decide) e2) (fun j e t => by subst e; exact hty.apart t (by decide) rfl), by rw [List.length_append, hl]; rfl, by rw [List.map_append, NR.out.same, List.replicate_succ']; rfl, ?_⟩
     have b5 := B4.out.trans ((Turned.ofGrown hg'.out).toBelow B4.out.size (fun j hj m => by have := (World.ownsRow.lt OWN.out j m).1; omega))
     exact b5.setCell (p := ⟨p, 2, none⟩) NR.out.p0 _)
    clear OWN SQ BAS R4 HB4 P4 B4 P5 hown' hg' NR
    go_wp2
    go_roundw
    case rel => exact ⟨k + 1, _, _, by first | rfl | (congr 1; done) | (congr 1; omega), by omega, NX⟩
    case measure => first | (simp [intOf]; done) | (simp [intOf]; omega)
  ·obtain rfl : k = hn := by omega
   have hlt' : ¬ (k : Int) < (k : Int) := by omega
   have D := Lib.hid (show ROf ⟨wn, List.replicate k (blanksL wn, false), 0, 0, 0⟩ w (.returned (ptrS p)) wr from by
    have N := NR.out
    obtain ⟨A, c, rfl, hc⟩ := N.rows.shape
    rw [N.len] at hc
    have ho := N.rows.own
    rw [N.len] at ho
    obtain ⟨g, tl, rfl, hg, _, hgr⟩ := own_room ho (by omega)
    have hs := N.scr
    rw [N.len] at hs
    refine ⟨p, g, c, tl, ys, rfl, ⟨OKN.out, N.same, ?_, hgr, by show (List.replicate k _).length ≤ c; rw [List.length_replicate]; exact hc, fun x hx => (N.rows.each x hx).1⟩, N.p0, hg, N.old⟩
    rw [hs]
    unfold rcells ncells
    simp only [List.length_replicate]
    rfl)
   clear NR
   go_wp2
   go_ret
   exact D.out
end Sc
