import Derived.Test.YtgcfpfhmjhkgnaaGreatDoorQEsc0
import Derived.WalkMore
set_option maxRecDepth 100000
set_option maxHeartbeats 3200000
namespace Go.Proofs.YtgcfpfhmjhkgnaaGreatDoor
open Go.ChangeShapes Go.WideShapes Go.ChangeAt Go.RowKit
namespace Esc
def atFour (w : World) (g : Nat) : Nat := match w.cell? ⟨g, 0, none⟩ with
 | some (.int _ x) => if x = 4 then 1 else 0
 | _ => 0
theorem gone {g : Nat} {v : Value} {st : St} {w w' : World} {v' : Value} (p : PAt w' g v' st) (o : OnlyRow g w w') : PutPost g v st none w (.returned (.slice none 0 0)) w' := ⟨_, v', rfl, rfl, p, (Turned.ofOnly o).mono fun _ _ e => .inl e⟩
theorem csi_walk (g : Nat) (v : Value) (t : List Int) (r : Int) (w : World) (h : PAt w g v (.csi t)) (ht : t.length ≤ 1000000) :
  Calls Tryz.prog 57 #[ptrP g, .int .i32 r] w fun e w' => PutPost g v (stepS (.csi t) r) (stepE (.csi t) r) w e w' := by
 have H := Lib.hid h
 by_cases h1 : 64 ≤ r ∧ r ≤ 126
 ·obtain ⟨ha, hb⟩ := h1
  have E := Lib.hid (endCsi_walk g v t r w h ht)
  have hs : stepS (.csi t) r = .rest := by simp only [stepS]; rw [if_pos ⟨ha, hb⟩]
  have he : stepE (.csi t) r = csiEv t r := by simp only [stepE]; rw [if_pos ⟨ha, hb⟩]
  rw [hs, he]
  clear h hs he
  go_enter Tryz.func57, Tryz.ntmps57
  go_wp2_with fail
  refine E.out.mono ?_
  rintro e w' hp
  obtain ⟨ev, v', rfl, q⟩ := hp
  have D := Lib.hid (show PutPost g v .rest (csiEv t r) w (.returned ev) w' from ⟨ev, v', rfl, q⟩)
  clear q E
  go_wp2
  go_ret
  exact D.out
 have he : stepE (.csi t) r = none := by simp only [stepE]; rw [if_neg h1]
 rw [he]
 have n1 : (decide (64 ≤ r) && decide (r ≤ 126)) = false := by
  rw [Bool.and_eq_false_iff, decide_eq_false_iff_not, decide_eq_false_iff_not]
  omega
 by_cases hk : okSign r = true
 ·have hr : r = 59 ∨ (48 ≤ r ∧ r ≤ 57) := by simp only [okSign, Bool.or_eq_true, Bool.and_eq_true, beq_iff_eq, decide_eq_true_eq] at hk; exact hk
  have hs : stepS (.csi t) r = .csi (t ++ [r]) := by simp only [stepS]; rw [if_neg h1, if_neg (by omega), if_neg (by omega)]
  rw [hs]
  have E := Lib.hid (number_walk g v t r w h hk ht)
  have n64 : ¬ 64 ≤ r := by omega
  clear h hs he h1 n1 hk
  rcases hr with rfl | ⟨r0, r9⟩
  ·go_enter Tryz.func57, Tryz.ntmps57
   go_wp2_with fail
   refine E.out.mono ?_
   rintro e w' ⟨⟨_, rfl⟩, p, o⟩
   have D := Lib.hid (gone (v := v) p o)
   clear p o E
   go_wp2
   go_ret
   exact D.out
  ·have n59 : (r == 59) = false := by simp; omega
   go_enter Tryz.func57, Tryz.ntmps57
   go_wp2_with fail
   refine E.out.mono ?_
   rintro e w' ⟨⟨_, rfl⟩, p, o⟩
   have D := Lib.hid (gone (v := v) p o)
   clear p o E
   go_wp2
   go_ret
   exact D.out
 have hk' : okSign r = false := by simpa using hk
 have n59 : r ≠ 59 := by rintro rfl; simp [okSign] at hk
 have nd : ¬ (48 ≤ r ∧ r ≤ 57) := fun e => hk (by simp [okSign, e])
 have b59 : (r == 59) = false := by simp; omega
 clear hk
 by_cases h27 : r = 27
 ·subst h27
  have hs : stepS (.csi t) 27 = .esc := rfl
  rw [hs]
  have E := Lib.hid (leave g v (.csi t) .esc w h trivial)
  clear h hs he h1 n1 n59 nd b59
  go_enter Tryz.func57, Tryz.ntmps57
  go_wp2_with fail
  refine E.out.mono ?_
  rintro e w' ⟨⟨_, rfl⟩, p, o⟩
  have D := Lib.hid (gone (v := v) p o)
  clear p o E
  go_wp2
  go_ret
  exact D.out
 have b27 : (r == 27) = false := by simp; omega
 by_cases h32 : r < 32
 ·have hs : stepS (.csi t) r = .rest := by simp only [stepS]; rw [if_neg h1, if_neg h27, if_pos h32]
  rw [hs]
  have E := Lib.hid (leave g v (.csi t) .rest w h trivial)
  have n64 : ¬ 64 ≤ r := by omega
  have n48 : ¬ 48 ≤ r := by omega
  clear h hs he h1 n1 n59 nd
  go_enter Tryz.func57, Tryz.ntmps57
  go_wp2_with fail
  refine E.out.mono ?_
  rintro e w' ⟨⟨_, rfl⟩, p, o⟩
  have D := Lib.hid (gone (v := v) p o)
  clear p o E
  go_wp2
  go_ret
  exact D.out
 ·have hs : stepS (.csi t) r = .csi (t ++ [r]) := by simp only [stepS]; rw [if_neg h1, if_neg h27, if_neg h32]
  rw [hs]
  obtain ⟨hm1, hm2⟩ := manyOf_bad t r hk'
  have c1 : w.cell? ⟨g, 1, none⟩ = some (.bool (bad t)) := h.cells.get 1
  have f1 := h.cells.free 1
  have D := Lib.hid (show PutPost g v (.csi (t ++ [r])) none w (.returned (.slice none 0 0)) (w.setCell ⟨g, 1, none⟩ (.bool true)) by
   refine gone (csiAt h (OnlyRow.cell g 1 w _) ?_) (OnlyRow.cell g 1 w _)
   rw [bad_snoc, hk', hm1]
   have e : pcells 2 (bad t || !false) (manyOf t : Nat) (argOf (t ++ [r])) v = pcells 2 true (manyOf t : Nat) (argOf t) v := by
    have ea : ∀ i, argOf (t ++ [r]) i = argOf t i := fun i => by unfold argOf; rw [hm2]
    rw [pcells_args ea, Bool.not_false, Bool.or_true]
   rw [e]
   exact h.cells.put 1 _)
  clear h hs he h1 n59 h27 hm1 hm2 hk'
  by_cases h64 : 64 ≤ r
  ·have n126 : ¬ r ≤ 126 := by intro e; simp [h64, e] at n1
   have n57 : ¬ r ≤ 57 := by omega
   have n48 : 48 ≤ r := by omega
   clear n1 nd
   go_enter Tryz.func57, Tryz.ntmps57
   go_wp2
   go_ret
   exact D.out
  ·by_cases h48 : 48 ≤ r
   ·have n57 : ¬ r ≤ 57 := by omega
    clear n1 nd
    go_enter Tryz.func57, Tryz.ntmps57
    go_wp2
    go_ret
    exact D.out
   ·clear n1 nd
    go_enter Tryz.func57, Tryz.ntmps57
    go_wp2
    go_ret
    exact D.out
theorem osc_walk (g : Nat) (v : Value) (t : List Int) (r : Int) (w : World) (h : PAt w g v (.osc t)) (hr0 : -2147483648 ≤ r) (hr1 : r ≤ 2147483647) :
  Calls Tryz.prog 58 #[ptrP g, .int .i32 r] w fun e w' => PutPost g v (stepS (.osc t) r) (stepE (.osc t) r) w e w' := by
 by_cases h7 : r = 7
 ·subst h7
  have E := Lib.hid (endOsc_walk g v _ t w (.inl rfl) h)
  have hs : stepS (.osc t) 7 = .rest := rfl
  have he : stepE (.osc t) 7 = oscEv t := rfl
  rw [hs, he]
  clear h hs he
  go_enter Tryz.func58, Tryz.ntmps58
  go_wp2_with fail
  refine E.out.mono ?_
  rintro e w' hp
  obtain ⟨ev, v', rfl, q⟩ := hp
  have D := Lib.hid (show PutPost g v .rest (oscEv t) w (.returned ev) w' from ⟨ev, v', rfl, q⟩)
  clear q E
  go_wp2
  go_ret
  exact D.out
 have he : stepE (.osc t) r = none := by simp only [stepE]; rw [if_neg h7]
 rw [he]
 have b7 : (r == 7) = false := by simp; omega
 by_cases h27 : r = 27
 ·subst h27
  have hs : stepS (.osc t) 27 = .oscEsc t := rfl
  rw [hs]
  have c0 : w.cell? ⟨g, 0, none⟩ = some (.int .i64 3) := h.cells.get 0
  have f0 := h.cells.free 0
  have D := Lib.hid (show PutPost g v (.oscEsc t) none w (.returned (.slice none 0 0)) (w.setCell ⟨g, 0, none⟩ (.int .i64 4)) from
   gone ⟨h.cells.put 0 _, onCell h.text h.cells 0 _⟩ (OnlyRow.cell g 0 w _))
  clear h hs he h7
  go_enter Tryz.func58, Tryz.ntmps58
  go_wp2
  go_ret
  exact D.out
 ·have hs : stepS (.osc t) r = .osc (t ++ [r]) := by simp only [stepS]; rw [if_neg h7, if_neg h27]
  rw [hs]
  have b27 : (r == 27) = false := by simp; omega
  have E := Lib.hid (keep_walk g v t r w h hr0 hr1)
  clear h hs he
  go_enter Tryz.func58, Tryz.ntmps58
  go_wp2_with fail
  refine E.out.mono ?_
  rintro e w' ⟨⟨_, rfl⟩, v', p, o⟩
  have D := Lib.hid (show PutPost g v (.osc (t ++ [r])) none w (.returned (.slice none 0 0)) w' from ⟨_, v', rfl, rfl, p, o⟩)
  clear p o E
  go_wp2
  go_ret
  exact D.out
theorem put_walk (g : Nat) (v : Value) (st : St) (r : Int) (w : World) (h : PAt w g v st) (hz : sizeS st ≤ 1000000) (hr0 : -2147483648 ≤ r) (hr1 : r ≤ 2147483647) :
  Calls Tryz.prog 24 #[ptrP g, .int .i32 r] w fun e w' => PutPost g v (stepS st r) (stepE st r) w e w' := by
 have c0 : w.cell? ⟨g, 0, none⟩ = some (.int .i64 (placeN st)) := h.cells.get 0
 cases st with
 | rest =>
  have E := Lib.hid (rest_walk g v r w h)
  clear h
  simp only [placeN] at c0
  go_enter Tryz.func24, Tryz.ntmps24
  go_wp2_with fail
  go_step3
  go_wp2_with fail
  go_step3
  go_wp2_with fail
  go_loopw [4] (fun v4 wx => v4 = .slice none 0 0 ∧ wx = w) (fun _ _ => 0)
  case atStart => exact ⟨rfl, rfl⟩
  case round =>
   obtain ⟨rfl, rfl⟩ := hrel
   go_wp2_with fail
   refine E.out.mono ?_
   rintro e w' hp
   obtain ⟨ev, v', rfl, q⟩ := hp
   have D := Lib.hid (show PutPost g v _ _ _ (.returned ev) w' from ⟨ev, v', rfl, q⟩)
   clear q E
   go_wp2
   rw [Exit.noGoto_ret]
   go_ret
   exact D.out
 | esc =>
  have E := Lib.hid (begin_walk g v _ r w h)
  clear h
  simp only [placeN] at c0
  go_enter Tryz.func24, Tryz.ntmps24
  go_wp2_with fail
  go_step3
  go_wp2_with fail
  go_step3
  go_wp2_with fail
  go_loopw [4] (fun v4 wx => v4 = .slice none 0 0 ∧ wx = w) (fun _ _ => 0)
  case atStart => exact ⟨rfl, rfl⟩
  case round =>
   obtain ⟨rfl, rfl⟩ := hrel
   go_wp2_with fail
   refine E.out.mono ?_
   rintro e w' ⟨⟨_, rfl⟩, p, o⟩
   have D := Lib.hid (gone (v := v) p o)
   clear p o E
   go_wp2
   rw [Exit.noGoto_ret]
   go_ret
   exact D.out
 | csi t =>
  have E := Lib.hid (csi_walk g v t r w h hz)
  clear h
  simp only [placeN] at c0
  go_enter Tryz.func24, Tryz.ntmps24
  go_wp2_with fail
  go_step3
  go_wp2_with fail
  go_step3
  go_wp2_with fail
  go_loopw [4] (fun v4 wx => v4 = .slice none 0 0 ∧ wx = w) (fun _ _ => 0)
  case atStart => exact ⟨rfl, rfl⟩
  case round =>
   obtain ⟨rfl, rfl⟩ := hrel
   go_wp2_with fail
   refine E.out.mono ?_
   rintro e w' hp
   obtain ⟨ev, v', rfl, q⟩ := hp
   have D := Lib.hid (show PutPost g v _ _ _ (.returned ev) w' from ⟨ev, v', rfl, q⟩)
   clear q E
   go_wp2
   rw [Exit.noGoto_ret]
   go_ret
   exact D.out
 | osc t =>
  have E := Lib.hid (osc_walk g v t r w h hr0 hr1)
  clear h
  simp only [placeN] at c0
  go_enter Tryz.func24, Tryz.ntmps24
  go_wp2_with fail
  go_step3
  go_wp2_with fail
  go_step3
  go_wp2_with fail
  go_loopw [4] (fun v4 wx => v4 = .slice none 0 0 ∧ wx = w) (fun _ _ => 0)
  case atStart => exact ⟨rfl, rfl⟩
  case round =>
   obtain ⟨rfl, rfl⟩ := hrel
   go_wp2_with fail
   refine E.out.mono ?_
   rintro e w' hp
   obtain ⟨ev, v', rfl, q⟩ := hp
   have D := Lib.hid (show PutPost g v _ _ _ (.returned ev) w' from ⟨ev, v', rfl, q⟩)
   clear q E
   go_wp2
   rw [Exit.noGoto_ret]
   go_ret
   exact D.out
 | oscEsc t =>
  by_cases h92 : r = 92
  ·subst h92
   have E := Lib.hid (endOsc_walk g v _ t w (.inr rfl) h)
   have hs : stepS (.oscEsc t) 92 = .rest := rfl
   have he : stepE (.oscEsc t) 92 = oscEv t := rfl
   rw [hs, he]
   clear h hs he
   simp only [placeN] at c0
   go_enter Tryz.func24, Tryz.ntmps24
   go_wp2_with fail
   go_step3
   go_wp2_with fail
   go_step3
   go_wp2_with fail
   go_loopw [4] (fun v4 wx => v4 = .slice none 0 0 ∧ wx = w) (fun _ _ => 0)
   case atStart => exact ⟨rfl, rfl⟩
   case round =>
    obtain ⟨rfl, rfl⟩ := hrel
    go_wp2_with fail
    refine E.out.mono ?_
    rintro e w' hp
    obtain ⟨ev, v', rfl, q⟩ := hp
    have D := Lib.hid (show PutPost g v _ _ _ (.returned ev) w' from ⟨ev, v', rfl, q⟩)
    clear q E
    go_wp2
    rw [Exit.noGoto_ret]
    go_ret
    exact D.out
  ·have hs : stepS (.oscEsc t) r = begin' r := by simp only [stepS]; rw [if_neg h92]
   have he : stepE (.oscEsc t) r = none := by simp only [stepE]; rw [if_neg h92]
   rw [hs, he]
   have b92 : (r == 92) = false := by simp; omega
   have H := Lib.hid h
   simp only [placeN] at c0
   have C0 := Lib.hid c0
   clear h hs he c0
   go_enter Tryz.func24, Tryz.ntmps24
   go_wp2_with fail
   go_step3
   go_wp2_with fail
   go_step3
   go_wp2_with fail
   go_loopw [4] (fun v4 wx => v4 = .slice none 0 0 ∧ (wx = w ∨ (PAt wx g (.slice none 0 0) .esc ∧ OnlyRow g w wx))) (fun _ wx => atFour wx g)
   case atStart => exact ⟨rfl, .inl rfl⟩
   case round =>
    obtain ⟨rfl, hw⟩ := hrel
    rcases hw with rfl | ⟨p1, o1⟩
    ·have c0 := C0.out
     have E := Lib.hid (leave g v (.oscEsc t) .esc wr H.out trivial)
     go_wp2_with fail
     refine E.out.mono ?_
     rintro e w' ⟨⟨_, rfl⟩, p, o⟩
     have M := Lib.hid (show atFour w' g < atFour wr g by
      have e : w'.cell? ⟨g, 0, none⟩ = some (.int .i64 1) := p.cells.get 0
      unfold atFour
      rw [e, C0.out]
      decide)
     have D := Lib.hid (And.intro p o)
     clear p o E c0
     go_wp2
     go_roundw
     case rel => exact ⟨rfl, .inr D.out⟩
     case measure => exact M.out
    ·have c0 : wr.cell? ⟨g, 0, none⟩ = some (.int .i64 1) := p1.cells.get 0
     have E := Lib.hid (begin_walk g (.slice none 0 0) .esc r wr p1)
     have O1 := Lib.hid o1
     clear p1 o1
     go_wp2_with fail
     refine E.out.mono ?_
     rintro e w' ⟨⟨_, rfl⟩, p, o⟩
     have D := Lib.hid (gone (v := v) p (O1.out.trans o))
     clear p o E
     go_wp2
     rw [Exit.noGoto_ret]
     go_ret
     exact D.out
theorem quiet_place (st : St) : (placeN st == 0) = quiet st := by cases st <;> rfl
theorem quiet_walk (g : Nat) (v : Value) (st : St) (w : World) (h : PAt w g v st) : Calls Tryz.prog 27 #[ptrP g] w fun e w' => e = .returned (.bool (quiet st)) ∧ w = w' := by
 have c0 : w.cell? ⟨g, 0, none⟩ = some (.int .i64 (placeN st)) := h.cells.get 0
 rw [← quiet_place]
 clear h
 go_enter Tryz.func27, Tryz.ntmps27
 go_wp2
 go_ret
 exact ⟨rfl, rfl⟩
end Esc
namespace Esc
theorem not_typed {w : World} {k : Nat} {e e' : TypeId} (h : Typed w e k) (hne : e ≠ e') : ¬ Typed w e' k := fun h' => h.apart h' hne rfl
theorem PAt.turned {M : Nat → Prop} {w w' : World} {g : Nat} {v : Value} {st : St} (h : PAt w g v st) (ht : Turned M w w') (hM : ∀ k, M k → ¬ Typed w 62 k ∧ ¬ Typed w 5 k) : PAt w' g v st :=
 ⟨(ht.block g h.cells.lt (fun m => (hM g m).1 ⟨_, _, h.cells⟩)).trans h.cells, h.text.turned ht (fun k m => (hM k m).2)⟩
theorem HasB.typed' {w : World} {base : Nat} {v : Value} {xs : List Int} (h : HasB w base v xs) : ∀ k, v.ownBlock = some k → base ≤ k ∧ Typed w 5 k := by
 intro k e
 rcases h.2 with ⟨rfl, _⟩ | ⟨g, cap, cur, rfl, e2, e3, _⟩
 ·cases e
 ·injection e with e
  subst e
  exact ⟨e2, _, _, e3⟩
theorem PAt.owns {w : World} {g : Nat} {v : Value} {st : St} (h : PAt w g v st) {k : Nat} (m : Own g v k) : g ≤ k ∧ (Typed w 62 k ∨ Typed w 5 k) := by
 rcases m with rfl | m
 ·exact ⟨Nat.le_refl _, .inl ⟨_, _, h.cells⟩⟩
 ·obtain ⟨h1, h2⟩ := HasB.typed' h.text k m
  exact ⟨h1, .inr h2⟩
theorem numsTyped {W : World} {base : Nat} {v : Value} {l : List Int} (h : Nums W base v l) : ∀ k, v.ownBlock = some k → Typed W 3 k := by
 intro k e
 rcases h.2 with ⟨rfl, _⟩ | ⟨g, cap, cur, rfl, _, e3, _⟩
 ·cases e
 ·injection e with e
  subst e
  exact ⟨_, _, e3⟩
theorem EvIs.turned {M : Nat → Prop} {w w' : World} {base : Nat} {ev : Value} {o : Option Ev} (h : EvIs w base ev o) (ht : Turned M w w') (hM : ∀ k, M k → ¬ Typed w 43 k ∧ ¬ Typed w 3 k) : EvIs w' base ev o := by
 cases o with
 | none => exact h
 | some x =>
  obtain ⟨b, va, h1, h2, h3, h4⟩ := h
  exact ⟨b, va, h1, h2, (ht.block b (Array.getElem?_eq_some_iff.1 h3).1 (fun m => (hM b m).1 ⟨_, _, h3⟩)).trans h3, h4.kept fun k e => ht.block k (h4.lt k e).2 (fun m => (hM k m).2 (numsTyped h4 k e))⟩
end Esc
