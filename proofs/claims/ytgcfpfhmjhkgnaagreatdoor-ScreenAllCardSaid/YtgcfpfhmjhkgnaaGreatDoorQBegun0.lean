import Derived.Test.YtgcfpfhmjhkgnaaGreatDoorQStore5
set_option maxRecDepth 100000
set_option maxHeartbeats 6400000
namespace Go.Proofs.YtgcfpfhmjhkgnaaGreatDoor
open Go.ChangeShapes Go.WideShapes Go.ChangeAt Go.RowKit
namespace Bg
open Esc Sc Rw
def evRun : Esc.St → List Int → List Ev
 | _, [] => []
 | st, r :: l => (stepE st r).toList ++ evRun (stepS st r) l
theorem evRun_snoc : ∀ (st : Esc.St) (l : List Int) (r : Int), evRun st (l ++ [r]) = evRun st l ++ (stepE (Esc.runS st l) r).toList
 | st, [], r => by simp [evRun, Esc.runS]
 | st, x :: l, r => by
  have := evRun_snoc (stepS st x) l r
  simp only [List.cons_append, evRun, this, List.append_assoc]
  rfl
def theS : ByteArray := ⟨#[27, 91, 49, 59, 50, 72, 120, 27, 93, 53, 50, 59, 99, 59, 89, 81, 61, 61, 7]⟩
def theR : List Int := [27, 91, 49, 59, 50, 72, 120, 27, 93, 53, 50, 59, 99, 59, 89, 81, 61, 61, 7]
theorem octs_theS : octs theS = theR := by decide +kernel
theorem theS_size : theS.size = 19 := rfl
theorem theR_low : ∀ x ∈ theR, 0 ≤ x ∧ x < 128 := by decide
def e1 : Ev := ⟨3, 72, [1, 2], []⟩
def e2 : Ev := ⟨1, 120, [], []⟩
def e3 : Ev := ⟨4, 0, [], [53, 50, 59, 99, 59, 89, 81, 61, 61]⟩
theorem theE : evRun .rest theR = [e1, e2, e3] := by rfl
theorem theQ : Esc.runS .rest theR = .rest := by rfl
theorem theS_at {k : Nat} (h : k < theS.size) : ((theS[k]'h).toNat : Int) = nth theR k ∧ (theS[k]'h).toNat < 128 := by
 have h1 := nth_octs theS k h
 rw [octs_theS] at h1
 have h2 := theR_low (nth theR k) (by rw [nth_get (by rw [theS_size] at h; exact h)]; exact List.getElem_mem _)
 omega
def evVals (q : Ev × Value) : List Value := [.int .i64 q.1.kind, .int .i32 q.1.r, q.2, .string ⟨q.1.text.toArray⟩]
theorem ev_list {W : World} {base : Nat} {ev : Value} {o : Option Ev} (h : EvIs W base ev o) : ∃ A c, ∃ ps : List (Ev × Value), ev = .slice A ps.length c ∧ ps.map Prod.fst = o.toList ∧ Sq W W.heap.size 4 ps.length A (ps.flatMap evVals) ∧ ∀ q ∈ ps, Nums W base q.2 q.1.args := by
 cases o with
 | none => exact ⟨none, 0, [], h, rfl, Sq.nothing _ _ _ _, fun _ h => by cases h⟩
 | some x =>
  obtain ⟨b, va, h1, h2, h3, h4⟩ := h
  refine ⟨some ⟨b, 0, none⟩, 1, [(x, va)], h1, rfl, ⟨rfl, fun _ => ⟨b, 0, rfl, (Array.getElem?_eq_some_iff.1 h3).1, fun j u hu => ?_⟩⟩, fun q hq => ?_⟩
  ·rw [Nat.zero_add, cell_of_row _ b j _ _ (0, 0) h3, List.getElem?_toArray]
   simpa [evVals] using hu
  ·rw [List.mem_singleton.1 hq]; exact h4
theorem evVals_one (q : Ev × Value) (hq : q.2.oneCell' = true) : ∀ u ∈ evVals q, u.oneCell' = true := by
 intro u hu
 unfold evVals at hu
 simp at hu
 rcases hu with rfl | rfl | rfl | rfl
 ·rfl
 ·rfl
 ·exact hq
 ·rfl
theorem nums_one {W : World} {base : Nat} {v : Value} {l : List Int} (h : Nums W base v l) : v.oneCell' = true := by
 rcases h.2 with ⟨e, _⟩ | ⟨g, cap, cur, e, _⟩ <;> (rw [e]; rfl)
structure L7 (w0 : World) (gp it k : Nat) (vp vl : Value) (ps : List (Ev × Value)) (W : World) : Prop where
 old : Below w0.heap.size w0 W
 g0 : w0.heap.size ≤ gp
 i0 : w0.heap.size ≤ it
 iter : W.heap[it]? = some (.stringIter theS k)
 par : PAt W gp vp (Esc.runS .rest (theR.take k))
 own : W.ownsRow w0.heap.size 43 4 vl ps.length (ps.flatMap evVals)
 num : ∀ q ∈ ps, Nums W w0.heap.size q.2 q.1.args
 same : ps.map Prod.fst = evRun .rest (theR.take k)
theorem own_type {W : World} {base : Nat} {e : TypeId} {s n : Nat} {v : Value} {xs : List Value} (h : W.ownsRow base e s v n xs) : ∀ k, v.ownBlock = some k → Typed W e k := by
 intro k hk
 rcases h.2 with ⟨e, _⟩ | ⟨g, cap, cur, e, _, e3, _⟩
 ·rw [e] at hk; cases hk
 ·rw [e] at hk
  injection hk with hk
  subst hk
  exact ⟨_, _, e3⟩
theorem own_kept {W W' : World} {base : Nat} {e : TypeId} {s n : Nat} {v : Value} {xs : List Value} (h : W.ownsRow base e s v n xs) (hk : ∀ k, v.ownBlock = some k → W'.heap[k]? = W.heap[k]?) : W'.ownsRow base e s v n xs := by
 refine ⟨h.1, ?_⟩
 rcases h.2 with e | ⟨g, cap, cur, rfl, e2, e3, r⟩
 ·exact .inl e
 ·exact .inr ⟨g, cap, cur, rfl, e2, (hk g rfl).trans e3, r⟩
theorem notCells {W : World} {k : Nat} {s : ByteArray} {p : Nat} (h : W.heap[k]? = some (.stringIter s p)) (e : TypeId) : ¬ Typed W e k := by
 rintro ⟨cs, fr, hc⟩
 rw [h] at hc
 cases hc
namespace L7
variable {w0 W W' : World} {gp it k : Nat} {vp vl : Value} {ps : List (Ev × Value)}
theorem turned {M : Nat → Prop} (h : L7 w0 gp it k vp vl ps W) (ht : Turned M W W') (h0 : ∀ j, M j → w0.heap.size ≤ j) (hM : ∀ j, M j → ¬ Typed W 62 j ∧ ¬ Typed W 5 j ∧ ¬ Typed W 43 j ∧ ¬ Typed W 3 j ∧ j ≠ it) : L7 w0 gp it k vp vl ps W' :=
 ⟨h.old.trans (ht.toBelow h.old.size (fun j hj m => by have := h0 j m; omega)), h.g0, h.i0, (ht.block it (Array.getElem?_eq_some_iff.1 h.iter).1 (fun m => (hM it m).2.2.2.2 rfl)).trans h.iter,
  h.par.turned ht (fun j m => ⟨(hM j m).1, (hM j m).2.1⟩),
  own_kept h.own (fun j e => ht.block j (World.ownsRow.lt h.own j e).2 (fun m => (hM j m).2.2.1 (own_type h.own j e))),
  fun q hq => (h.num q hq).kept (fun j e => ht.block j ((h.num q hq).lt j e).2 (fun m => (hM j m).2.2.2.1 (numsTyped (h.num q hq) j e))), h.same⟩
theorem laid (h : L7 w0 gp it k vp vl ps W) (hb : Below W.heap.size W W') : L7 w0 gp it k vp vl ps W' := h.turned (M := fun _ => False) (Turned.ofBelow hb _) (fun _ f => f.elim) (fun _ f => f.elim)
end L7
end Bg
namespace Bg
open Esc Sc Rw
theorem infoEvent : (Tryz.prog.info? 43).map (fun i => (i.zero, i.size, i.bytes)) = some (some (.agg #[.int .i64 0, .int .i32 0, .slice none 0 0, .string ⟨#[]⟩]), 4, 56) := by kernel_rfl
theorem evRun_length : ∀ (st : Esc.St) (l : List Int), (evRun st l).length ≤ l.length
 | _, [] => Nat.le_refl _
 | st, r :: l => by
  have := evRun_length (stepS st r) l
  have h : (stepE st r).toList.length ≤ 1 := by cases stepE st r <;> simp
  simp only [evRun, List.length_append, List.length_cons]
  omega
theorem flat_evs {W : World} {base : Nat} {ps : List (Ev × Value)} (h : ∀ q ∈ ps, Nums W base q.2 q.1.args) : ∀ u ∈ ps.flatMap evVals, u.oneCell' = true := by
 intro u hu
 obtain ⟨q, hq, hu⟩ := List.mem_flatMap.1 hu
 exact evVals_one q (nums_one (h q hq)) u hu
def theEs : List Ev := [e1, e2, e3]
def sAt (j : Nat) : Scr := (theEs.take j).foldl (fun s e => doS s e.kind e.r e.args) (newS 3 2)
theorem sAt_next {j : Nat} {e : Ev} (h : theEs[j]? = some e) : sAt (j + 1) = doS (sAt j) e.kind e.r e.args := by
 unfold sAt
 rw [List.take_add_one, h, List.foldl_append]
 rfl
theorem nums_sq {W : World} {base B n c : Nat} {A : Option Addr} {l : List Int} (h : Nums W base (.slice A n c) l) (hB : ∀ k, (Value.slice A n c).ownBlock = some k → k < B) : Sq W B 1 n A (l.map (Value.int .i64)) := by
 have hn : l.length = n := by
  rcases h.2 with ⟨e, h0⟩ | ⟨g, cap, cur, e, _⟩
  ·injection e with _ e _; omega
  ·injection e with _ e _; omega
 have hq : Sq W W.heap.size 1 n A (l.map (Value.int .i64)) := by rw [← hn]; exact Sq.own (by rw [hn]; have := h; unfold Nums at this; rw [hn] at this; exact this)
 refine ⟨hq.len, fun h0 => ?_⟩
 obtain ⟨b, off, e, _, hc⟩ := hq.spot h0
 exact ⟨b, off, e, hB b (by rw [e]; rfl), hc⟩
theorem nums_shape {W : World} {base : Nat} {v : Value} {l : List Int} (h : Nums W base v l) : ∃ A c, v = .slice A l.length c := by
 rcases h.2 with ⟨rfl, h0⟩ | ⟨g, cap, cur, rfl, _⟩
 ·rw [h0]; exact ⟨_, _, rfl⟩
 ·exact ⟨_, _, rfl⟩
theorem three_of {ps : List (Ev × Value)} (h : ps.map Prod.fst = [e1, e2, e3]) : ∃ v1 v2 v3, ps = [(e1, v1), (e2, v2), (e3, v3)] := by
 match ps, h with
 | [(a, v1), (b, v2), (c, v3)], h =>
  simp only [List.map_cons, List.map_nil, List.cons.injEq, and_true] at h
  obtain ⟨rfl, rfl, rfl⟩ := h
  exact ⟨v1, v2, v3, rfl⟩
theorem went_L7 {w0 W W' : World} {gp it k p g : Nat} {vp vl : Value} {ps : List (Ev × Value)} {s : Scr} {xs xs' : List RowIn} (h : L7 w0 gp it k vp vl ps W) (hs : ScAt W p g s xs) (hp : w0.heap.size ≤ p) (hg : w0.heap.size ≤ g) (hw : Went W W' p g xs xs') : L7 w0 gp it k vp vl ps W' := by
 refine h.turned hw.turned (fun j m => by rcases m with rfl | rfl <;> assumption) (fun j m => ?_)
 rcases m with rfl | rfl
 ·exact ⟨not_typed hs.typ (by decide), not_typed hs.typ (by decide), not_typed hs.typ (by decide), not_typed hs.typ (by decide), fun e => notCells h.iter _ (e ▸ hs.typ)⟩
 ·exact ⟨not_typed hs.tyg (by decide), not_typed hs.tyg (by decide), not_typed hs.tyg (by decide), not_typed hs.tyg (by decide), fun e => notCells h.iter _ (e ▸ hs.tyg)⟩
theorem e_kinds : ∀ e ∈ theEs, e.kind ≠ 2 ∧ (e.kind = 3 → e.r = 72) ∧ -2147483648 ≤ e.r ∧ e.r ≤ 2147483647 := by
 intro e he
 simp [theEs] at he
 rcases he with rfl | rfl | rfl <;> simp [e1, e2, e3]
def theL : List Cel := [(20013, 2, 0), (0, 0, 0)]
def l9 : List Cel := [(32, 1, 0), (20013, 2, 0), (0, 0, 0)]
theorem set_ok : setOk (blanksL 3) 1 theL = true := by decide +kernel
theorem set_res : setRes (blanksL 3) 1 theL = l9 := by decide +kernel
theorem erase_ok : eraseOk l9 2 3 = true := by decide +kernel
theorem erase_res : eraseRes l9 2 3 = blanksL 3 := by decide +kernel
theorem erase_wrap : eraseWrap false l9 2 3 = false := by decide +kernel
theorem l9_may : mayL l9 = true := by decide +kernel
theorem l9_used : (trimL l9).length = 3 := by decide +kernel
theorem l9_first : firstOf l9 2 = 1 := by decide +kernel
theorem b3_blank : (!mayL (blanksL 3) || (decide ((trimL (blanksL 3)).length = 0) && !false)) = true := by decide +kernel
theorem l9_range : ∀ c ∈ l9, -2147483648 ≤ c.1 ∧ c.1 ≤ 2147483647 := by decide
theorem theL_range : ∀ c ∈ theL, -2147483648 ≤ c.1 ∧ c.1 ≤ 2147483647 := by decide
theorem s3_facts : (sAt 3).r = 0 ∧ (sAt 3).c = 2 ∧ (sAt 3).rows.length = 2 ∧ ((sAt 3).rows[0]?).map (fun x => (x.1.length, (x.1.getD 1 (0, 0, 0)).1)) = some (3, 120) := by decide +kernel
theorem begun4Begun_walk (w : World) (hs : Spans w) : Calls Tryz.prog 26 #[] w fun e w' => e = .returned (.bool true) ∧ Below w.heap.size w w' := by
 have C := Lib.hid (begun4_walk w hs)
 clear hs
 go_enter Tryz.func26, Tryz.ntmps26
 go_wp2_with fail
 refine C.out.mono ?_
 rintro e w' ⟨rfl, hb⟩
 have H := Lib.hid hb
 clear hb C
 go_wp2
 go_ret
 exact ⟨rfl, H.out⟩
structure B7 (w0 : World) (gp it : Nat) (vp : Value) (ge ce : Nat) (v1 v2 v3 : Value) (p g : Nat) (xs : List RowIn) (b9 : Nat) (A9 : Option Addr) (c9 b11 : Nat) (A11 : Option Addr) (c11 : Nat) (W : World) : Prop where
 l : L7 w0 gp it 19 vp (.slice (some ⟨ge, 0, none⟩) 3 ce) [(e1, v1), (e2, v2), (e3, v3)] W
 s : ScAt W p g (sAt 3) xs
 sp : Spans W
 r9 : RowAt W b9 (.slice A9 3 c9) false
 h9 : HasC W 0 (.slice A9 3 c9) l9
 r11 : RowAt W b11 (.slice A11 3 c11) false
 h11 : HasC W 0 (.slice A11 3 c11) (blanksL 3)
theorem B7.laid {w0 : World} {gp it : Nat} {vp : Value} {ge ce : Nat} {v1 v2 v3 : Value} {p g : Nat} {xs : List RowIn} {b9 : Nat} {A9 : Option Addr} {c9 b11 : Nat} {A11 : Option Addr} {c11 : Nat} {W W' : World} (h : B7 w0 gp it vp ge ce v1 v2 v3 p g xs b9 A9 c9 b11 A11 c11 W) (hb : Below W.heap.size W W') : B7 w0 gp it vp ge ce v1 v2 v3 p g xs b9 A9 c9 b11 A11 c11 W' :=
 ⟨h.l.laid hb, h.s.laid hb, h.sp.below hb h.sp.size, (hb.block b9 h.r9.lt).trans h.r9, HasC.keep h.h9 (fun j e => hb.block j (HasC.lt h.h9 j e).2), (hb.block b11 h.r11.lt).trans h.r11, HasC.keep h.h11 (fun j e => hb.block j (HasC.lt h.h11 j e).2)⟩
theorem B7.ev {w0 : World} {gp it : Nat} {vp : Value} {ge ce : Nat} {v1 v2 v3 : Value} {p g : Nat} {xs : List RowIn} {b9 : Nat} {A9 : Option Addr} {c9 b11 : Nat} {A11 : Option Addr} {c11 : Nat} {W : World} (h : B7 w0 gp it vp ge ce v1 v2 v3 p g xs b9 A9 c9 b11 A11 c11 W) :
  W.cell? ⟨ge, 0, none⟩ = some (.int .i64 3) ∧ W.cell? ⟨ge, 2, none⟩ = some v1 ∧ W.cell? ⟨ge, 5, none⟩ = some (.int .i32 120) ∧ W.cell? ⟨ge, 11, none⟩ = some (.string { data := #[53, 50, 59, 99, 59, 89, 81, 61, 61] }) ∧ ∃ A c, v1 = .slice A 2 c := by
 obtain ⟨ge', ce', hu2, _, _, _, hev⟩ := own_at h.l.own (by simp)
 injection hu2 with hu2 _ _
 injection hu2 with hu2
 injection hu2 with hu2
 subst hu2
 obtain ⟨A, c, e⟩ := nums_shape (h.l.num (e1, v1) (List.mem_cons_self ..))
 exact ⟨hev 0 _ rfl, hev 2 _ rfl, hev 5 _ rfl, hev 11 _ rfl, A, c, e⟩
theorem cap_of {W : World} {base n c : Nat} {A : Option Addr} {l : List Cel} (h : HasC W base (.slice A n c) l) : n ≤ c := by
 obtain ⟨_, _, e, hc⟩ := HasC.shape h
 injection e with _ e1 e2
 rw [e1, e2]; exact hc
theorem B7.quiet {w0 : World} {gp it : Nat} {vp : Value} {ge ce : Nat} {v1 v2 v3 : Value} {p g : Nat} {xs : List RowIn} {b9 : Nat} {A9 : Option Addr} {c9 b11 : Nat} {A11 : Option Addr} {c11 : Nat} {W : World} (h : B7 w0 gp it vp ge ce v1 v2 v3 p g xs b9 A9 c9 b11 A11 c11 W) : Calls Tryz.prog 27 #[.pointer (some ⟨gp, 0, none⟩)] W fun e w' => e = .returned (.bool true) ∧ W = w' := by
 have q := Esc.quiet_walk gp vp _ W h.l.par
 rw [show Esc.runS .rest (theR.take 19) = .rest from theQ] at q
 exact q
theorem B7.used {w0 : World} {gp it : Nat} {vp : Value} {ge ce : Nat} {v1 v2 v3 : Value} {p g : Nat} {xs : List RowIn} {b9 : Nat} {A9 : Option Addr} {c9 b11 : Nat} {A11 : Option Addr} {c11 : Nat} {W : World} (h : B7 w0 gp it vp ge ce v1 v2 v3 p g xs b9 A9 c9 b11 A11 c11 W) : Calls Tryz.prog 29 #[rowV A9 3 c9 false] W fun e w' => e = .returned (.int .i64 3) ∧ Below W.heap.size W w' := by
 have q := rowUsed_walk A9 3 c9 false l9 W h.sp l9_range (HasC.sq h.h9) (cap_of h.h9) (by omega)
 rw [l9_may, l9_used, if_pos rfl] at q
 exact q
theorem B7.first {w0 : World} {gp it : Nat} {vp : Value} {ge ce : Nat} {v1 v2 v3 : Value} {p g : Nat} {xs : List RowIn} {b9 : Nat} {A9 : Option Addr} {c9 b11 : Nat} {A11 : Option Addr} {c11 : Nat} {W : World} (h : B7 w0 gp it vp ge ce v1 v2 v3 p g xs b9 A9 c9 b11 A11 c11 W) : Calls Tryz.prog 30 #[rowV A9 3 c9 false, .int .i64 2] W fun e w' => e = .returned (.int .i64 1) ∧ Below W.heap.size W w' := by
 have q := rowFirst_walk A9 3 c9 false l9 2 W h.sp l9_range (HasC.sq h.h9) (by omega) ((mayL_iff l9).1 l9_may).2 ((mayL_iff l9).1 l9_may).1
 rw [l9_first] at q
 exact q
theorem B7.blank {w0 : World} {gp it : Nat} {vp : Value} {ge ce : Nat} {v1 v2 v3 : Value} {p g : Nat} {xs : List RowIn} {b9 : Nat} {A9 : Option Addr} {c9 b11 : Nat} {A11 : Option Addr} {c11 : Nat} {W : World} (h : B7 w0 gp it vp ge ce v1 v2 v3 p g xs b9 A9 c9 b11 A11 c11 W) : Calls Tryz.prog 31 #[rowV A11 3 c11 false] W fun e w' => e = .returned (.bool true) ∧ Below W.heap.size W w' := by
 have q := rowIsBlank_walk A11 3 c11 false (blanksL 3) W h.sp (blanks_signs 3) (HasC.sq h.h11) (cap_of h.h11) (by omega)
 rw [b3_blank] at q
 exact q
theorem B7.cursor {w0 : World} {gp it : Nat} {vp : Value} {ge ce : Nat} {v1 v2 v3 : Value} {p g : Nat} {xs : List RowIn} {b9 : Nat} {A9 : Option Addr} {c9 b11 : Nat} {A11 : Option Addr} {c11 : Nat} {W : World} (h : B7 w0 gp it vp ge ce v1 v2 v3 p g xs b9 A9 c9 b11 A11 c11 W) : Calls Tryz.prog 28 #[ptrS p] W fun e w' => e = .returned (.agg #[.int .i64 0, .int .i64 2]) ∧ Below W.heap.size W w' := by
 have q := cursor_walk W h.s
 rw [s3_facts.1, s3_facts.2.1] at q
 exact q
theorem shown_x {w W : World} {wd : Nat} {v : Value} {ys : List RowIn} (h : Shown w wd (sAt 3).rows v ys W) : ∃ g c A cc k, v = .slice (some ⟨g, 0, none⟩) 2 c ∧ A = some (⟨k, 0, none⟩ : Addr) ∧ ∀ W', Below W.heap.size W W' → W'.cell? ⟨g, 0, none⟩ = some (.slice A 3 cc) ∧ W'.cell? ⟨k, 3, none⟩ = some (.int .i32 120) := by
 have hl : ys.length = 2 := by have := congrArg List.length h.same; rw [List.length_map, s3_facts.2.2.1] at this; exact this
 obtain ⟨y, hy⟩ : ∃ y, ys[0]? = some y := ⟨_, List.getElem?_eq_getElem (by omega)⟩
 have hm := List.mem_of_getElem? hy
 have hr : (sAt 3).rows[0]? = some (sr y) := by rw [← h.same, List.getElem?_map, hy]; rfl
 have hf := s3_facts.2.2.2
 rw [hr] at hf
 simp only [Option.map_some, Option.some.injEq, sr, Prod.mk.injEq] at hf
 obtain ⟨hlen, h120⟩ := hf
 have hc := (h.rows.each y hm).1
 have hyn : y.n = 3 := by
  obtain ⟨_, _, e, _⟩ := HasC.shape hc
  injection e with _ e _
  rw [e, hlen]
 obtain ⟨k, hk, _⟩ := fresh_row hc (by omega)
 obtain ⟨g, c, hv, _⟩ := h.rows.get hy
 rw [hl] at hv
 refine ⟨g, c, y.A, y.c, k, hv, hk, fun W' hb => ?_⟩
 obtain ⟨g', c', hv', _, _, _, q0, _⟩ := (h.rows.below hb).get hy
 rw [hv] at hv'
 injection hv' with e1 _ _
 injection e1 with e1
 injection e1 with e1
 subst e1
 rw [hyn] at q0
 refine ⟨by simpa using q0, ?_⟩
 have hc' := ((h.rows.below hb).each y hm).1
 rw [hyn] at hc'
 obtain ⟨b, off, e, _, x, hx, r0, _, _⟩ := (HasC.sq hc').three (show 1 < 3 by omega)
 rw [hk] at e
 injection e with e
 injection e with e1 e2
 subst e1 e2
 have hx1 : x.1 = 120 := by rw [← h120, List.getD_eq_getElem?_getD, hx]; rfl
 rw [hx1] at r0
 simpa using r0
theorem iter_pos {w : World} {k : Nat} {s : ByteArray} {p : Nat} (h : w.heap[k]? = some (.stringIter s p)) : w.iterPos k = p := by simp [World.iterPos, h]
theorem begun7_walk (w : World) (hs : Spans w) : Calls Tryz.prog 7 #[] w fun e w' => e = .returned (.bool true) ∧ Below w.heap.size w w' := by
 obtain ⟨i0, hi, hz0, hz1, hz2⟩ := info_parts infoEvent
 obtain ⟨gp, hgp⟩ : ∃ gp, w.heap.size = gp := ⟨_, rfl⟩
 obtain ⟨it, hit⟩ : ∃ it, gp + 1 = it := ⟨_, rfl⟩
 obtain ⟨w2, hw2⟩ : ∃ w2, (w.alloc (.cells (pcells 0 false 0 (fun _ => 0) (.slice none 0 0)) 62)).iter ⟨#[27, 91, 49, 59, 50, 72, 120, 27, 93, 53, 50, 59, 99, 59, 89, 81, 61, 61, 7]⟩ 0 = w2 := ⟨_, rfl⟩
 have L0 := Lib.hid (show L7 w gp it 0 (.slice none 0 0) (.slice none 0 0) [] w2 from by
  have ba := (Below.refl w.heap.size w).alloc (Nat.le_refl _) (.cells (pcells 0 false 0 (fun _ => 0) (.slice none 0 0)) 62)
  have pa : PCells (w.alloc (.cells (pcells 0 false 0 (fun _ => 0) (.slice none 0 0)) 62)) gp (pcells 0 false 0 (fun _ => 0) (.slice none 0 0)) := by rw [← hgp]; exact heap_alloc_new w _
  have za : (w.alloc (.cells (pcells 0 false 0 (fun _ => 0) (.slice none 0 0)) 62)).heap.size = it := by rw [World.size_alloc]; omega
  generalize w.alloc (.cells (pcells 0 false 0 (fun _ => 0) (.slice none 0 0)) 62) = wa at ba pa za hw2
  have hh := World.iter_heap wa theS 0
  rw [za, show wa.iter theS 0 = w2 from hw2] at hh
  have bb : Below wa.heap.size wa w2 := by rw [← hw2]; exact (Below.refl _ _).alloc (Nat.le_refl _) _
  exact ⟨ba.trans (bb.mono ba.size), by omega, by omega, hh, ⟨(bb.block gp (by omega)).trans pa, HasB.nothing _ _⟩, World.ownsRow_nil _ _ _ _, (fun _ h => by cases h), rfl⟩)
 have HW2 := Lib.hid hw2
 have HGP := Lib.hid hgp
 have HIT := Lib.hid hit
 have HS := Lib.hid hs
 clear hw2 hgp hit hs
 go_enter Tryz.func7, Tryz.ntmps7
 go_wp2_with fail
 rw [HGP.out, HIT.out]
 change Code.wp _ _ _ _ ((w.alloc (.cells (pcells 0 false 0 (fun _ => 0) (.slice none 0 0)) 62)).iter ⟨#[27, 91, 49, 59, 50, 72, 120, 27, 93, 53, 50, 59, 99, 59, 89, 81, 61, 61, 7]⟩ 0)
 rw [HW2.out]
 clear HW2
 go_loopw [2, 4] (fun v2 _ wr => ∃ (k : Nat) (vp : Value) (ps : List (Ev × Value)), k ≤ 19 ∧ Hid (L7 w gp it k vp v2 ps wr)) (fun _ _ wr => 19 - wr.iterPos it)
 case atStart => exact ⟨0, _, _, Nat.zero_le _, L0⟩
 case round =>
  obtain ⟨k, vp, ps, hk, LR⟩ := hrel
  clear L0
  have hpos : wr.iterPos it = k := iter_pos LR.out.iter
  by_cases hlt : k < 19
  ·have hks : k < theS.size := by rw [theS_size]; exact hlt
   obtain ⟨hat, hlow⟩ := theS_at hks
   have hnx0 := fun ty => Lib.run_next_ascii_at (P := Tryz.prog) wr it theS k ty LR.out.iter hks hlow
   rw [hat] at hnx0
   obtain ⟨r, hr⟩ : ∃ r, nth theR k = r := ⟨_, rfl⟩
   rw [hr] at hnx0
   have hr128 : 0 ≤ r ∧ r < 128 := by rw [← hr, ← hat]; omega
   have hlit := LR.out.iter
   have T1 : Turned (· = it) wr (wr.iterAt it theS (k + 1)) := ⟨rfl, rfl, rfl, by rw [Lib.iterAt_size]; exact Nat.le_refl _, fun j _ hj => Lib.iterAt_other wr it j theS (k + 1) hj⟩
   have I1 : (wr.iterAt it theS (k + 1)).heap[it]? = some (.stringIter theS (k + 1)) := Lib.iterAt_heap wr it theS k (k + 1) hlit
   obtain ⟨w3, hw3⟩ : ∃ w3, wr.iterAt it theS (k + 1) = w3 := ⟨_, rfl⟩
   rw [hw3] at hnx0 T1 I1
   have hM1 : ∀ e j, j = it → ¬ Typed wr e j := fun e j hj => by subst hj; exact notCells hlit e
   have P3 := LR.out.par.turned T1 (fun j m => ⟨hM1 _ j m, hM1 _ j m⟩)
   have O3 := own_kept LR.out.own (fun j e => T1.block j (World.ownsRow.lt LR.out.own j e).2 (fun m => hM1 _ j m (own_type LR.out.own j e)))
   have N3 : ∀ q ∈ ps, Nums w3 w.heap.size q.2 q.1.args := fun q hq => (LR.out.num q hq).kept (fun j e => T1.block j ((LR.out.num q hq).lt j e).2 (fun m => hM1 _ j m (numsTyped (LR.out.num q hq) j e)))
   have B3 : Below w.heap.size w w3 := LR.out.old.trans (T1.toBelow LR.out.old.size (fun j hj m => by have := LR.out.i0; omega))
   have hsz : sizeS (Esc.runS .rest (theR.take k)) ≤ 1000000 := by
    have := sizeS_run (theR.take k) .rest
    have h3 : (theR.take k).length ≤ k := List.length_take_le _ _
    have e0 : sizeS .rest = 0 := rfl
    omega
   have PW := Lib.hid (Esc.put_walk gp vp _ r w3 P3 hsz (by omega) (by omega))
   have hpl : ps.length ≤ 19 := by
    have h1 := congrArg List.length LR.out.same
    rw [List.length_map] at h1
    have h2 := evRun_length .rest (theR.take k)
    have h3 : (theR.take k).length ≤ k := List.length_take_le _ _
    omega
   have KK := Lib.hid (And.intro (And.intro P3 O3) (And.intro N3 (And.intro B3 I1)))
   have SM := Lib.hid LR.out.same
   have GI := Lib.hid (And.intro LR.out.g0 LR.out.i0)
   have TK := Lib.hid (show theR.take (k + 1) = theR.take k ++ [r] from by rw [take_next (by exact hlt), hr])
   clear T1 I1 hM1 P3 O3 N3 B3 hsz hlit hat hw3 hr
   go_wp2_with fail
   refine PW.out.mono ?_
   rintro e w4 ⟨ev, v4, rfl, ev4, p4, t4⟩
   obtain ⟨A, c, qs, rfl, hq1, hq2, hq3⟩ := ev_list ev4
   have hql : qs.length ≤ 1 := by
    have h1 := congrArg List.length hq1
    rw [List.length_map] at h1
    have h2 : (stepE (Esc.runS .rest (theR.take k)) r).toList.length ≤ 1 := by cases stepE (Esc.runS .rest (theR.take k)) r <;> simp
    omega
   have own4 : ∀ j, Esc.Own gp vp j → Typed w3 62 j ∨ Typed w3 5 j := fun j m => (KK.out.1.1.owns m).2
   have apart4 : ∀ (ty : TypeId), ty ≠ 62 → ty ≠ 5 → ∀ j, Esc.Own gp vp j → ¬ Typed w3 ty j := fun ty h1 h2 j m t => by
    rcases own4 j m with x | x
    ·exact x.apart t (fun e => h1 e.symm) rfl
    ·exact x.apart t (fun e => h2 e.symm) rfl
   have O4 := own_kept KK.out.1.2 (fun j e => t4.block j (World.ownsRow.lt KK.out.1.2 j e).2 (fun m => apart4 _ (by decide) (by decide) j m (own_type KK.out.1.2 j e)))
   have N4 : ∀ q ∈ ps, Nums w4 w.heap.size q.2 q.1.args := fun q hq => (KK.out.2.1 q hq).kept (fun j e => t4.block j ((KK.out.2.1 q hq).lt j e).2 (fun m => apart4 _ (by decide) (by decide) j m (numsTyped (KK.out.2.1 q hq) j e)))
   have I4 : w4.heap[it]? = some (.stringIter theS (k + 1)) := (t4.block it (Array.getElem?_eq_some_iff.1 KK.out.2.2.2).1 (fun m => by
    rcases own4 it m with x | x
    ·exact notCells KK.out.2.2.2 _ x
    ·exact notCells KK.out.2.2.2 _ x)).trans KK.out.2.2.2
   have B4 : Below w.heap.size w w4 := KK.out.2.2.1.trans (t4.toBelow KK.out.2.2.1.size (fun j hj m => by have h1 := (KK.out.1.1.owns m).1; have h2 := GI.out.1; omega))
   have hb3 : w.heap.size ≤ w3.heap.size := KK.out.2.2.1.size
   have K4 := Lib.hid (And.intro (And.intro p4 O4) (And.intro N4 (And.intro B4 I4)))
   have Q4 := Lib.hid (And.intro hq1 (And.intro hq2 (show ∀ q ∈ qs, Nums w4 w.heap.size q.2 q.1.args from fun q hq => by
    have h := hq3 q hq
    refine ⟨h.1, ?_⟩
    rcases h.2 with e | ⟨g, cap, cur, e, e2, r⟩
    ·exact .inl e
    ·exact .inr ⟨g, cap, cur, e, Nat.le_trans hb3 e2, r⟩)))
   clear KK PW ev4 p4 t4 hq1 hq2 hq3 own4 apart4 O4 N4 I4 B4 hnx0 LR hb3
   go_wp2_with (at_builtin; refine wpl_app rfl _ _ 36 rfl w.heap.size 43 i0 _ 4 56 Tryz.underlying36 hi hz0 hz1 hz2 rfl (by decide) _ ps.length (ps.flatMap evVals) rfl K4.out.1.2 A qs.length c (qs.flatMap evVals) rfl w4.heap.size Q4.out.2.1 (flat_evs Q4.out.2.2) (by unfold maxLen; omega) (by omega) K4.out.2.2.1.size ?_; intro v5 w5 hown hg _)
   have T5 := Turned.ofGrown hg
   have ty5 : ∀ j, u2.ownBlock = some j → Typed w4 43 j := own_type K4.out.1.2
   have L5 := Lib.hid (show L7 w gp it (k + 1) v4 v5 (ps ++ qs) w5 from by
    refine ⟨K4.out.2.2.1.grown hg K4.out.2.2.1.size (fun j e => (World.ownsRow.lt K4.out.1.2 j e).1), GI.out.1, GI.out.2, (T5.block it (Array.getElem?_eq_some_iff.1 K4.out.2.2.2).1 (fun m => notCells K4.out.2.2.2 _ (ty5 it m))).trans K4.out.2.2.2, ?_, ?_, fun q hq => ?_, ?_⟩
    ·rw [TK.out, runS_snoc]
     exact K4.out.1.1.turned T5 (fun j m => ⟨not_typed (ty5 j m) (by decide), not_typed (ty5 j m) (by decide)⟩)
    ·rw [List.length_append, List.flatMap_append]; exact hown
    ·have hn : Nums w4 w.heap.size q.2 q.1.args := (List.mem_append.1 hq).elim (fun hq => K4.out.2.1 q hq) (fun hq => Q4.out.2.2 q hq)
     exact hn.kept (fun j e => T5.block j (hn.lt j e).2 (fun m => not_typed (ty5 j m) (by decide) (numsTyped hn j e)))
    ·rw [List.map_append, SM.out, Q4.out.1, TK.out, evRun_snoc])
   clear hown hg T5 ty5 K4 Q4 SM TK
   have hpos5 : w5.iterPos it = k + 1 := iter_pos L5.out.iter
   go_roundw
   case rel => exact ⟨k + 1, v4, ps ++ qs, by omega, L5⟩
   case measure => rw [hpos5, hpos]; omega
  ·obtain rfl : k = 19 := by omega
   obtain ⟨v1, v2, v3, rfl⟩ := three_of (show ps.map Prod.fst = [e1, e2, e3] from by rw [LR.out.same]; exact theE)
   obtain ⟨ge, ce, hu2, hce, hge, hgel, hev⟩ := own_at LR.out.own (by simp)
   subst hu2
   have hnx0 := fun ty => Lib.run_next_end_at (P := Tryz.prog) wr it theS 19 ty LR.out.iter (by rw [theS_size]; omega)
   have NW := Lib.hid (new_walk 3 2 wr)
   have NB := Lib.hid (show ∀ q ∈ [(e1, v1), (e2, v2), (e3, v3)], ∀ k, q.2.ownBlock = some k → k < wr.heap.size from fun q hq k e => ((LR.out.num q hq).lt k e).2)
   have SP := Lib.hid (show Spans wr from HS.out.below LR.out.old HS.out.size)
   clear hev hgel hpos
   go_wp2_with fail
   refine NW.out.mono ?_
   rintro e w6 ⟨p, g, xs, rfl, s6, hp, hg, _, b6⟩
   have L6 := Lib.hid (LR.out.laid b6)
   have S6 := Lib.hid (show ScAt w6 p g (sAt 0) xs from s6)
   have SP6 := Lib.hid (SP.out.below b6 SP.out.size)
   have hp0 : w.heap.size ≤ p := by have := LR.out.old.size; omega
   have hg0 : w.heap.size ≤ g := by have := LR.out.old.size; omega
   have PG := Lib.hid (And.intro (And.intro hp hg) (And.intro hp0 hg0))
   have WR := Lib.hid (show w.heap.size ≤ wr.heap.size from LR.out.old.size)
   obtain ⟨z6, hz6⟩ : ∃ z6, wr.heap.size = z6 := ⟨_, rfl⟩
   rw [hz6] at NB PG WR
   clear NW s6 hp hg b6 hnx0 LR SP hp0 hg0 hz6
   go_wp2_with fail
   go_loopw [7, 35] (fun _ v35 wx => ∃ (j : Nat) (xs : List RowIn), v35 = .int .i64 j ∧ j ≤ 3 ∧ Hid (L7 w gp it 19 vp (.slice (some ⟨ge, 0, none⟩) 3 ce) [(e1, v1), (e2, v2), (e3, v3)] wx) ∧ Hid (ScAt wx p g (sAt j) xs) ∧ Hid (Spans wx)) (fun _ v35 _ => 3 - (intOf v35).toNat)
   case atStart => exact ⟨0, xs, rfl, by omega, L6, S6, SP6⟩
   case round =>
    obtain ⟨j, xs7, rfl, hj3, L7x, S7x, P7x⟩ := hrel
    clear L6 S6 SP6
    by_cases hj : j < 3
    ·have hj0 : (0 : Int) ≤ (j : Int) := by omega
     have hj1 : (j : Int) < 3 := by omega
     obtain ⟨q, hq⟩ : ∃ q, [(e1, v1), (e2, v2), (e3, v3)][j]? = some q := ⟨_, List.getElem?_eq_getElem (by simpa using hj)⟩
     have hqm := List.mem_of_getElem? hq
     have hqe : theEs[j]? = some q.1 := by
      have : theEs = [(e1, v1), (e2, v2), (e3, v3)].map Prod.fst := rfl
      rw [this, List.getElem?_map, hq]; rfl
     obtain ⟨hk2, hk3, hr0, hr1⟩ := e_kinds q.1 (List.mem_of_getElem? hqe)
     obtain ⟨⟨kk, rr, args, text⟩, va⟩ := q
     simp only at hk2 hk3 hr0 hr1
     obtain ⟨A, ca, hva⟩ := nums_shape (L7x.out.num _ hqm)
     simp only at hva
     subst hva
     obtain ⟨ge', ce', hu2, _, _, hgel, hev⟩ := own_at L7x.out.own (by simp)
     injection hu2 with hu2 _ hu3
     injection hu2 with hu2
     injection hu2 with hu2
     subst hu2 hu3
     have cc : ∀ i u, (evVals (⟨kk, rr, args, text⟩, Value.slice A args.length ca))[i]? = some u → wr.cell? ⟨ge, j * 4 + i, none⟩ = some u := fun i u hu => hev (j * 4 + i) u (flatMap_get evVals 4 (fun _ => rfl) _ j _ hq i u hu)
     have c0 : wr.cell? ⟨ge, j * 4, none⟩ = some (.int .i64 kk) := cc 0 _ rfl
     have c1 : wr.cell? ⟨ge, j * 4 + 1, none⟩ = some (.int .i32 rr) := cc 1 _ rfl
     have c2 : wr.cell? ⟨ge, j * 4 + 2, none⟩ = some (.slice A args.length ca) := cc 2 _ rfl
     have c3 : wr.cell? ⟨ge, j * 4 + 3, none⟩ = some (.string ⟨text.toArray⟩) := cc 3 _ rfl
     have hinc : IntKind.i64.wrap ((j : Int) + 1) = (j : Int) + 1 := IntWalk.i64_in _ (by omega)
     obtain ⟨wa, hwa⟩ : ∃ wa, wr.alloc (.cells #[.int .i64 kk, .int .i32 rr, .slice A args.length ca, .string ⟨text.toArray⟩] 43) = wa := ⟨_, rfl⟩
     have ba : Below wr.heap.size wr wa := by rw [← hwa]; exact (Below.refl _ _).alloc (Nat.le_refl _) _
     have S1 := S7x.out.laid ba
     have P1 := P7x.out.below ba P7x.out.size
     have L1 := L7x.out.laid ba
     have hz : z6 ≤ wa.heap.size := by have := S1.ltp; have := PG.out.1.1; omega
     have AQ : Sq wa z6 1 args.length A (args.map (Value.int .i64)) := nums_sq (L1.num _ hqm) (fun k e => NB.out _ hqm k e)
     have DO := Lib.hid (do_walk kk rr A args.length ca ⟨text.toArray⟩ args wa S1
      (fun _ W b => print_walk rr hr0 hr1 W (P1.below b P1.size) (S1.laid b))
      (fun e => absurd e hk2)
      (fun e W b => by
       have e72 := hk3 e
       subst e72
       exact csiH_walk A args.length ca args W (B := z6) (Nat.le_trans hz b.size) (AQ.below (b.mono hz)) (fun k m => by rcases m with rfl | rfl; exact PG.out.1.1; exact PG.out.1.2) (S1.laid b)))
     have FW := Lib.hid (And.intro S1 (And.intro P1 L1))
     have SN := Lib.hid (sAt_next hqe)
     have HWA := Lib.hid hwa
     clear hev hgel cc hqe hq hqm hk2 hk3 hr0 hr1 S1 P1 L1 AQ hz ba S7x L7x P7x hwa hge hce
     go_wp2_with fail
     rw [HWA.out]
     refine DO.out.mono ?_
     rintro e w8 ⟨v8, ys, xs8, rfl, s8, hw8, _⟩
     have L8 := Lib.hid (went_L7 FW.out.2.2 FW.out.1 PG.out.2.1 PG.out.2.2 hw8)
     have P8 := Lib.hid (spans_went FW.out.2.1 FW.out.1 hw8)
     have S8 := Lib.hid (show ScAt w8 p g (sAt (j + 1)) xs8 by rw [SN.out]; exact s8)
     clear s8 hw8 DO FW SN HWA c0 c1 c2 c3
     go_wp2
     go_roundw
     case rel => exact ⟨j + 1, xs8, by first | rfl | (congr 1; done) | (congr 1; omega), by omega, L8, S8, P8⟩
     case measure => first | (simp [intOf]; done) | (simp [intOf]; omega)
    ·obtain rfl : j = 3 := by omega
     have BK := Lib.hid (rowBlank_walk 3 wr)
     have hb3 : blankN 3 = 3 := rfl
     rw [hb3] at BK
     clear hge hce
     go_wp2_with fail
     refine BK.out.mono ?_
     rintro e w8 ⟨g8, rfl, hc8, b8⟩
     have K8 := Lib.hid (And.intro (And.intro (L7x.out.laid b8) (S7x.out.laid b8)) (And.intro (P7x.out.below b8 P7x.out.size) hc8))
     have SETC := Lib.hid (show Calls Tryz.prog 10 #[rowV (some ⟨g8, 0, none⟩) 3 3 false, .int .i64 1, .slice (some ⟨w8.heap.size + 1, 0, none⟩) 2 2] ((w8.alloc (.cells #[.slice (some ⟨g8, 0, none⟩) 3 3, .bool false] 24)).alloc (.cells #[.int .i32 20013, .int .i64 2, .int .i64 0, .int .i32 0, .int .i64 0, .int .i64 0] 33)) fun e w' => ∃ A c, e = .returned (.tuple #[.agg #[.slice A 3 c, .bool false], .bool true]) ∧ HasC w' 0 (.slice A 3 c) l9 ∧ Below w8.heap.size w8 w' from by
      have ba := (Below.refl w8.heap.size w8).alloc (Nat.le_refl _) (.cells #[.slice (some ⟨g8, 0, none⟩) 3 3, .bool false] 24)
      have sa : (w8.alloc (.cells #[.slice (some ⟨g8, 0, none⟩) 3 3, .bool false] 24)).heap.size = w8.heap.size + 1 := by simp
      generalize w8.alloc (.cells #[.slice (some ⟨g8, 0, none⟩) 3 3, .bool false] 24) = wa at ba sa ⊢
      have bb := ba.alloc ba.size (.cells #[.int .i32 20013, .int .i64 2, .int .i64 0, .int .i32 0, .int .i64 0, .int .i64 0] 33)
      have hb := heap_alloc_new wa (.cells #[.int .i32 20013, .int .i64 2, .int .i64 0, .int .i32 0, .int .i64 0, .int .i64 0] 33)
      rw [sa] at hb
      generalize wa.alloc (.cells #[.int .i32 20013, .int .i64 2, .int .i64 0, .int .i32 0, .int .i64 0, .int .i64 0] 33) = wb at bb hb ⊢
      have sw := rowSet_walk (some ⟨g8, 0, none⟩) 3 3 false (blanksL 3) 1 (some ⟨w8.heap.size + 1, 0, none⟩) 2 2 theL wb (K8.out.2.1.below bb K8.out.2.1.size) (blanks_signs 3) theL_range ((HasC.sq K8.out.2.2).below bb |>.up bb.size) (by omega) (by omega) (sq_cells (l := theL) hb)
      rw [set_ok, set_res] at sw
      refine sw.mono ?_
      rintro e w' ⟨A, n, c, rfl, h1, h2⟩
      have hn : n = 3 := by
       obtain ⟨_, _, e, _⟩ := HasC.shape h1
       injection e
      subst hn
      exact ⟨A, c, rfl, HasC.mono h1 (Nat.zero_le _), bb.trans (h2.mono bb.size)⟩)
     clear b8 hc8 BK L7x S7x P7x
     go_wp2_with fail
     refine SETC.out.mono ?_
     rintro e w9 ⟨A9, c9, rfl, h9, b9⟩
     have K9 := Lib.hid (And.intro (And.intro (K8.out.1.1.laid b9) (K8.out.1.2.laid b9)) (And.intro (K8.out.2.1.below b9 K8.out.2.1.size) h9))
     have ERC := Lib.hid (show Calls Tryz.prog 12 #[rowV A9 3 c9 false, .int .i64 2, .int .i64 3] (w9.alloc (.cells #[.slice A9 3 c9, .bool false] 24)) fun e w' => ∃ A c, e = .returned (.tuple #[.agg #[.slice A 3 c, .bool false], .bool true]) ∧ HasC w' 0 (.slice A 3 c) (blanksL 3) ∧ Below w9.heap.size w9 w' ∧ RowAt w' w9.heap.size (.slice A9 3 c9) false from by
      have ba := (Below.refl w9.heap.size w9).alloc (Nat.le_refl _) (.cells #[.slice A9 3 c9, .bool false] 24)
      have ra : RowAt (w9.alloc (.cells #[.slice A9 3 c9, .bool false] 24)) w9.heap.size (.slice A9 3 c9) false := heap_alloc_new w9 _
      generalize w9.alloc (.cells #[.slice A9 3 c9, .bool false] 24) = wa at ba ra ⊢
      have ew := rowErase_walk A9 3 c9 false l9 2 3 wa (K9.out.2.1.below ba K9.out.2.1.size) l9_range ((HasC.sq K9.out.2.2).below ba |>.up ba.size) (by omega)
      rw [erase_ok, erase_res, erase_wrap] at ew
      refine ew.mono ?_
      rintro e w' ⟨A, n, c, rfl, h1, h2⟩
      have hn : n = 3 := by
       obtain ⟨_, _, e, _⟩ := HasC.shape h1
       injection e
      subst hn
      exact ⟨A, c, rfl, HasC.mono h1 (Nat.zero_le _), ba.trans (h2.mono ba.size), (h2.block _ ra.lt).trans ra⟩)
     clear SETC K8 h9 b9
     go_wp2_with fail
     refine ERC.out.mono ?_
     rintro e w10 ⟨A11, c11, rfl, h11, b10, r10⟩
     obtain ⟨w11, hw11⟩ : ∃ w11, w10.alloc (.cells #[.slice A11 3 c11, .bool false] 24) = w11 := ⟨_, rfl⟩
     have b11 : Below w10.heap.size w10 w11 := by rw [← hw11]; exact (Below.refl _ _).alloc (Nat.le_refl _) _
     have K11 := Lib.hid (show B7 w gp it vp ge ce v1 v2 v3 p g xs7 w9.heap.size A9 c9 w10.heap.size A11 c11 w11 from by
      have bb := b10.trans (b11.mono b10.size)
      have r11 : RowAt w11 w10.heap.size (.slice A11 3 c11) false := by rw [← hw11]; exact heap_alloc_new w10 _
      exact ⟨K9.out.1.1.laid bb, K9.out.1.2.laid bb, K9.out.2.1.below bb K9.out.2.1.size, (b11.block _ r10.lt).trans r10, HasC.keep K9.out.2.2 (fun j e => bb.block j (HasC.lt K9.out.2.2 j e).2), r11, HasC.keep h11 (fun j e => b11.block j (HasC.lt h11 j e).2)⟩)
     have HW11 := Lib.hid hw11
     obtain ⟨z9, hz9⟩ : ∃ z9, w9.heap.size = z9 := ⟨_, rfl⟩
     obtain ⟨z10, hz10⟩ : ∃ z10, w10.heap.size = z10 := ⟨_, rfl⟩
     rw [hz9, hz10] at K11
     have HZ := Lib.hid (And.intro hz9 hz10)
     clear ERC K9 h11 b10 r10 b11 hw11 hz9 hz10
     go_wp2_with fail
     rw [HW11.out, HZ.out.1, HZ.out.2]
     have POSEQ : ∀ w : World, (binOp .eql 50 (.agg #[.int .i64 0, .int .i64 2]) (.agg #[.int .i64 0, .int .i64 2])).run Tryz.prog w = .ok (.bool true) w := fun w => by first | rfl | kernel_rfl
     obtain ⟨_, _, _, _, Ae, cae, hv1⟩ := K11.out.ev
     subst hv1
     refine (rows_walk w11 K11.out.s).mono ?_
     rintro e w12 ⟨v13, ys, rfl, sh⟩
     have K12 := Lib.hid (K11.out.laid sh.old)
     obtain ⟨g13, c13, A13, cc13, k13, rfl, rfl, hx13⟩ := shown_x sh
     have HX := Lib.hid hx13
     clear sh hx13 K11 HW11 HZ
     go_wp2_with fail
     refine (begun4Begun_walk w12 K12.out.sp).mono ?_
     rintro e w13 ⟨rfl, b13⟩
     have K13 := Lib.hid (K12.out.laid b13)
     have Q13 := Lib.hid b13
     obtain ⟨ev0, ev2, ev5, ev11, _⟩ := K13.out.ev
     clear b13 K12
     go_wp2_with fail
     refine K13.out.quiet.mono ?_
     rintro e w' ⟨rfl, rfl⟩
     go_wp2_with fail
     refine K13.out.cursor.mono ?_
     rintro e w14 ⟨rfl, b14⟩
     have K14 := Lib.hid (K13.out.laid b14)
     have Q14 := Lib.hid (Q13.out.trans (b14.mono Q13.out.size))
     obtain ⟨y0, y1⟩ := HX.out w14 Q14.out
     have r90 : w14.cell? ⟨z9, 0, none⟩ = some (.slice A9 3 c9) := K14.out.r9.get 0
     have r91 : w14.cell? ⟨z9, 1, none⟩ = some (.bool false) := K14.out.r9.get 1
     clear b14 K13 Q13 HX Q14 ev0 ev2 ev5 ev11
     go_wp2_with fail
     refine K14.out.used.mono ?_
     rintro e w15 ⟨rfl, b15⟩
     have K15 := Lib.hid (K14.out.laid b15)
     clear b15 K14 y0 y1 r90 r91
     have r90 : w15.cell? ⟨z9, 0, none⟩ = some (.slice A9 3 c9) := K15.out.r9.get 0
     have r91 : w15.cell? ⟨z9, 1, none⟩ = some (.bool false) := K15.out.r9.get 1
     go_wp2_with fail
     refine K15.out.first.mono ?_
     rintro e w16 ⟨rfl, b16⟩
     have K16 := Lib.hid (K15.out.laid b16)
     clear b16 K15 r90 r91
     have r110 : w16.cell? ⟨z10, 0, none⟩ = some (.slice A11 3 c11) := K16.out.r11.get 0
     have r111 : w16.cell? ⟨z10, 1, none⟩ = some (.bool false) := K16.out.r11.get 1
     go_wp2_with fail
     refine K16.out.blank.mono ?_
     rintro e w17 ⟨rfl, b17⟩
     have DN := Lib.hid (K16.out.laid b17).l.old
     clear b17 K16 r110 r111
     go_wp2
     go_ret
     exact ⟨rfl, DN.out⟩
end Bg
