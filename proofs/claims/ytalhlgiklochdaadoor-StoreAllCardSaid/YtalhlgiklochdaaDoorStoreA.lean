/-
  store.clamp: the limit that is nearest.
  store.New, Len, Limit, Gone, Bytes; which page the next row goes into.
  store.At: the i-th row.
-/
import Derived.Test.YtalhlgiklochdaaDoorMem
import Derived.Test.YtalhlgiklochdaaDoorStore
namespace Go.Proofs.YtalhlgiklochdaaDoor
open Go.ChangeShapes Go.WideShapes Go.ChangeAt Go.RowKit
def clampN (n : Int) : Nat := (min (max n 0) 1000000).toNat
theorem clampN_le (n : Int) : clampN n ≤ 1000000 := by unfold clampN; omega
set_option maxRecDepth 100000 in
set_option maxHeartbeats 1600000 in
theorem clamp_walk (n : Int) (w : World) : Calls Tryd.prog 64 #[.int .i64 n] w fun e w' => e = .returned (.int .i64 (clampN n : Int)) ∧ w = w' := by
  have h : (clampN n : Int) = min (max n 0) 1000000 := by unfold clampN; omega
  rw [h]
  clear h
  go_enter Tryd.func64, Tryd.ntmps64
  go_wp2
  all_goals
    go_ret
    exact ⟨ret_int (by omega), rfl⟩
end Go.Proofs.YtalhlgiklochdaaDoor
namespace Go.Proofs.YtalhlgiklochdaaDoor
open Go.ChangeShapes Go.WideShapes Go.ChangeAt Go.RowKit

def NewS (lim : Int) (w : World) (e : Ending) (w' : World) : Prop := e = .returned (ptr w.heap.size) ∧ StoreAt w' w.heap.size w.heap.size (.slice none 0 0) [] (clampN lim) 0 ∧ Below w.heap.size w w' ∧ w'.heap.size = w.heap.size + 1
set_option maxRecDepth 100000 in
set_option maxHeartbeats 1600000 in
theorem storeNew_walk (lim : Int) (w : World) : Calls Tryd.prog 39 #[.int .i64 lim] w fun e w' => NewS lim w e w' := by
  have CW := Lib.hid (clamp_walk lim w)
  go_enter Tryd.func39, Tryd.ntmps39
  go_wp2_with fail
  refine CW.out.mono ?_
  rintro e w' ⟨rfl, rfl⟩
  clear CW
  go_wp2
  go_ret
  exact ⟨rfl, ⟨⟨heap_alloc_new w _, Nat.le_refl _, SlAt.nothing _ _ _, (fun p hp => by cases hp), List.nodup_nil⟩, ⟨(fun p hp => by cases hp), (fun p hp => by cases hp), fun i p hp => by simp at hp⟩⟩, (Below.refl _ _).alloc (Nat.le_refl _) _, by simp⟩
section
variable {base g : Nat} {v : Value} {ps : List Pg} {lim many bytes gone : Int} {w : World}
set_option maxRecDepth 100000 in
theorem storeLen_walk (h : StR w base g v ps lim many bytes gone) : Calls Tryd.prog 42 #[ptr g] w fun e w' => e = .returned (.int .i64 many) ∧ w = w' := by
  have c : w.cell? ⟨g, 2, none⟩ = some (.int .i64 many) := h.get 2
  clear h
  go_enter Tryd.func42, Tryd.ntmps42
  go_wp2
  go_ret
  exact ⟨rfl, rfl⟩
set_option maxRecDepth 100000 in
theorem storeLimit_walk (h : StR w base g v ps lim many bytes gone) : Calls Tryd.prog 43 #[ptr g] w fun e w' => e = .returned (.int .i64 lim) ∧ w = w' := by
  have c : w.cell? ⟨g, 1, none⟩ = some (.int .i64 lim) := h.get 1
  clear h
  go_enter Tryd.func43, Tryd.ntmps43
  go_wp2
  go_ret
  exact ⟨rfl, rfl⟩
set_option maxRecDepth 100000 in
theorem storeGone_walk (h : StR w base g v ps lim many bytes gone) : Calls Tryd.prog 44 #[ptr g] w fun e w' => e = .returned (.int .i64 gone) ∧ w = w' := by
  have c : w.cell? ⟨g, 4, none⟩ = some (.int .i64 gone) := h.get 4
  clear h
  go_enter Tryd.func44, Tryd.ntmps44
  go_wp2
  go_ret
  exact ⟨rfl, rfl⟩
set_option maxRecDepth 100000 in
theorem storeBytes_walk (h : StR w base g v ps lim many bytes gone) : Calls Tryd.prog 46 #[ptr g] w fun e w' => e = .returned (.int .i64 bytes) ∧ w = w' := by
  have c : w.cell? ⟨g, 3, none⟩ = some (.int .i64 bytes) := h.get 3
  clear h
  go_enter Tryd.func46, Tryd.ntmps46
  go_wp2
  go_ret
  exact ⟨rfl, rfl⟩
end
section
variable (w : World)
set_option maxRecDepth 100000 in
theorem storeLen_nil : Calls Tryd.prog 42 #[.pointer none] w fun e w' => e = .returned (.int .i64 0) ∧ w = w' := by
  go_enter Tryd.func42, Tryd.ntmps42
  go_wp2
  go_ret
  exact ⟨rfl, rfl⟩
set_option maxRecDepth 100000 in
theorem storeLimit_nil : Calls Tryd.prog 43 #[.pointer none] w fun e w' => e = .returned (.int .i64 0) ∧ w = w' := by
  go_enter Tryd.func43, Tryd.ntmps43
  go_wp2
  go_ret
  exact ⟨rfl, rfl⟩
set_option maxRecDepth 100000 in
theorem storeGone_nil : Calls Tryd.prog 44 #[.pointer none] w fun e w' => e = .returned (.int .i64 0) ∧ w = w' := by
  go_enter Tryd.func44, Tryd.ntmps44
  go_wp2
  go_ret
  exact ⟨rfl, rfl⟩
set_option maxRecDepth 100000 in
theorem storeBytes_nil : Calls Tryd.prog 46 #[.pointer none] w fun e w' => e = .returned (.int .i64 0) ∧ w = w' := by
  go_enter Tryd.func46, Tryd.ntmps46
  go_wp2
  go_ret
  exact ⟨rfl, rfl⟩
end
/-- A page of the slice, as it is read there. -/
theorem StR.pageCell {base g : Nat} {v : Value} {ps : List Pg} {lim many bytes gone : Int} {w : World} (h : StR w base g v ps lim many bytes gone) {i : Nat} {p : Pg} (hp : ps[i]? = some p) :
    ∃ b off cap, v = .slice (some ⟨b, off, none⟩) ps.length cap ∧ ps.length ≤ cap ∧ base ≤ b ∧ b < w.heap.size ∧ w.cell? ⟨b, off + i, none⟩ = some (ptr p.g) ∧ w.frozen? ⟨b, off + i, none⟩ = false :=
  h.sl.cell (by rw [List.getElem?_map, hp]; rfl)
def RoomyNew (w : World) (e : Ending) (w' : World) : Prop := e = .returned (.tuple #[ptr w.heap.size, .bool true]) ∧ PageAt w' w.heap.size w.heap.size [] [] ∧ Below w.heap.size w w' ∧ w'.heap.size = w.heap.size + 1
set_option maxRecDepth 100000 in
set_option maxHeartbeats 1600000 in
theorem roomy_none {base g : Nat} {v : Value} {lim many bytes gone : Int} {w : World} (h : StR w base g v [] lim many bytes gone) :
    Calls Tryd.prog 67 #[ptr g] w fun e w' => RoomyNew w e w' := by
  obtain ⟨A, c, rfl, _⟩ := h.sl.shape
  have c0 : w.cell? ⟨g, 0, none⟩ = some (.slice A 0 c) := h.get 0
  have NW := Lib.hid (pageNew_walk w)
  clear h
  go_enter Tryd.func67, Tryd.ntmps67
  go_wp2_with fail
  refine NW.out.mono ?_
  rintro e w' ⟨rfl, hp, hb, hs⟩
  have P := Lib.hid (And.intro hp (And.intro hb hs))
  clear hp hb hs NW c0
  go_wp2
  go_ret2
  exact ⟨rfl, P.out⟩
set_option maxRecDepth 100000 in
set_option maxHeartbeats 1600000 in
theorem roomy_full {base g : Nat} {v : Value} {ps : List Pg} {p : Pg} {lim many bytes gone : Int} {w : World} (h : StR w base g v (ps ++ [p]) lim many bytes gone) (hf : p.rows.length = 16) (hn : ps.length ≤ 1000000) :
    Calls Tryd.prog 67 #[ptr g] w fun e w' => RoomyNew w e w' := by
  obtain ⟨b, off, cap, rfl, hcap, _, _, hc, _⟩ := h.pageCell (i := ps.length) (p := p) (by simp)
  obtain ⟨n, hnn⟩ : ∃ n, ps.length = n := ⟨_, rfl⟩
  rw [List.length_append, List.length_singleton, hnn] at hcap h
  rw [hnn] at hc hn
  have c0 : w.cell? ⟨g, 0, none⟩ = some (.slice (some ⟨b, off, none⟩) (n + 1) cap) := h.get 0
  have NW := Lib.hid (pageNew_walk w)
  have LW := Lib.hid (pageLen_walk base p.g p.vs p.rows w (h.page p (by simp)))
  rw [hf] at LW
  clear h hnn hf
  go_enter Tryd.func67, Tryd.ntmps67
  go_wp2_with fail
  refine LW.out.mono ?_
  rintro e w' ⟨rfl, rfl⟩
  clear LW
  go_wp2_with fail
  refine NW.out.mono ?_
  rintro e w' ⟨rfl, hp, hb, hs⟩
  have P := Lib.hid (And.intro hp (And.intro hb hs))
  clear hp hb hs NW c0
  go_wp2
  go_ret2
  exact ⟨rfl, P.out⟩
set_option maxRecDepth 100000 in
set_option maxHeartbeats 1600000 in
theorem roomy_last {base g : Nat} {v : Value} {ps : List Pg} {p : Pg} {lim many bytes gone : Int} {w : World} (h : StR w base g v (ps ++ [p]) lim many bytes gone) (hf : p.rows.length < 16) (hn : ps.length ≤ 1000000) :
    Calls Tryd.prog 67 #[ptr g] w fun e w' => e = .returned (.tuple #[ptr p.g, .bool false]) ∧ w = w' := by
  obtain ⟨b, off, cap, rfl, hcap, _, _, hc, _⟩ := h.pageCell (i := ps.length) (p := p) (by simp)
  obtain ⟨n, hnn⟩ : ∃ n, ps.length = n := ⟨_, rfl⟩
  rw [List.length_append, List.length_singleton, hnn] at hcap h
  rw [hnn] at hc hn
  have c0 : w.cell? ⟨g, 0, none⟩ = some (.slice (some ⟨b, off, none⟩) (n + 1) cap) := h.get 0
  have LW := Lib.hid (pageLen_walk base p.g p.vs p.rows w (h.page p (by simp)))
  obtain ⟨m, hm⟩ : ∃ m, p.rows.length = m := ⟨_, rfl⟩
  rw [hm] at LW hf
  clear h hnn hm
  go_enter Tryd.func67, Tryd.ntmps67
  go_wp2_with fail
  refine LW.out.mono ?_
  rintro e w' ⟨rfl, rfl⟩
  clear LW
  go_wp2
  go_ret2
  exact ⟨rfl, rfl⟩
end Go.Proofs.YtalhlgiklochdaaDoor
namespace Go.Proofs.YtalhlgiklochdaaDoor
open Go.ChangeShapes Go.WideShapes Go.ChangeAt Go.RowKit
set_option maxRecDepth 100000 in
set_option maxHeartbeats 3200000 in
theorem storeAt_none {base g : Nat} {v : Value} {ps : List Pg} {lim bytes gone : Int} {m : Nat} {w : World} (i : Int) (h : StR w base g v ps lim m bytes gone) (hi : i < 0 ∨ (m : Int) ≤ i) :
    Calls Tryd.prog 45 #[ptr g, .int .i64 i] w fun e w' => AtPost none w e w' := by
  have LW := Lib.hid (storeLen_walk (h.below ((Below.refl w.heap.size w).alloc (Nat.le_refl _) (.cells #[.slice none 0 0, .bool false] 31))))
  have RN := Lib.hid (show RowAt (w.alloc (.cells #[.slice none 0 0, .bool false] 31)) w.heap.size (.slice none 0 0) false from heap_alloc_new w _)
  have B1 := Lib.hid ((Below.refl w.heap.size w).alloc (Nat.le_refl _) (.cells #[.slice none 0 0, .bool false] 31))
  clear h
  by_cases h0 : i < 0
  · clear hi LW
    go_enter Tryd.func45, Tryd.ntmps45
    go_wp2
    generalize w.alloc (.cells #[.slice none 0 0, .bool false] 31) = wz at RN B1 ⊢
    have e0 := RN.out.get 0
    have e1 := RN.out.get 1
    exact bodyPost_ret (v := .tuple #[.agg #[.slice none 0 0, .bool false], .bool false]) (by simp [results, Tryd.results45, go_sem, e0, e1]) rfl ⟨_, rfl, HasC.nothing _ _, B1.out⟩
  · have h1 : (m : Int) ≤ i := by omega
    clear hi
    go_enter Tryd.func45, Tryd.ntmps45
    go_wp2_with fail
    refine LW.out.mono ?_
    rintro e w' ⟨rfl, rfl⟩
    clear LW
    go_wp2
    generalize w.alloc (.cells #[.slice none 0 0, .bool false] 31) = wz at RN B1 ⊢
    have e0 := RN.out.get 0
    have e1 := RN.out.get 1
    exact bodyPost_ret (v := .tuple #[.agg #[.slice none 0 0, .bool false], .bool false]) (by simp [results, Tryd.results45, go_sem, e0, e1]) rfl ⟨_, rfl, HasC.nothing _ _, B1.out⟩
set_option maxRecDepth 100000 in
set_option maxHeartbeats 3200000 in
theorem storeAt_nil (i : Int) (w : World) : Calls Tryd.prog 45 #[.pointer none, .int .i64 i] w fun e w' => AtPost none w e w' := by
  have LW := Lib.hid (storeLen_nil (w.alloc (.cells #[.slice none 0 0, .bool false] 31)))
  have RN := Lib.hid (show RowAt (w.alloc (.cells #[.slice none 0 0, .bool false] 31)) w.heap.size (.slice none 0 0) false from heap_alloc_new w _)
  have B1 := Lib.hid ((Below.refl w.heap.size w).alloc (Nat.le_refl _) (.cells #[.slice none 0 0, .bool false] 31))
  by_cases h0 : i < 0
  · clear LW
    go_enter Tryd.func45, Tryd.ntmps45
    go_wp2
    generalize w.alloc (.cells #[.slice none 0 0, .bool false] 31) = wz at RN B1 ⊢
    have e0 := RN.out.get 0
    have e1 := RN.out.get 1
    exact bodyPost_ret (v := .tuple #[.agg #[.slice none 0 0, .bool false], .bool false]) (by simp [results, Tryd.results45, go_sem, e0, e1]) rfl ⟨_, rfl, HasC.nothing _ _, B1.out⟩
  · have h1 : (0 : Int) ≤ i := by omega
    go_enter Tryd.func45, Tryd.ntmps45
    go_wp2_with fail
    refine LW.out.mono ?_
    rintro e w' ⟨rfl, rfl⟩
    clear LW
    go_wp2
    generalize w.alloc (.cells #[.slice none 0 0, .bool false] 31) = wz at RN B1 ⊢
    have e0 := RN.out.get 0
    have e1 := RN.out.get 1
    exact bodyPost_ret (v := .tuple #[.agg #[.slice none 0 0, .bool false], .bool false]) (by simp [results, Tryd.results45, go_sem, e0, e1]) rfl ⟨_, rfl, HasC.nothing _ _, B1.out⟩
/-- What the store's At makes of a page's. -/
theorem AtPost.lift {r : PRow} {w w3 : World} {v3 : Value} (h3 : HasC w3 (w.heap.size + 1) v3 r.2) (b3 : Below (w.heap.size + 1) (w.alloc (.cells #[.slice none 0 0, .bool false] 31)) w3) :
    RowAt ((w3.setCell ⟨w.heap.size, 0, none⟩ v3).setCell ⟨w.heap.size, 1, none⟩ (.bool r.1)) w.heap.size v3 r.1 ∧ Below w.heap.size w ((w3.setCell ⟨w.heap.size, 0, none⟩ v3).setCell ⟨w.heap.size, 1, none⟩ (.bool r.1)) ∧ HasC ((w3.setCell ⟨w.heap.size, 0, none⟩ v3).setCell ⟨w.heap.size, 1, none⟩ (.bool r.1)) w.heap.size v3 r.2 := by
  have rn : RowAt (w.alloc (.cells #[.slice none 0 0, .bool false] 31)) w.heap.size (.slice none 0 0) false := heap_alloc_new w _
  have b1 := (Below.refl w.heap.size w).alloc (Nat.le_refl _) (.cells #[.slice none 0 0, .bool false] 31)
  have r3 : RowAt w3 w.heap.size (.slice none 0 0) false := (b3.block w.heap.size (by omega)).trans rn
  refine ⟨r3.put2 v3 r.1, ((b1.trans (b3.mono (by omega))).setCell (p := ⟨w.heap.size, 0, none⟩) (Nat.le_refl _) v3).setCell (p := ⟨w.heap.size, 1, none⟩) (Nat.le_refl _) (.bool r.1), HasC.keep (HasC.mono h3 (by omega)) fun j e => ?_⟩
  have h := (HasC.lt h3 j e).1
  rw [Below.heap_setCell _ _ _ _ (by show j ≠ w.heap.size; omega), Below.heap_setCell _ _ _ _ (by show j ≠ w.heap.size; omega)]
set_option maxRecDepth 100000 in
set_option maxHeartbeats 6400000 in
theorem storeAt_front {base g : Nat} {v : Value} {p : Pg} {rest : List Pg} {lim bytes gone : Int} {m : Nat} {w : World} (i : Nat) (r : PRow) (hs : Spans w) (h : StR w base g v (p :: rest) lim m bytes gone) (him : i < m) (hr : p.rows[i]? = some r) :
    Calls Tryd.prog 45 #[ptr g, .int .i64 (i : Int)] w fun e w' => AtPost (some r) w e w' := by
  have bb := (Below.refl w.heap.size w).alloc (Nat.le_refl _) (.cells #[.slice none 0 0, .bool false] 31)
  have R1 := h.below bb
  have LW := Lib.hid (storeLen_walk R1)
  have PW := Lib.hid (pageLen_walk base p.g p.vs p.rows _ (R1.page p (by simp)))
  have AW := Lib.hid (pageAt_some base p.g p.vs p.rows i r _ (hs.below bb hs.size) (R1.page p (by simp)) hr)
  obtain ⟨b, off, cap, rfl, hcap, _, _, hc, _⟩ := R1.pageCell (i := 0) (p := p) rfl
  obtain ⟨n, hn⟩ : ∃ n, rest.length = n := ⟨_, rfl⟩
  rw [List.length_cons, hn] at hcap R1
  have c0 : (w.alloc (.cells #[.slice none 0 0, .bool false] 31)).cell? ⟨g, 0, none⟩ = some (.slice (some ⟨b, off, none⟩) (n + 1) cap) := R1.get 0
  rw [Nat.add_zero] at hc
  obtain ⟨f, hf⟩ : ∃ f, p.rows.length = f := ⟨_, rfl⟩
  have hif : i < f := by rw [← hf]; exact (List.getElem?_eq_some_iff.1 hr).1
  rw [hf] at PW
  have Z1 := Lib.hid (show (w.alloc (.cells #[.slice none 0 0, .bool false] 31)).heap.size = w.heap.size + 1 by simp)
  have RN := Lib.hid (show RowAt (w.alloc (.cells #[.slice none 0 0, .bool false] 31)) w.heap.size (.slice none 0 0) false from heap_alloc_new w _)
  clear h R1 hr hf hn hs bb
  go_enter Tryd.func45, Tryd.ntmps45
  go_wp2_with fail
  refine LW.out.mono ?_
  rintro e w2 ⟨rfl, rfl⟩
  clear LW
  go_wp2_with fail
  refine PW.out.mono ?_
  rintro e w2 ⟨rfl, rfl⟩
  clear PW
  go_wp2_with fail
  refine AW.out.mono ?_
  rintro e w3 ⟨v3, rfl, h3, b3⟩
  simp only [Option.elim_some, Option.isSome_some] at h3 ⊢
  rw [Z1.out] at h3 b3
  obtain ⟨A3, c3, rfl, _⟩ := HasC.shape h3
  have DONE := Lib.hid (AtPost.lift h3 b3)
  have r3 : RowAt w3 w.heap.size (.slice none 0 0) false := (b3.block w.heap.size (by omega)).trans RN.out
  have z0 := r3.get 0
  have z1 := r3.get 1
  have zf0 := r3.free 0
  have zf1 := r3.free 1
  simp only [List.getElem?_toArray, List.getElem?_cons_zero, List.getElem?_cons_succ] at z0 z1
  obtain ⟨ln, hln⟩ : ∃ ln, r.2.length = ln := ⟨_, rfl⟩
  rw [hln] at DONE ⊢
  clear h3 b3 r3 AW hln c0 hc Z1 RN
  go_wp2
  generalize (w3.setCell ⟨w.heap.size, 0, none⟩ (.slice A3 ln c3)).setCell ⟨w.heap.size, 1, none⟩ (.bool r.1) = wz at DONE ⊢
  have e0 := DONE.out.1.get 0
  have e1 := DONE.out.1.get 1
  exact bodyPost_ret (v := .tuple #[.agg #[.slice A3 ln c3, .bool r.1], .bool true]) (by simp [results, Tryd.results45, go_sem, e0, e1]) rfl ⟨_, rfl, DONE.out.2.2, DONE.out.2.1⟩
set_option maxRecDepth 100000 in
set_option maxHeartbeats 6400000 in
theorem storeAt_behind {base g : Nat} {v : Value} {p : Pg} {rest : List Pg} {lim bytes gone : Int} {m : Nat} {w : World} (i : Nat) (r : PRow) (hs : Spans w) (h : StR w base g v (p :: rest) lim m bytes gone) (him : i < m) (hi6 : i ≤ 1000000000) (hpi : p.rows.length ≤ i) {q : Pg} (hq : rest[(i - p.rows.length) / 16]? = some q) (hr : q.rows[(i - p.rows.length) % 16]? = some r) :
    Calls Tryd.prog 45 #[ptr g, .int .i64 (i : Int)] w fun e w' => AtPost (some r) w e w' := by
  have bb := (Below.refl w.heap.size w).alloc (Nat.le_refl _) (.cells #[.slice none 0 0, .bool false] 31)
  have R1 := h.below bb
  have LW := Lib.hid (storeLen_walk R1)
  have PW := Lib.hid (pageLen_walk base p.g p.vs p.rows _ (R1.page p (by simp)))
  have AW := Lib.hid (pageAt_some base q.g q.vs q.rows ((i - p.rows.length) % 16) r _ (hs.below bb hs.size) (R1.page q (List.mem_cons_of_mem _ (List.mem_of_getElem? hq))) hr)
  obtain ⟨b, off, cap, rfl, hcap, _, _, hc, _⟩ := R1.pageCell (i := 0) (p := p) rfl
  obtain ⟨b', off', cap', e', _, _, _, hcq, _⟩ := R1.pageCell (i := (i - p.rows.length) / 16 + 1) (p := q) (by simpa using hq)
  injection e' with e1 e3 e4
  injection e1 with e1
  injection e1 with e1 e2
  subst e1 e2
  clear e3 e4
  have hjl : (i - p.rows.length) / 16 < rest.length := (List.getElem?_eq_some_iff.1 hq).1
  obtain ⟨n, hn⟩ : ∃ n, rest.length = n := ⟨_, rfl⟩
  rw [hn] at hjl
  rw [List.length_cons, hn] at hcap R1
  have c0 : (w.alloc (.cells #[.slice none 0 0, .bool false] 31)).cell? ⟨g, 0, none⟩ = some (.slice (some ⟨b, off, none⟩) (n + 1) cap) := R1.get 0
  rw [Nat.add_zero] at hc
  obtain ⟨f, hf⟩ : ∃ f, p.rows.length = f := ⟨_, rfl⟩
  rw [hf] at hpi hcq hjl AW
  have hif : ¬ (i : Int) < (f : Int) := by omega
  obtain ⟨t, ht⟩ : ∃ t, i - f = t := ⟨_, rfl⟩
  rw [ht] at hcq hjl AW
  have k1 : IntKind.i64.wrap ((i : Int) - (f : Int)) = (t : Int) := by rw [show (i : Int) - (f : Int) = (t : Int) by omega]; exact IntWalk.i64_in _ (by omega)
  obtain ⟨jq, hjq⟩ : ∃ jq, t / 16 = jq := ⟨_, rfl⟩
  obtain ⟨jr, hjr⟩ : ∃ jr, t % 16 = jr := ⟨_, rfl⟩
  rw [hjq] at hcq hjl
  rw [hjr] at AW
  have hjq9 : jq ≤ 1000000000 := by omega
  have k2 : (t : Int) / 16 = (jq : Int) := by omega
  have k3 : (t : Int) % 16 = (jr : Int) := by omega
  have k4 : ((1 : Int) + (jq : Int)).toNat = jq + 1 := by omega
  have k5 : (0 : Int) ≤ 1 + (jq : Int) := by omega
  have k6 : (1 : Int) + (jq : Int) < (n : Int) + 1 := by omega
  rw [hf] at PW
  have Z1 := Lib.hid (show (w.alloc (.cells #[.slice none 0 0, .bool false] 31)).heap.size = w.heap.size + 1 by simp)
  have RN := Lib.hid (show RowAt (w.alloc (.cells #[.slice none 0 0, .bool false] 31)) w.heap.size (.slice none 0 0) false from heap_alloc_new w _)
  clear h R1 hr hf hn hs bb hq ht hjq hjr
  go_enter Tryd.func45, Tryd.ntmps45
  go_wp2_with fail
  refine LW.out.mono ?_
  rintro e w2 ⟨rfl, rfl⟩
  clear LW
  go_wp2_with fail
  refine PW.out.mono ?_
  rintro e w2 ⟨rfl, rfl⟩
  clear PW
  go_wp2_with fail
  refine AW.out.mono ?_
  rintro e w3 ⟨v3, rfl, h3, b3⟩
  simp only [Option.elim_some, Option.isSome_some] at h3 ⊢
  rw [Z1.out] at h3 b3
  obtain ⟨A3, c3, rfl, _⟩ := HasC.shape h3
  have DONE := Lib.hid (AtPost.lift h3 b3)
  have r3 : RowAt w3 w.heap.size (.slice none 0 0) false := (b3.block w.heap.size (by omega)).trans RN.out
  have z0 := r3.get 0
  have z1 := r3.get 1
  have zf0 := r3.free 0
  have zf1 := r3.free 1
  simp only [List.getElem?_toArray, List.getElem?_cons_zero, List.getElem?_cons_succ] at z0 z1
  obtain ⟨ln, hln⟩ : ∃ ln, r.2.length = ln := ⟨_, rfl⟩
  rw [hln] at DONE ⊢
  clear h3 b3 r3 AW hln c0 hc Z1 RN
  go_wp2
  generalize (w3.setCell ⟨w.heap.size, 0, none⟩ (.slice A3 ln c3)).setCell ⟨w.heap.size, 1, none⟩ (.bool r.1) = wz at DONE ⊢
  have e0 := DONE.out.1.get 0
  have e1 := DONE.out.1.get 1
  exact bodyPost_ret (v := .tuple #[.agg #[.slice A3 ln c3, .bool r.1], .bool true]) (by simp [results, Tryd.results45, go_sem, e0, e1]) rfl ⟨_, rfl, DONE.out.2.2, DONE.out.2.1⟩
theorem storeAt_some {base g : Nat} {v : Value} {ps : List Pg} {lim gone : Nat} {w : World} (i : Nat) (r : PRow) (hs : Spans w) (h : StoreAt w base g v ps lim gone) (hN : (allRows ps).length ≤ 1000001) (hr : (allRows ps)[i]? = some r) :
    Calls Tryd.prog 45 #[ptr g, .int .i64 (i : Int)] w fun e w' => AtPost (some r) w e w' := by
  have him := (List.getElem?_eq_some_iff.1 hr).1
  cases ps with
  | nil => rw [allRows_nil] at him; simp at him
  | cons p rest =>
    by_cases hf : i < p.rows.length
    · rw [Full.front i hf] at hr
      exact storeAt_front i r hs h.raw him hr
    · rw [h.kept.behind i (by omega)] at hr
      cases hq : rest[(i - p.rows.length) / 16]? with
      | none => rw [hq] at hr; cases hr
      | some q =>
        rw [hq] at hr
        exact storeAt_behind i r hs h.raw him (by omega) (by omega) hq hr
end Go.Proofs.YtalhlgiklochdaaDoor
