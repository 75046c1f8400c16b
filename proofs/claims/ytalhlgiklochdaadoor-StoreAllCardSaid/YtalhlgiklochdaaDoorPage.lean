/-
  bytes.Clone; a page in memory; page.New, Len.
  page.At: a row of a page, told anew.
  A page that lies anywhere (a copy among others): its rows told.
-/
import Derived.Test.YtalhlgiklochdaaDoorStr
import Derived.Shelf.Bytes.SlClone
namespace Go.Proofs.YtalhlgiklochdaaDoor
open Go.ChangeShapes Go.WideShapes Go.ChangeAt Go.RowKit

def ClonePost (xs : List Int) (w : World) (e : Ending) (w' : World) : Prop := ∃ v, e = .returned v ∧ HasB w' w.heap.size v xs ∧ Below w.heap.size w w'
theorem byte_all (l : List Int) : ∀ u ∈ l.map (Value.int .u8), u.oneCell' = true := by
  intro u hu
  obtain ⟨x, _, rfl⟩ := List.mem_map.1 hu
  rfl
set_option maxRecDepth 100000 in
set_option maxHeartbeats 1600000 in
theorem clone_walk (A : Option Addr) (n c : Nat) (xs : List Int) (w : World) {B : Nat} (hq : Sq w B 1 n A (xs.map (Value.int .u8))) (hB : B ≤ w.heap.size) (hn : n ≤ 1000000) :
    Calls Tryd.prog 63 #[.slice A n c] w fun e w' => ClonePost xs w e w' := by
  obtain ⟨i0, hi, hz0, hz1, hz2⟩ := info_parts infoByte
  have hl := hq.size_ints
  have q22 : ∀ (w : World) (a : Option Addr) (n c n' c' : Nat), (binOp .eql 23 (.slice a n c) (.slice none n' c')).run Tryd.prog w = .ok (.bool a.isNone) w := fun w a n c n' c' => Lib.run_eql_slice_nil w _ _ a n c n' c' Tryd.underlying23
  rcases A with _ | ad
  · have h0 : n = 0 := by
      rcases Nat.eq_zero_or_pos n with h0 | h0
      · exact h0
      · obtain ⟨_, _, e, _⟩ := hq.spot h0
        cases e
    have e : xs = [] := List.eq_nil_of_length_eq_zero (by omega)
    subst e
    clear hl hq
    go_enter Tryd.func63, Tryd.ntmps63
    go_wp2
    go_ret
    exact ⟨_, rfl, HasB.nothing _ _, Below.refl _ _⟩
  · have QQ := Lib.hid (hq.alloc hB (.cells #[] 5))
    have LH := Lib.hid hl
    clear hq hl
    go_enter Tryd.func63, Tryd.ntmps63
    go_wp2_with (
      at_builtin
      refine wpl_app rfl _ _ 23 rfl w.heap.size 5 i0 (.int .u8 0) 1 1 Tryd.underlying23 hi hz0 hz1 hz2 rfl (by decide) (.slice (some ⟨w.heap.size, 0, none⟩) 0 0) 0 [] rfl (World.ownsRow_made w #[] 0 (Nat.le_refl _) (Nat.zero_le _) rfl) (some ad) n c (xs.map (Value.int .u8)) rfl B QQ.out (byte_all _) (by unfold maxLen; omega) (by omega) (by simp) ?_
      intro v1 w1 hown hg _
      have HO := Lib.hid (show HasB w1 w.heap.size v1 xs by unfold HasB; rw [LH.out]; simpa using hown)
      have HB := Lib.hid (((Below.refl w.heap.size w).alloc (Nat.le_refl _) (.cells #[] 5)).grown hg (by simp) (fun k e => by simp [Value.ownBlock] at e; omega))
      clear hown hg)
    go_ret
    exact ⟨_, rfl, HO.out, HB.out⟩

/-- A row of a page: does it wrap, its cells. -/
abbrev PRow := Bool × List Cel
/-- A page's cells: its rows' bytes, no bytes, how many rows. -/
def pageCells (vs : List Value) : List Value := vs ++ (List.replicate (16 - vs.length) (.slice none 0 0) ++ [.int .i64 (vs.length : Int)])
/-- A page in memory: the block g, and one for each row's bytes, all of them at base or beyond. -/
structure PageAt (w : World) (base g : Nat) (vs : List Value) (rows : List PRow) : Prop where
  cells : w.heap[g]? = some (.cells (pageCells vs).toArray 90 (0, 0))
  from' : base ≤ g
  many : vs.length = rows.length
  few : rows.length ≤ 16
  row : ∀ (i : Nat) (v : Value) (r : PRow), vs[i]? = some v → rows[i]? = some r → HasB w base v (putL r.1 r.2) ∧ v.ownBlock ≠ some g
  may : ∀ r ∈ rows, mayL r.2 = true ∧ ∀ c ∈ r.2, -2147483648 ≤ c.1 ∧ c.1 ≤ 2147483647
theorem pageCells_many (vs : List Value) (h : vs.length ≤ 16) : (pageCells vs)[16]? = some (.int .i64 (vs.length : Int)) := by
  unfold pageCells
  rw [List.getElem?_append_right h, List.getElem?_append_right (by simp), List.length_replicate]
  simp
theorem pageCells_row (vs : List Value) {i : Nat} {v : Value} (h : vs[i]? = some v) : (pageCells vs)[i]? = some v := by
  unfold pageCells
  rw [List.getElem?_append_left (List.getElem?_eq_some_iff.1 h).1]
  exact h
theorem PageAt.get {w : World} {base g : Nat} {vs : List Value} {rows : List PRow} (h : PageAt w base g vs rows) (j : Nat) : w.cell? ⟨g, j, none⟩ = (pageCells vs)[j]? := by
  rw [cell_of_row w g j _ _ (0, 0) h.cells]
  simp
theorem PageAt.lt {w : World} {base g : Nat} {vs : List Value} {rows : List PRow} (h : PageAt w base g vs rows) : g < w.heap.size := (Array.getElem?_eq_some_iff.1 h.cells).1
set_option maxRecDepth 100000 in
theorem pageLen_walk (base g : Nat) (vs : List Value) (rows : List PRow) (w : World) (h : PageAt w base g vs rows) :
    Calls Tryd.prog 37 #[.pointer (some ⟨g, 0, none⟩)] w fun e w' => e = .returned (.int .i64 (rows.length : Int)) ∧ w = w' := by
  have hm : w.cell? ⟨g, 16, none⟩ = some (.int .i64 (rows.length : Int)) := by rw [h.get, pageCells_many _ (by rw [h.many]; exact h.few), h.many]
  clear h
  go_enter Tryd.func37, Tryd.ntmps37
  go_wp2
  go_ret
  exact ⟨rfl, rfl⟩
set_option maxRecDepth 100000 in
theorem pageLen_nil (w : World) : Calls Tryd.prog 37 #[.pointer none] w fun e w' => e = .returned (.int .i64 0) ∧ w = w' := by
  go_enter Tryd.func37, Tryd.ntmps37
  go_wp2
  go_ret
  exact ⟨rfl, rfl⟩
def NewPost (w : World) (e : Ending) (w' : World) : Prop := e = .returned (.pointer (some ⟨w.heap.size, 0, none⟩)) ∧ PageAt w' w.heap.size w.heap.size [] [] ∧ Below w.heap.size w w' ∧ w'.heap.size = w.heap.size + 1
set_option maxRecDepth 100000 in
set_option maxHeartbeats 1600000 in
theorem pageNew_walk (w : World) : Calls Tryd.prog 33 #[] w fun e w' => NewPost w e w' := by
  go_enter Tryd.func33, Tryd.ntmps33
  go_wp2
  go_ret
  refine ⟨rfl, ⟨heap_alloc_new w _, Nat.le_refl _, rfl, Nat.zero_le _, (fun i v r h => by simp at h), (fun r h => by cases h)⟩, (Below.refl _ _).alloc (Nat.le_refl _) _, by simp⟩
/-- How many bytes rows take. -/
def bytesN (rows : List PRow) : Nat := (rows.map fun r => (putL r.1 r.2).length).sum
theorem bytesN_next {rows : List PRow} {k : Nat} {r : PRow} (h : rows[k]? = some r) : bytesN (rows.take (k + 1)) = bytesN (rows.take k) + (putL r.1 r.2).length := by
  obtain ⟨h1, h2⟩ := List.getElem?_eq_some_iff.1 h
  unfold bytesN
  rw [List.take_succ_eq_append_getElem h1, h2]
  simp
theorem bytesN_le : ∀ (rows : List PRow), (∀ r ∈ rows, (putL r.1 r.2).length ≤ 12010) → bytesN rows ≤ 12010 * rows.length
  | [], _ => by simp [bytesN]
  | r :: rows, h => by
    have h1 := h r (by simp)
    have h2 := bytesN_le rows (fun x hx => h x (by simp [hx]))
    unfold bytesN at h2 ⊢
    simp only [List.map_cons, List.sum_cons, List.length_cons]
    omega
theorem PageAt.len_row {w : World} {base g : Nat} {vs : List Value} {rows : List PRow} (h : PageAt w base g vs rows) : ∀ r ∈ rows, (putL r.1 r.2).length ≤ 12010 := fun r hr => by
  obtain ⟨h1, h2⟩ := mayL_small (fun c hc => ((h.may r hr).2 c hc).2) (h.may r hr).1
  exact putL_len h1 h2
set_option maxRecDepth 100000 in
set_option maxHeartbeats 1600000 in
theorem pageBytes_walk (base g : Nat) (vs : List Value) (rows : List PRow) (w : World) (h : PageAt w base g vs rows) :
    Calls Tryd.prog 38 #[.pointer (some ⟨g, 0, none⟩)] w fun e w' => e = .returned (.int .i64 (bytesN rows : Int)) ∧ w = w' := by
  have LW := Lib.hid (pageLen_walk base g vs rows w h)
  have H := Lib.hid h
  have hn := h.few
  obtain ⟨n, hnn⟩ : ∃ n, rows.length = n := ⟨_, rfl⟩
  rw [hnn] at LW hn
  have NH := Lib.hid hnn
  have BL := Lib.hid (fun (k : Nat) => (show bytesN (rows.take k) ≤ 200000 by
    have h1 := bytesN_le (rows.take k) (fun r hr => H.out.len_row r (List.mem_of_mem_take hr))
    have h2 := List.length_take_le k rows
    have h3 := H.out.few
    have h4 : (rows.take k).length ≤ 16 := by rw [List.length_take]; omega
    omega))
  clear h hnn
  go_enter Tryd.func38, Tryd.ntmps38
  go_wp2_with fail
  refine LW.out.mono ?_
  rintro e w' ⟨rfl, rfl⟩
  go_wp2_with fail
  go_loop [3, 7] (fun t i => ∃ k : Nat, t = .int .i64 (bytesN (rows.take k) : Int) ∧ i = .int .i64 k ∧ k ≤ n) (fun _ i => n - (intOf i).toNat)
  case atStart => exact ⟨0, rfl, rfl, Nat.zero_le _⟩
  case round =>
    obtain ⟨k, rfl, rfl, hk⟩ := hrel
    have hbk := BL.out k
    obtain ⟨t, ht⟩ : ∃ t, bytesN (rows.take k) = t := ⟨_, rfl⟩
    rw [ht] at hbk ⊢
    have TH := Lib.hid ht
    clear ht
    by_cases hlt : k < n
    · obtain ⟨r, hr⟩ : ∃ r, rows[k]? = some r := ⟨_, List.getElem?_eq_getElem (by have := NH.out; omega)⟩
      obtain ⟨v, hv⟩ : ∃ v, vs[k]? = some v := ⟨_, List.getElem?_eq_getElem (by have := NH.out; have := H.out.many; omega)⟩
      have hrow := (H.out.row k v r hv hr).1
      obtain ⟨A, c, rfl⟩ := hrow.shape
      obtain ⟨m, hm⟩ : ∃ m, (putL r.1 r.2).length = m := ⟨_, rfl⟩
      have hm6 := H.out.len_row r (List.mem_of_getElem? hr)
      have hc : w.cell? ⟨g, k, none⟩ = some (.slice A m c) := by rw [H.out.get, pageCells_row vs hv, hm]
      have NX := Lib.hid (show bytesN (rows.take (k + 1)) = t + m by rw [bytesN_next hr, TH.out, hm])
      rw [hm] at hm6
      clear hrow hr hv hm
      go_wp2
      go_round
      case rel => exact ⟨k + 1, by rw [NX.out]; go_num, by go_num, by omega⟩
      case measure => simp [intOf]; omega
    · have E := Lib.hid (show t = bytesN rows by rw [← TH.out, List.take_of_length_le (by have := NH.out; omega)])
      go_wp2
      go_ret
      exact ⟨ret_int (congrArg Int.ofNat E.out), rfl⟩
end Go.Proofs.YtalhlgiklochdaaDoor
namespace Go.Proofs.YtalhlgiklochdaaDoor
open Go.ChangeShapes Go.WideShapes Go.ChangeAt Go.RowKit

theorem HasB.full {w : World} {base : Nat} {v : Value} {xs : List Int} (h : HasB w base v xs) : ∃ A c, v = .slice A xs.length c ∧ xs.length ≤ c := by
  rcases h.2 with ⟨rfl, h0⟩ | ⟨g, cap, cur, rfl, _, _, hc, _⟩
  · rw [h0]; exact ⟨_, _, rfl, Nat.le_refl _⟩
  · exact ⟨_, _, rfl, hc⟩
theorem putL_bytes {wrap : Bool} {l : List Cel} : ∀ x ∈ putL wrap l, 0 ≤ x ∧ x ≤ 255 := by
  intro x hx
  unfold putL at hx
  rcases List.mem_append.1 hx with h | h
  · exact uintL_bytes _ x h
  · obtain ⟨y, _, h⟩ := List.mem_flatMap.1 h
    unfold runBytes at h
    simp only [List.mem_append] at h
    rcases h with h | h | h | h <;> exact uintL_bytes _ x h
theorem gotR_put {wrap : Bool} {l : List Cel} (hm : mayL l = true) (hl : ∀ c ∈ l, -2147483648 ≤ c.1 ∧ c.1 ≤ 2147483647) : gotR (putL wrap l) = (wrap, l, (putL wrap l).length, 0) := by
  obtain ⟨h1, h2⟩ := mayL_small (fun c hc => (hl c hc).2) hm
  have := getR_put (may := mayL) (wrap := wrap) [] hm h2 h1
  rw [List.append_nil] at this
  exact gotR_some this
/-- What At tells: the row, in memory of its own; else nothing. -/
def AtPost (o : Option PRow) (w : World) (e : Ending) (w' : World) : Prop :=
  ∃ v, e = .returned (.tuple #[.agg #[v, .bool (o.elim false (·.1))], .bool o.isSome]) ∧ HasC w' w.heap.size v (o.elim [] (·.2)) ∧ Below w.heap.size w w'
set_option maxRecDepth 100000 in
set_option maxHeartbeats 3200000 in
theorem pageAt_none (base g : Nat) (vs : List Value) (rows : List PRow) (i : Int) (w : World) (h : PageAt w base g vs rows) (hi : i < 0 ∨ rows.length ≤ i) :
    Calls Tryd.prog 36 #[.pointer (some ⟨g, 0, none⟩), .int .i64 i] w fun e w' => AtPost none w e w' := by
  have w1 : PageAt (w.alloc (.cells #[.slice none 0 0, .bool false] 31)) base g vs rows := ⟨(Below.heap_alloc w _ g h.lt).trans h.cells, h.from', h.many, h.few, fun i v r hv hr => ⟨World.ownsRow.alloc (h.row i v r hv hr).1 _, (h.row i v r hv hr).2⟩, h.may⟩
  have LW := Lib.hid (pageLen_walk base g vs rows _ w1)
  have RN := Lib.hid (show RowAt (w.alloc (.cells #[.slice none 0 0, .bool false] 31)) w.heap.size (.slice none 0 0) false from heap_alloc_new w _)
  have B1 := Lib.hid ((Below.refl w.heap.size w).alloc (Nat.le_refl _) (.cells #[.slice none 0 0, .bool false] 31))
  have hf := h.few
  obtain ⟨n, hn⟩ : ∃ n, rows.length = n := ⟨_, rfl⟩
  rw [hn] at LW hf hi
  clear w1 h hn
  by_cases h0 : i < 0
  · clear hi LW
    go_enter Tryd.func36, Tryd.ntmps36
    go_wp2
    generalize w.alloc (.cells #[.slice none 0 0, .bool false] 31) = wz at RN B1 ⊢
    have e0 := RN.out.get 0
    have e1 := RN.out.get 1
    exact bodyPost_ret (v := .tuple #[.agg #[.slice none 0 0, .bool false], .bool false]) (by simp [results, Tryd.results36, go_sem, e0, e1]) rfl ⟨_, rfl, HasC.nothing _ _, B1.out⟩
  · have h1 : (n : Int) ≤ i := by omega
    clear hi
    go_enter Tryd.func36, Tryd.ntmps36
    go_wp2_with fail
    refine LW.out.mono ?_
    rintro e w' ⟨rfl, rfl⟩
    clear LW
    go_wp2
    generalize w.alloc (.cells #[.slice none 0 0, .bool false] 31) = wz at RN B1 ⊢
    have e0 := RN.out.get 0
    have e1 := RN.out.get 1
    exact bodyPost_ret (v := .tuple #[.agg #[.slice none 0 0, .bool false], .bool false]) (by simp [results, Tryd.results36, go_sem, e0, e1]) rfl ⟨_, rfl, HasC.nothing _ _, B1.out⟩
set_option maxRecDepth 100000 in
set_option maxHeartbeats 3200000 in
theorem pageAt_some (base g : Nat) (vs : List Value) (rows : List PRow) (k : Nat) (r : PRow) (w : World) (hs : Spans w) (h : PageAt w base g vs rows) (hr : rows[k]? = some r) :
    Calls Tryd.prog 36 #[.pointer (some ⟨g, 0, none⟩), .int .i64 (k : Int)] w fun e w' => AtPost (some r) w e w' := by
  have w1 : PageAt (w.alloc (.cells #[.slice none 0 0, .bool false] 31)) base g vs rows := ⟨(Below.heap_alloc w _ g h.lt).trans h.cells, h.from', h.many, h.few, fun i v r hv hr => ⟨World.ownsRow.alloc (h.row i v r hv hr).1 _, (h.row i v r hv hr).2⟩, h.may⟩
  have LW := Lib.hid (pageLen_walk base g vs rows _ w1)
  have RN := Lib.hid (show RowAt (w.alloc (.cells #[.slice none 0 0, .bool false] 31)) w.heap.size (.slice none 0 0) false from heap_alloc_new w _)
  have B1 := Lib.hid ((Below.refl w.heap.size w).alloc (Nat.le_refl _) (.cells #[.slice none 0 0, .bool false] 31))
  have hkl := (List.getElem?_eq_some_iff.1 hr).1
  have hf := h.few
  obtain ⟨v, hv⟩ : ∃ v, vs[k]? = some v := ⟨_, List.getElem?_eq_getElem (by have := h.many; omega)⟩
  have hrow := (h.row k v r hv hr).1
  obtain ⟨A, c, rfl, hc⟩ := hrow.full
  have hgl := h.lt
  have hm := h.may r (List.mem_of_getElem? hr)
  have hlen := h.len_row r (List.mem_of_getElem? hr)
  have GOT := Lib.hid (gotR_put (wrap := r.1) hm.1 hm.2)
  have GW := Lib.hid (get_walk A (putL r.1 r.2).length c (putL r.1 r.2) (w.alloc (.cells #[.slice none 0 0, .bool false] 31)) (hs.below B1.out hs.size) ((hrow.sq.below B1.out).up (by simp)) hc (by omega) putL_bytes)
  obtain ⟨m, hmm⟩ : ∃ m, (putL r.1 r.2).length = m := ⟨_, rfl⟩
  have hcell : (w.alloc (.cells #[.slice none 0 0, .bool false] 31)).cell? ⟨g, k, none⟩ = some (.slice A m c) := by rw [w1.get, pageCells_row vs hv, hmm]
  obtain ⟨n, hn⟩ : ∃ n, rows.length = n := ⟨_, rfl⟩
  rw [hn] at LW hf hkl
  rw [hmm] at GW hlen hc
  have h0 : ¬ ((k : Int) < 0) := by omega
  clear w1 h hn hrow hm hs hv hr hmm
  go_enter Tryd.func36, Tryd.ntmps36
  go_wp2_with fail
  refine LW.out.mono ?_
  rintro e w' ⟨rfl, rfl⟩
  clear LW
  go_wp2_with fail
  refine GW.out.mono ?_
  rintro e w3 ⟨v3, rfl, h3, b3⟩
  rw [GOT.out] at h3 ⊢
  simp only at h3 ⊢
  obtain ⟨A3, c3, rfl, _⟩ := HasC.shape h3
  have R3 := Lib.hid (show RowAt w3 w.heap.size (.slice none 0 0) false from (b3.block w.heap.size (by simp)).trans RN.out)
  have B3 := Lib.hid (B1.out.trans (b3.mono (by simp)))
  have H3 := Lib.hid h3
  have Z3 : w.heap.size < w3.heap.size := by have := b3.size; simp at this; omega
  obtain ⟨ln, hln⟩ : ∃ ln, r.2.length = ln := ⟨_, rfl⟩
  rw [hln] at H3 ⊢
  have z0 : w3.cell? ⟨w.heap.size, 0, none⟩ = some (.slice none 0 0) := R3.out.get 0
  have z1 : w3.cell? ⟨w.heap.size, 1, none⟩ = some (.bool false) := R3.out.get 1
  have zf0 := R3.out.free 0
  have zf1 := R3.out.free 1
  clear h3 b3 hln
  have RF : RowAt (((w3.setCell ⟨w.heap.size, 0, none⟩ (.slice A3 ln c3)).setCell ⟨w.heap.size, 1, none⟩ (.bool r.1)).alloc (.cells #[.slice A3 ln c3, .bool r.1] 31)) w.heap.size (.slice A3 ln c3) r.1 := (Below.heap_alloc _ _ w.heap.size (by simp; omega)).trans (RowAt.put2 R3.out (.slice A3 ln c3) r.1)
  have BF := ((B3.out.setCell (p := ⟨w.heap.size, 0, none⟩) (Nat.le_refl _) (.slice A3 ln c3)).setCell (p := ⟨w.heap.size, 1, none⟩) (Nat.le_refl _) (.bool r.1)).alloc (by simp; omega) (.cells #[.slice A3 ln c3, .bool r.1] 31)
  have OF : HasC (((w3.setCell ⟨w.heap.size, 0, none⟩ (.slice A3 ln c3)).setCell ⟨w.heap.size, 1, none⟩ (.bool r.1)).alloc (.cells #[.slice A3 ln c3, .bool r.1] 31)) (w.heap.size + 1) (.slice A3 ln c3) r.2 := HasC.keep (HasC.mono H3.out (by simp)) (fun j e => by
    have h := HasC.lt H3.out j e
    simp at h
    rw [Below.heap_alloc _ _ _ (by simp; omega), Below.heap_setCell _ _ _ _ (by show j ≠ w.heap.size; omega), Below.heap_setCell _ _ _ _ (by show j ≠ w.heap.size; omega)])
  have RFH := Lib.hid RF
  have BFH := Lib.hid BF
  have OFH := Lib.hid OF
  clear RF BF OF
  go_wp2
  generalize ((w3.setCell ⟨w.heap.size, 0, none⟩ (.slice A3 ln c3)).setCell ⟨w.heap.size, 1, none⟩ (.bool r.1)).alloc (.cells #[.slice A3 ln c3, .bool r.1] 31) = wz at RFH BFH OFH ⊢
  have e0 := RFH.out.get 0
  have e1 := RFH.out.get 1
  exact bodyPost_ret (v := .tuple #[.agg #[.slice A3 ln c3, .bool r.1], .bool true]) (by simp [results, Tryd.results36, go_sem, e0, e1]) rfl ⟨_, rfl, HasC.mono OFH.out (by omega), BFH.out⟩
end Go.Proofs.YtalhlgiklochdaaDoor
namespace Go.Proofs.YtalhlgiklochdaaDoor
open Go.ChangeShapes Go.WideShapes Go.ChangeAt Go.RowKit

/-- A page that reads so at place o of block b. -/
structure PageRd (w : World) (base b o : Nat) (vs : List Value) (rows : List PRow) : Prop where
  get : ∀ j, j < 17 → w.cell? ⟨b, o + j, none⟩ = (pageCells vs)[j]?
  here : b < w.heap.size
  many : vs.length = rows.length
  few : rows.length ≤ 16
  row : ∀ (i : Nat) (v : Value) (r : PRow), vs[i]? = some v → rows[i]? = some r → HasB w base v (putL r.1 r.2)
  may : ∀ r ∈ rows, mayL r.2 = true ∧ ∀ c ∈ r.2, -2147483648 ≤ c.1 ∧ c.1 ≤ 2147483647
namespace PageRd
variable {w w' : World} {base b o : Nat} {vs : List Value} {rows : List PRow}
theorem below (h : PageRd w base b o vs rows) (hb : Below w.heap.size w w') : PageRd w' base b o vs rows :=
  ⟨fun j hj => (hb.cell (p := ⟨b, o + j, none⟩) h.here).trans (h.get j hj), Nat.lt_of_lt_of_le h.here hb.size, h.many, h.few, fun i v r hv hr => (h.row i v r hv hr).below hb (h.row i v r hv hr).lt, h.may⟩
theorem len_row (h : PageRd w base b o vs rows) : ∀ r ∈ rows, (putL r.1 r.2).length ≤ 12010 := fun r hr => by
  obtain ⟨h1, h2⟩ := mayL_small (fun c hc => ((h.may r hr).2 c hc).2) (h.may r hr).1
  exact putL_len h1 h2
end PageRd
set_option maxRecDepth 100000 in
theorem pageLen_rd {w : World} {base b o : Nat} {vs : List Value} {rows : List PRow} (h : PageRd w base b o vs rows) :
    Calls Tryd.prog 37 #[.pointer (some ⟨b, o, none⟩)] w fun e w' => e = .returned (.int .i64 (rows.length : Int)) ∧ w = w' := by
  have hm : w.cell? ⟨b, o + 16, none⟩ = some (.int .i64 (rows.length : Int)) := by rw [h.get 16 (by omega), pageCells_many _ (by rw [h.many]; exact h.few), h.many]
  clear h
  go_enter Tryd.func37, Tryd.ntmps37
  go_wp2
  go_ret
  exact ⟨rfl, rfl⟩
set_option maxRecDepth 100000 in
set_option maxHeartbeats 3200000 in
theorem pageAt_rd (base b o : Nat) (vs : List Value) (rows : List PRow) (k : Nat) (r : PRow) (w : World) (hs : Spans w) (h : PageRd w base b o vs rows) (hr : rows[k]? = some r) :
    Calls Tryd.prog 36 #[.pointer (some ⟨b, o, none⟩), .int .i64 (k : Int)] w fun e w' => AtPost (some r) w e w' := by
  have w1 : PageRd (w.alloc (.cells #[.slice none 0 0, .bool false] 31)) base b o vs rows := h.below ((Below.refl _ _).alloc (Nat.le_refl _) _)
  have LW := Lib.hid (pageLen_rd w1)
  have RN := Lib.hid (show RowAt (w.alloc (.cells #[.slice none 0 0, .bool false] 31)) w.heap.size (.slice none 0 0) false from heap_alloc_new w _)
  have B1 := Lib.hid ((Below.refl w.heap.size w).alloc (Nat.le_refl _) (.cells #[.slice none 0 0, .bool false] 31))
  have hkl := (List.getElem?_eq_some_iff.1 hr).1
  have hf := h.few
  obtain ⟨v, hv⟩ : ∃ v, vs[k]? = some v := ⟨_, List.getElem?_eq_getElem (by have := h.many; omega)⟩
  have hrow := h.row k v r hv hr
  obtain ⟨A, c, rfl, hc⟩ := hrow.full
  have hm := h.may r (List.mem_of_getElem? hr)
  have hlen := h.len_row r (List.mem_of_getElem? hr)
  have GOT := Lib.hid (gotR_put (wrap := r.1) hm.1 hm.2)
  have GW := Lib.hid (get_walk A (putL r.1 r.2).length c (putL r.1 r.2) (w.alloc (.cells #[.slice none 0 0, .bool false] 31)) (hs.below B1.out hs.size) ((hrow.sq.below B1.out).up (by simp)) hc (by omega) putL_bytes)
  obtain ⟨m, hmm⟩ : ∃ m, (putL r.1 r.2).length = m := ⟨_, rfl⟩
  have hcell : (w.alloc (.cells #[.slice none 0 0, .bool false] 31)).cell? ⟨b, o + k, none⟩ = some (.slice A m c) := by rw [w1.get k (by omega), pageCells_row vs hv, hmm]
  obtain ⟨n, hn⟩ : ∃ n, rows.length = n := ⟨_, rfl⟩
  rw [hn] at LW hf hkl
  rw [hmm] at GW hlen hc
  have h0 : ¬ ((k : Int) < 0) := by omega
  clear w1 h hn hrow hm hs hv hr hmm
  go_enter Tryd.func36, Tryd.ntmps36
  go_wp2_with fail
  refine LW.out.mono ?_
  rintro e w' ⟨rfl, rfl⟩
  clear LW
  go_wp2_with fail
  refine GW.out.mono ?_
  rintro e w3 ⟨v3, rfl, h3, b3⟩
  rw [GOT.out] at h3 ⊢
  simp only at h3 ⊢
  obtain ⟨A3, c3, rfl, _⟩ := HasC.shape h3
  have R3 := Lib.hid (show RowAt w3 w.heap.size (.slice none 0 0) false from (b3.block w.heap.size (by simp)).trans RN.out)
  have B3 := Lib.hid (B1.out.trans (b3.mono (by simp)))
  have H3 := Lib.hid h3
  have Z3 : w.heap.size < w3.heap.size := by have := b3.size; simp at this; omega
  obtain ⟨ln, hln⟩ : ∃ ln, r.2.length = ln := ⟨_, rfl⟩
  rw [hln] at H3 ⊢
  have z0 : w3.cell? ⟨w.heap.size, 0, none⟩ = some (.slice none 0 0) := R3.out.get 0
  have z1 : w3.cell? ⟨w.heap.size, 1, none⟩ = some (.bool false) := R3.out.get 1
  have zf0 := R3.out.free 0
  have zf1 := R3.out.free 1
  clear h3 b3 hln
  have RF : RowAt (((w3.setCell ⟨w.heap.size, 0, none⟩ (.slice A3 ln c3)).setCell ⟨w.heap.size, 1, none⟩ (.bool r.1)).alloc (.cells #[.slice A3 ln c3, .bool r.1] 31)) w.heap.size (.slice A3 ln c3) r.1 := (Below.heap_alloc _ _ w.heap.size (by simp; omega)).trans (RowAt.put2 R3.out (.slice A3 ln c3) r.1)
  have BF := ((B3.out.setCell (p := ⟨w.heap.size, 0, none⟩) (Nat.le_refl _) (.slice A3 ln c3)).setCell (p := ⟨w.heap.size, 1, none⟩) (Nat.le_refl _) (.bool r.1)).alloc (by simp; omega) (.cells #[.slice A3 ln c3, .bool r.1] 31)
  have OF : HasC (((w3.setCell ⟨w.heap.size, 0, none⟩ (.slice A3 ln c3)).setCell ⟨w.heap.size, 1, none⟩ (.bool r.1)).alloc (.cells #[.slice A3 ln c3, .bool r.1] 31)) (w.heap.size + 1) (.slice A3 ln c3) r.2 := HasC.keep (HasC.mono H3.out (by simp)) (fun j e => by
    have h := HasC.lt H3.out j e
    simp at h
    rw [Below.heap_alloc _ _ _ (by simp; omega), Below.heap_setCell _ _ _ _ (by show j ≠ w.heap.size; omega), Below.heap_setCell _ _ _ _ (by show j ≠ w.heap.size; omega)])
  have RFH := Lib.hid RF
  have BFH := Lib.hid BF
  have OFH := Lib.hid OF
  clear RF BF OF
  go_wp2
  generalize ((w3.setCell ⟨w.heap.size, 0, none⟩ (.slice A3 ln c3)).setCell ⟨w.heap.size, 1, none⟩ (.bool r.1)).alloc (.cells #[.slice A3 ln c3, .bool r.1] 31) = wz at RFH BFH OFH ⊢
  have e0 := RFH.out.get 0
  have e1 := RFH.out.get 1
  exact bodyPost_ret (v := .tuple #[.agg #[.slice A3 ln c3, .bool r.1], .bool true]) (by simp [results, Tryd.results36, go_sem, e0, e1]) rfl ⟨_, rfl, HasC.mono OFH.out (by omega), BFH.out⟩
end Go.Proofs.YtalhlgiklochdaaDoor
