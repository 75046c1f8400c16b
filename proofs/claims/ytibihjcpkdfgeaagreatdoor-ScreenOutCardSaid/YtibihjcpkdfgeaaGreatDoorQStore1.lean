/-
  bytes.Clone; a page in memory; page.New, Len. page.At: a row of a page, told anew. A page that lies anywhere (a copy among others): its rows told.
  page.Add: a row behind all. The calls of a nil page; and page.Cut where it tells false.
  page.Cut: the first rows go.
  A slice of one-cell elements that begins anywhere in a block of its own; one more element behind it; its first one gone.
  A store in memory: which blocks have turned; its pages, what they hold all together.
  store.clamp: the limit that is nearest. store.New, Len, Limit, Gone, Bytes; which page the next row goes into. store.At: the i-th row.
  store.fit: the statement that asks how many rows go.
  store.fit: the eldest rows go until there are no more than the limit. store.Add: a row behind all; the eldest goes, if there are too many.
  store.copied: copies of the pages, one behind the other.
  A range over a function that tells N things one behind the other, what it tells fitting the world in which it tells it. (Over any program.)
  What store.All's function reads, and that it tells the rows one behind the other.
-/
import Derived.Test.YtibihjcpkdfgeaaGreatDoorQBase1
import Derived.Shelf.Bytes.SlClone
import Derived.Deep.RegionWith
import Derived.Deep.RegionLaw
import Derived.Laws.CopyOwn
import Derived.Lib.SliceRun
import Derived.Test.YtibihjcpkdfgeaaGreatDoorQBase0
import Derived.Deep.AppendSrc
import Derived.BigQuiet
import Derived.RangeFuncNested
import Derived.RangeFuncLeaves
import Derived.RangeFuncBox
import Derived.Shelf.Abstract
import Derived.Shelf.RegionOpen
import Derived.OwnWalkIn
import Derived.TacticsInMore
import Derived.LoopNIn
import Derived.LoopIn
namespace Go.Proofs.YtibihjcpkdfgeaaGreatDoor
open Go.ChangeShapes Go.WideShapes Go.ChangeAt Go.RowKit

def ClonePost (xs : List Int) (w : World) (e : Ending) (w' : World) : Prop := ∃ v, e = .returned v ∧ HasB w' w.heap.size v xs ∧ Below w.heap.size w w'
theorem byte_all (l : List Int) : ∀ u ∈ l.map (Value.int .u8), u.oneCell' = true := by
  intro u hu
  obtain ⟨x, _, rfl⟩ := List.mem_map.1 hu
  rfl
set_option maxRecDepth 100000 in
set_option maxHeartbeats 1600000 in
theorem clone_walk (A : Option Addr) (n c : Nat) (xs : List Int) (w : World) {B : Nat} (hq : Sq w B 1 n A (xs.map (Value.int .u8))) (hB : B ≤ w.heap.size) (hn : n ≤ 1000000) :
    Calls Tryz.prog 152 #[.slice A n c] w fun e w' => ClonePost xs w e w' := by
  obtain ⟨i0, hi, hz0, hz1, hz2⟩ := info_parts infoByte
  have hl := hq.size_ints
  have q22 : ∀ (w : World) (a : Option Addr) (n c n' c' : Nat), (binOp .eql 27 (.slice a n c) (.slice none n' c')).run Tryz.prog w = .ok (.bool a.isNone) w := fun w a n c n' c' => Lib.run_eql_slice_nil w _ _ a n c n' c' Tryz.underlying27
  rcases A with _ | ad
  · have h0 : n = 0 := by
      rcases Nat.eq_zero_or_pos n with h0 | h0
      · exact h0
      · obtain ⟨_, _, e, _⟩ := hq.spot h0
        cases e
    have e : xs = [] := List.eq_nil_of_length_eq_zero (by omega)
    subst e
    clear hl hq
    go_enter Tryz.func152, Tryz.ntmps152
    go_wp2
    go_ret
    exact ⟨_, rfl, HasB.nothing _ _, Below.refl _ _⟩
  · have QQ := Lib.hid (hq.alloc hB (.cells #[] 5))
    have LH := Lib.hid hl
    clear hq hl
    go_enter Tryz.func152, Tryz.ntmps152
    go_wp2_with (
      at_builtin
      refine wpl_app rfl _ _ 27 rfl w.heap.size 5 i0 (.int .u8 0) 1 1 Tryz.underlying27 hi hz0 hz1 hz2 rfl (by decide) (.slice (some ⟨w.heap.size, 0, none⟩) 0 0) 0 [] rfl (World.ownsRow_made w #[] 0 (Nat.le_refl _) (Nat.zero_le _) rfl) (some ad) n c (xs.map (Value.int .u8)) rfl B QQ.out (byte_all _) (by unfold maxLen; omega) (by omega) (by simp) ?_
      intro v1 w1 hown hg _
      have HO := Lib.hid (show HasB w1 w.heap.size v1 xs by unfold HasB; rw [LH.out]; simpa using hown)
      have HB := Lib.hid (((Below.refl w.heap.size w).alloc (Nat.le_refl _) (.cells #[] 5)).grown hg (by simp) (fun k e => by simp [Value.ownBlock] at e; omega))
      clear hown hg)
    go_ret
    exact ⟨_, rfl, HO.out, HB.out⟩

/-- A row of a page: does it wrap, its cells. -/
abbrev PRow := Bool × List Cel
/-- A page's cells: its rows' bytes, no bytes, how many rows. -/
def pageCells (vs : List Value) : List Value := vs ++ (List.replicate (16 - vs.length) (.slice none 0 0) ++ [.int .i64 (vs.length : Int)])
/-- A page in memory: the block g, and one for each row's bytes, all of them at base or beyond. -/
structure PageAt (w : World) (base g : Nat) (vs : List Value) (rows : List PRow) : Prop where
  cells : w.heap[g]? = some (.cells (pageCells vs).toArray 175 (0, 0))
  from' : base ≤ g
  many : vs.length = rows.length
  few : rows.length ≤ 16
  row : ∀ (i : Nat) (v : Value) (r : PRow), vs[i]? = some v → rows[i]? = some r → HasB w base v (putL r.1 r.2) ∧ v.ownBlock ≠ some g
  may : ∀ r ∈ rows, mayL r.2 = true ∧ ∀ c ∈ r.2, -2147483648 ≤ c.1 ∧ c.1 ≤ 2147483647
theorem pageCells_many (vs : List Value) (h : vs.length ≤ 16) : (pageCells vs)[16]? = some (.int .i64 (vs.length : Int)) := by
  unfold pageCells
  rw [List.getElem?_append_right h, List.getElem?_append_right (by simp), List.length_replicate]
  simp
theorem pageCells_row (vs : List Value) {i : Nat} {v : Value} (h : vs[i]? = some v) : (pageCells vs)[i]? = some v := by
  unfold pageCells
  rw [List.getElem?_append_left (List.getElem?_eq_some_iff.1 h).1]
  exact h
theorem PageAt.get {w : World} {base g : Nat} {vs : List Value} {rows : List PRow} (h : PageAt w base g vs rows) (j : Nat) : w.cell? ⟨g, j, none⟩ = (pageCells vs)[j]? := by
  rw [cell_of_row w g j _ _ (0, 0) h.cells]
  simp
theorem PageAt.lt {w : World} {base g : Nat} {vs : List Value} {rows : List PRow} (h : PageAt w base g vs rows) : g < w.heap.size := (Array.getElem?_eq_some_iff.1 h.cells).1
set_option maxRecDepth 100000 in
theorem pageLen_walk (base g : Nat) (vs : List Value) (rows : List PRow) (w : World) (h : PageAt w base g vs rows) :
    Calls Tryz.prog 153 #[.pointer (some ⟨g, 0, none⟩)] w fun e w' => e = .returned (.int .i64 (rows.length : Int)) ∧ w = w' := by
  have hm : w.cell? ⟨g, 16, none⟩ = some (.int .i64 (rows.length : Int)) := by rw [h.get, pageCells_many _ (by rw [h.many]; exact h.few), h.many]
  clear h
  go_enter Tryz.func153, Tryz.ntmps153
  go_wp2
  go_ret
  exact ⟨rfl, rfl⟩
set_option maxRecDepth 100000 in
theorem pageLen_nil (w : World) : Calls Tryz.prog 153 #[.pointer none] w fun e w' => e = .returned (.int .i64 0) ∧ w = w' := by
  go_enter Tryz.func153, Tryz.ntmps153
  go_wp2
  go_ret
  exact ⟨rfl, rfl⟩
def NewPost (w : World) (e : Ending) (w' : World) : Prop := e = .returned (.pointer (some ⟨w.heap.size, 0, none⟩)) ∧ PageAt w' w.heap.size w.heap.size [] [] ∧ Below w.heap.size w w' ∧ w'.heap.size = w.heap.size + 1
set_option maxRecDepth 100000 in
set_option maxHeartbeats 1600000 in
theorem pageNew_walk (w : World) : Calls Tryz.prog 126 #[] w fun e w' => NewPost w e w' := by
  go_enter Tryz.func126, Tryz.ntmps126
  go_wp2
  go_ret
  refine ⟨rfl, ⟨heap_alloc_new w _, Nat.le_refl _, rfl, Nat.zero_le _, (fun i v r h => by simp at h), (fun r h => by cases h)⟩, (Below.refl _ _).alloc (Nat.le_refl _) _, by simp⟩
/-- How many bytes rows take. -/
def bytesN (rows : List PRow) : Nat := (rows.map fun r => (putL r.1 r.2).length).sum
theorem bytesN_next {rows : List PRow} {k : Nat} {r : PRow} (h : rows[k]? = some r) : bytesN (rows.take (k + 1)) = bytesN (rows.take k) + (putL r.1 r.2).length := by
  obtain ⟨h1, h2⟩ := List.getElem?_eq_some_iff.1 h
  unfold bytesN
  rw [List.take_succ_eq_append_getElem h1, h2]
  simp
theorem bytesN_le : ∀ (rows : List PRow), (∀ r ∈ rows, (putL r.1 r.2).length ≤ 12010) → bytesN rows ≤ 12010 * rows.length
  | [], _ => by simp [bytesN]
  | r :: rows, h => by
    have h1 := h r (by simp)
    have h2 := bytesN_le rows (fun x hx => h x (by simp [hx]))
    unfold bytesN at h2 ⊢
    simp only [List.map_cons, List.sum_cons, List.length_cons]
    omega
theorem PageAt.len_row {w : World} {base g : Nat} {vs : List Value} {rows : List PRow} (h : PageAt w base g vs rows) : ∀ r ∈ rows, (putL r.1 r.2).length ≤ 12010 := fun r hr => by
  obtain ⟨h1, h2⟩ := mayL_small (fun c hc => ((h.may r hr).2 c hc).2) (h.may r hr).1
  exact putL_len h1 h2
set_option maxRecDepth 100000 in
set_option maxHeartbeats 1600000 in
theorem pageBytes_walk (base g : Nat) (vs : List Value) (rows : List PRow) (w : World) (h : PageAt w base g vs rows) :
    Calls Tryz.prog 135 #[.pointer (some ⟨g, 0, none⟩)] w fun e w' => e = .returned (.int .i64 (bytesN rows : Int)) ∧ w = w' := by
  have LW := Lib.hid (pageLen_walk base g vs rows w h)
  have H := Lib.hid h
  have hn := h.few
  obtain ⟨n, hnn⟩ : ∃ n, rows.length = n := ⟨_, rfl⟩
  rw [hnn] at LW hn
  have NH := Lib.hid hnn
  have BL := Lib.hid (fun (k : Nat) => (show bytesN (rows.take k) ≤ 200000 by
    have h1 := bytesN_le (rows.take k) (fun r hr => H.out.len_row r (List.mem_of_mem_take hr))
    have h2 := List.length_take_le k rows
    have h3 := H.out.few
    have h4 : (rows.take k).length ≤ 16 := by rw [List.length_take]; omega
    omega))
  clear h hnn
  go_enter Tryz.func135, Tryz.ntmps135
  go_wp2_with fail
  refine LW.out.mono ?_
  rintro e w' ⟨rfl, rfl⟩
  go_wp2_with fail
  go_loop [3, 7] (fun t i => ∃ k : Nat, t = .int .i64 (bytesN (rows.take k) : Int) ∧ i = .int .i64 k ∧ k ≤ n) (fun _ i => n - (intOf i).toNat)
  case atStart => exact ⟨0, rfl, rfl, Nat.zero_le _⟩
  case round =>
    obtain ⟨k, rfl, rfl, hk⟩ := hrel
    have hbk := BL.out k
    obtain ⟨t, ht⟩ : ∃ t, bytesN (rows.take k) = t := ⟨_, rfl⟩
    rw [ht] at hbk ⊢
    have TH := Lib.hid ht
    clear ht
    by_cases hlt : k < n
    · obtain ⟨r, hr⟩ : ∃ r, rows[k]? = some r := ⟨_, List.getElem?_eq_getElem (by have := NH.out; omega)⟩
      obtain ⟨v, hv⟩ : ∃ v, vs[k]? = some v := ⟨_, List.getElem?_eq_getElem (by have := NH.out; have := H.out.many; omega)⟩
      have hrow := (H.out.row k v r hv hr).1
      obtain ⟨A, c, rfl⟩ := hrow.shape
      obtain ⟨m, hm⟩ : ∃ m, (putL r.1 r.2).length = m := ⟨_, rfl⟩
      have hm6 := H.out.len_row r (List.mem_of_getElem? hr)
      have hc : w.cell? ⟨g, k, none⟩ = some (.slice A m c) := by rw [H.out.get, pageCells_row vs hv, hm]
      have NX := Lib.hid (show bytesN (rows.take (k + 1)) = t + m by rw [bytesN_next hr, TH.out, hm])
      rw [hm] at hm6
      clear hrow hr hv hm
      go_wp2
      go_round
      case rel => exact ⟨k + 1, by rw [NX.out]; go_num, by go_num, by omega⟩
      case measure => simp [intOf]; omega
    · have E := Lib.hid (show t = bytesN rows by rw [← TH.out, List.take_of_length_le (by have := NH.out; omega)])
      go_wp2
      go_ret
      exact ⟨ret_int (congrArg Int.ofNat E.out), rfl⟩
end Go.Proofs.YtibihjcpkdfgeaaGreatDoor
namespace Go.Proofs.YtibihjcpkdfgeaaGreatDoor
open Go.ChangeShapes Go.WideShapes Go.ChangeAt Go.RowKit

theorem HasB.full {w : World} {base : Nat} {v : Value} {xs : List Int} (h : HasB w base v xs) : ∃ A c, v = .slice A xs.length c ∧ xs.length ≤ c := by
  rcases h.2 with ⟨rfl, h0⟩ | ⟨g, cap, cur, rfl, _, _, hc, _⟩
  · rw [h0]; exact ⟨_, _, rfl, Nat.le_refl _⟩
  · exact ⟨_, _, rfl, hc⟩
theorem putL_bytes {wrap : Bool} {l : List Cel} : ∀ x ∈ putL wrap l, 0 ≤ x ∧ x ≤ 255 := by
  intro x hx
  unfold putL at hx
  rcases List.mem_append.1 hx with h | h
  · exact uintL_bytes _ x h
  · obtain ⟨y, _, h⟩ := List.mem_flatMap.1 h
    unfold runBytes at h
    simp only [List.mem_append] at h
    rcases h with h | h | h | h <;> exact uintL_bytes _ x h
theorem gotR_put {wrap : Bool} {l : List Cel} (hm : mayL l = true) (hl : ∀ c ∈ l, -2147483648 ≤ c.1 ∧ c.1 ≤ 2147483647) : gotR (putL wrap l) = (wrap, l, (putL wrap l).length, 0) := by
  obtain ⟨h1, h2⟩ := mayL_small (fun c hc => (hl c hc).2) hm
  have := getR_put (may := mayL) (wrap := wrap) [] hm h2 h1
  rw [List.append_nil] at this
  exact gotR_some this
/-- What At tells: the row, in memory of its own; else nothing. -/
def AtPost (o : Option PRow) (w : World) (e : Ending) (w' : World) : Prop :=
  ∃ v, e = .returned (.tuple #[.agg #[v, .bool (o.elim false (·.1))], .bool o.isSome]) ∧ HasC w' w.heap.size v (o.elim [] (·.2)) ∧ Below w.heap.size w w'
set_option maxRecDepth 100000 in
set_option maxHeartbeats 3200000 in
theorem pageAt_none (base g : Nat) (vs : List Value) (rows : List PRow) (i : Int) (w : World) (h : PageAt w base g vs rows) (hi : i < 0 ∨ rows.length ≤ i) :
    Calls Tryz.prog 129 #[.pointer (some ⟨g, 0, none⟩), .int .i64 i] w fun e w' => AtPost none w e w' := by
  have w1 : PageAt (w.alloc (.cells #[.slice none 0 0, .bool false] 53)) base g vs rows := ⟨(Below.heap_alloc w _ g h.lt).trans h.cells, h.from', h.many, h.few, fun i v r hv hr => ⟨World.ownsRow.alloc (h.row i v r hv hr).1 _, (h.row i v r hv hr).2⟩, h.may⟩
  have LW := Lib.hid (pageLen_walk base g vs rows _ w1)
  have RN := Lib.hid (show RowAt (w.alloc (.cells #[.slice none 0 0, .bool false] 53)) w.heap.size (.slice none 0 0) false from heap_alloc_new w _)
  have B1 := Lib.hid ((Below.refl w.heap.size w).alloc (Nat.le_refl _) (.cells #[.slice none 0 0, .bool false] 53))
  have hf := h.few
  obtain ⟨n, hn⟩ : ∃ n, rows.length = n := ⟨_, rfl⟩
  rw [hn] at LW hf hi
  clear w1 h hn
  by_cases h0 : i < 0
  · clear hi LW
    go_enter Tryz.func129, Tryz.ntmps129
    go_wp2
    generalize w.alloc (.cells #[.slice none 0 0, .bool false] 53) = wz at RN B1 ⊢
    have e0 := RN.out.get 0
    have e1 := RN.out.get 1
    exact bodyPost_ret (v := .tuple #[.agg #[.slice none 0 0, .bool false], .bool false]) (by simp [results, Tryz.results129, go_sem, e0, e1]) rfl ⟨_, rfl, HasC.nothing _ _, B1.out⟩
  · have h1 : (n : Int) ≤ i := by omega
    clear hi
    go_enter Tryz.func129, Tryz.ntmps129
    go_wp2_with fail
    refine LW.out.mono ?_
    rintro e w' ⟨rfl, rfl⟩
    clear LW
    go_wp2
    generalize w.alloc (.cells #[.slice none 0 0, .bool false] 53) = wz at RN B1 ⊢
    have e0 := RN.out.get 0
    have e1 := RN.out.get 1
    exact bodyPost_ret (v := .tuple #[.agg #[.slice none 0 0, .bool false], .bool false]) (by simp [results, Tryz.results129, go_sem, e0, e1]) rfl ⟨_, rfl, HasC.nothing _ _, B1.out⟩
set_option maxRecDepth 100000 in
set_option maxHeartbeats 3200000 in
theorem pageAt_some (base g : Nat) (vs : List Value) (rows : List PRow) (k : Nat) (r : PRow) (w : World) (hs : Spans w) (h : PageAt w base g vs rows) (hr : rows[k]? = some r) :
    Calls Tryz.prog 129 #[.pointer (some ⟨g, 0, none⟩), .int .i64 (k : Int)] w fun e w' => AtPost (some r) w e w' := by
  have w1 : PageAt (w.alloc (.cells #[.slice none 0 0, .bool false] 53)) base g vs rows := ⟨(Below.heap_alloc w _ g h.lt).trans h.cells, h.from', h.many, h.few, fun i v r hv hr => ⟨World.ownsRow.alloc (h.row i v r hv hr).1 _, (h.row i v r hv hr).2⟩, h.may⟩
  have LW := Lib.hid (pageLen_walk base g vs rows _ w1)
  have RN := Lib.hid (show RowAt (w.alloc (.cells #[.slice none 0 0, .bool false] 53)) w.heap.size (.slice none 0 0) false from heap_alloc_new w _)
  have B1 := Lib.hid ((Below.refl w.heap.size w).alloc (Nat.le_refl _) (.cells #[.slice none 0 0, .bool false] 53))
  have hkl := (List.getElem?_eq_some_iff.1 hr).1
  have hf := h.few
  obtain ⟨v, hv⟩ : ∃ v, vs[k]? = some v := ⟨_, List.getElem?_eq_getElem (by have := h.many; omega)⟩
  have hrow := (h.row k v r hv hr).1
  obtain ⟨A, c, rfl, hc⟩ := hrow.full
  have hgl := h.lt
  have hm := h.may r (List.mem_of_getElem? hr)
  have hlen := h.len_row r (List.mem_of_getElem? hr)
  have GOT := Lib.hid (gotR_put (wrap := r.1) hm.1 hm.2)
  have GW := Lib.hid (get_walk A (putL r.1 r.2).length c (putL r.1 r.2) (w.alloc (.cells #[.slice none 0 0, .bool false] 53)) (hs.below B1.out hs.size) ((hrow.sq.below B1.out).up (by simp)) hc (by omega) putL_bytes)
  obtain ⟨m, hmm⟩ : ∃ m, (putL r.1 r.2).length = m := ⟨_, rfl⟩
  have hcell : (w.alloc (.cells #[.slice none 0 0, .bool false] 53)).cell? ⟨g, k, none⟩ = some (.slice A m c) := by rw [w1.get, pageCells_row vs hv, hmm]
  obtain ⟨n, hn⟩ : ∃ n, rows.length = n := ⟨_, rfl⟩
  rw [hn] at LW hf hkl
  rw [hmm] at GW hlen hc
  have h0 : ¬ ((k : Int) < 0) := by omega
  clear w1 h hn hrow hm hs hv hr hmm
  go_enter Tryz.func129, Tryz.ntmps129
  go_wp2_with fail
  refine LW.out.mono ?_
  rintro e w' ⟨rfl, rfl⟩
  clear LW
  go_wp2_with fail
  refine GW.out.mono ?_
  rintro e w3 ⟨v3, rfl, h3, b3⟩
  rw [GOT.out] at h3 ⊢
  simp only at h3 ⊢
  obtain ⟨A3, c3, rfl, _⟩ := HasC.shape h3
  have R3 := Lib.hid (show RowAt w3 w.heap.size (.slice none 0 0) false from (b3.block w.heap.size (by simp)).trans RN.out)
  have B3 := Lib.hid (B1.out.trans (b3.mono (by simp)))
  have H3 := Lib.hid h3
  have Z3 : w.heap.size < w3.heap.size := by have := b3.size; simp at this; omega
  obtain ⟨ln, hln⟩ : ∃ ln, r.2.length = ln := ⟨_, rfl⟩
  rw [hln] at H3 ⊢
  have z0 : w3.cell? ⟨w.heap.size, 0, none⟩ = some (.slice none 0 0) := R3.out.get 0
  have z1 : w3.cell? ⟨w.heap.size, 1, none⟩ = some (.bool false) := R3.out.get 1
  have zf0 := R3.out.free 0
  have zf1 := R3.out.free 1
  clear h3 b3 hln
  have RF : RowAt (((w3.setCell ⟨w.heap.size, 0, none⟩ (.slice A3 ln c3)).setCell ⟨w.heap.size, 1, none⟩ (.bool r.1)).alloc (.cells #[.slice A3 ln c3, .bool r.1] 53)) w.heap.size (.slice A3 ln c3) r.1 := (Below.heap_alloc _ _ w.heap.size (by simp; omega)).trans (RowAt.put2 R3.out (.slice A3 ln c3) r.1)
  have BF := ((B3.out.setCell (p := ⟨w.heap.size, 0, none⟩) (Nat.le_refl _) (.slice A3 ln c3)).setCell (p := ⟨w.heap.size, 1, none⟩) (Nat.le_refl _) (.bool r.1)).alloc (by simp; omega) (.cells #[.slice A3 ln c3, .bool r.1] 53)
  have OF : HasC (((w3.setCell ⟨w.heap.size, 0, none⟩ (.slice A3 ln c3)).setCell ⟨w.heap.size, 1, none⟩ (.bool r.1)).alloc (.cells #[.slice A3 ln c3, .bool r.1] 53)) (w.heap.size + 1) (.slice A3 ln c3) r.2 := HasC.keep (HasC.mono H3.out (by simp)) (fun j e => by
    have h := HasC.lt H3.out j e
    simp at h
    rw [Below.heap_alloc _ _ _ (by simp; omega), Below.heap_setCell _ _ _ _ (by show j ≠ w.heap.size; omega), Below.heap_setCell _ _ _ _ (by show j ≠ w.heap.size; omega)])
  have RFH := Lib.hid RF
  have BFH := Lib.hid BF
  have OFH := Lib.hid OF
  clear RF BF OF
  go_wp2
  generalize ((w3.setCell ⟨w.heap.size, 0, none⟩ (.slice A3 ln c3)).setCell ⟨w.heap.size, 1, none⟩ (.bool r.1)).alloc (.cells #[.slice A3 ln c3, .bool r.1] 53) = wz at RFH BFH OFH ⊢
  have e0 := RFH.out.get 0
  have e1 := RFH.out.get 1
  exact bodyPost_ret (v := .tuple #[.agg #[.slice A3 ln c3, .bool r.1], .bool true]) (by simp [results, Tryz.results129, go_sem, e0, e1]) rfl ⟨_, rfl, HasC.mono OFH.out (by omega), BFH.out⟩
end Go.Proofs.YtibihjcpkdfgeaaGreatDoor
namespace Go.Proofs.YtibihjcpkdfgeaaGreatDoor
open Go.ChangeShapes Go.WideShapes Go.ChangeAt Go.RowKit

/-- A page that reads so at place o of block b. -/
structure PageRd (w : World) (base b o : Nat) (vs : List Value) (rows : List PRow) : Prop where
  get : ∀ j, j < 17 → w.cell? ⟨b, o + j, none⟩ = (pageCells vs)[j]?
  here : b < w.heap.size
  many : vs.length = rows.length
  few : rows.length ≤ 16
  row : ∀ (i : Nat) (v : Value) (r : PRow), vs[i]? = some v → rows[i]? = some r → HasB w base v (putL r.1 r.2)
  may : ∀ r ∈ rows, mayL r.2 = true ∧ ∀ c ∈ r.2, -2147483648 ≤ c.1 ∧ c.1 ≤ 2147483647
namespace PageRd
variable {w w' : World} {base b o : Nat} {vs : List Value} {rows : List PRow}
theorem below (h : PageRd w base b o vs rows) (hb : Below w.heap.size w w') : PageRd w' base b o vs rows :=
  ⟨fun j hj => (hb.cell (p := ⟨b, o + j, none⟩) h.here).trans (h.get j hj), Nat.lt_of_lt_of_le h.here hb.size, h.many, h.few, fun i v r hv hr => (h.row i v r hv hr).below hb (h.row i v r hv hr).lt, h.may⟩
theorem len_row (h : PageRd w base b o vs rows) : ∀ r ∈ rows, (putL r.1 r.2).length ≤ 12010 := fun r hr => by
  obtain ⟨h1, h2⟩ := mayL_small (fun c hc => ((h.may r hr).2 c hc).2) (h.may r hr).1
  exact putL_len h1 h2
end PageRd
set_option maxRecDepth 100000 in
theorem pageLen_rd {w : World} {base b o : Nat} {vs : List Value} {rows : List PRow} (h : PageRd w base b o vs rows) :
    Calls Tryz.prog 153 #[.pointer (some ⟨b, o, none⟩)] w fun e w' => e = .returned (.int .i64 (rows.length : Int)) ∧ w = w' := by
  have hm : w.cell? ⟨b, o + 16, none⟩ = some (.int .i64 (rows.length : Int)) := by rw [h.get 16 (by omega), pageCells_many _ (by rw [h.many]; exact h.few), h.many]
  clear h
  go_enter Tryz.func153, Tryz.ntmps153
  go_wp2
  go_ret
  exact ⟨rfl, rfl⟩
set_option maxRecDepth 100000 in
set_option maxHeartbeats 3200000 in
theorem pageAt_rd (base b o : Nat) (vs : List Value) (rows : List PRow) (k : Nat) (r : PRow) (w : World) (hs : Spans w) (h : PageRd w base b o vs rows) (hr : rows[k]? = some r) :
    Calls Tryz.prog 129 #[.pointer (some ⟨b, o, none⟩), .int .i64 (k : Int)] w fun e w' => AtPost (some r) w e w' := by
  have w1 : PageRd (w.alloc (.cells #[.slice none 0 0, .bool false] 53)) base b o vs rows := h.below ((Below.refl _ _).alloc (Nat.le_refl _) _)
  have LW := Lib.hid (pageLen_rd w1)
  have RN := Lib.hid (show RowAt (w.alloc (.cells #[.slice none 0 0, .bool false] 53)) w.heap.size (.slice none 0 0) false from heap_alloc_new w _)
  have B1 := Lib.hid ((Below.refl w.heap.size w).alloc (Nat.le_refl _) (.cells #[.slice none 0 0, .bool false] 53))
  have hkl := (List.getElem?_eq_some_iff.1 hr).1
  have hf := h.few
  obtain ⟨v, hv⟩ : ∃ v, vs[k]? = some v := ⟨_, List.getElem?_eq_getElem (by have := h.many; omega)⟩
  have hrow := h.row k v r hv hr
  obtain ⟨A, c, rfl, hc⟩ := hrow.full
  have hm := h.may r (List.mem_of_getElem? hr)
  have hlen := h.len_row r (List.mem_of_getElem? hr)
  have GOT := Lib.hid (gotR_put (wrap := r.1) hm.1 hm.2)
  have GW := Lib.hid (get_walk A (putL r.1 r.2).length c (putL r.1 r.2) (w.alloc (.cells #[.slice none 0 0, .bool false] 53)) (hs.below B1.out hs.size) ((hrow.sq.below B1.out).up (by simp)) hc (by omega) putL_bytes)
  obtain ⟨m, hmm⟩ : ∃ m, (putL r.1 r.2).length = m := ⟨_, rfl⟩
  have hcell : (w.alloc (.cells #[.slice none 0 0, .bool false] 53)).cell? ⟨b, o + k, none⟩ = some (.slice A m c) := by rw [w1.get k (by omega), pageCells_row vs hv, hmm]
  obtain ⟨n, hn⟩ : ∃ n, rows.length = n := ⟨_, rfl⟩
  rw [hn] at LW hf hkl
  rw [hmm] at GW hlen hc
  have h0 : ¬ ((k : Int) < 0) := by omega
  clear w1 h hn hrow hm hs hv hr hmm
  go_enter Tryz.func129, Tryz.ntmps129
  go_wp2_with fail
  refine LW.out.mono ?_
  rintro e w' ⟨rfl, rfl⟩
  clear LW
  go_wp2_with fail
  refine GW.out.mono ?_
  rintro e w3 ⟨v3, rfl, h3, b3⟩
  rw [GOT.out] at h3 ⊢
  simp only at h3 ⊢
  obtain ⟨A3, c3, rfl, _⟩ := HasC.shape h3
  have R3 := Lib.hid (show RowAt w3 w.heap.size (.slice none 0 0) false from (b3.block w.heap.size (by simp)).trans RN.out)
  have B3 := Lib.hid (B1.out.trans (b3.mono (by simp)))
  have H3 := Lib.hid h3
  have Z3 : w.heap.size < w3.heap.size := by have := b3.size; simp at this; omega
  obtain ⟨ln, hln⟩ : ∃ ln, r.2.length = ln := ⟨_, rfl⟩
  rw [hln] at H3 ⊢
  have z0 : w3.cell? ⟨w.heap.size, 0, none⟩ = some (.slice none 0 0) := R3.out.get 0
  have z1 : w3.cell? ⟨w.heap.size, 1, none⟩ = some (.bool false) := R3.out.get 1
  have zf0 := R3.out.free 0
  have zf1 := R3.out.free 1
  clear h3 b3 hln
  have RF : RowAt (((w3.setCell ⟨w.heap.size, 0, none⟩ (.slice A3 ln c3)).setCell ⟨w.heap.size, 1, none⟩ (.bool r.1)).alloc (.cells #[.slice A3 ln c3, .bool r.1] 53)) w.heap.size (.slice A3 ln c3) r.1 := (Below.heap_alloc _ _ w.heap.size (by simp; omega)).trans (RowAt.put2 R3.out (.slice A3 ln c3) r.1)
  have BF := ((B3.out.setCell (p := ⟨w.heap.size, 0, none⟩) (Nat.le_refl _) (.slice A3 ln c3)).setCell (p := ⟨w.heap.size, 1, none⟩) (Nat.le_refl _) (.bool r.1)).alloc (by simp; omega) (.cells #[.slice A3 ln c3, .bool r.1] 53)
  have OF : HasC (((w3.setCell ⟨w.heap.size, 0, none⟩ (.slice A3 ln c3)).setCell ⟨w.heap.size, 1, none⟩ (.bool r.1)).alloc (.cells #[.slice A3 ln c3, .bool r.1] 53)) (w.heap.size + 1) (.slice A3 ln c3) r.2 := HasC.keep (HasC.mono H3.out (by simp)) (fun j e => by
    have h := HasC.lt H3.out j e
    simp at h
    rw [Below.heap_alloc _ _ _ (by simp; omega), Below.heap_setCell _ _ _ _ (by show j ≠ w.heap.size; omega), Below.heap_setCell _ _ _ _ (by show j ≠ w.heap.size; omega)])
  have RFH := Lib.hid RF
  have BFH := Lib.hid BF
  have OFH := Lib.hid OF
  clear RF BF OF
  go_wp2
  generalize ((w3.setCell ⟨w.heap.size, 0, none⟩ (.slice A3 ln c3)).setCell ⟨w.heap.size, 1, none⟩ (.bool r.1)).alloc (.cells #[.slice A3 ln c3, .bool r.1] 53) = wz at RFH BFH OFH ⊢
  have e0 := RFH.out.get 0
  have e1 := RFH.out.get 1
  exact bodyPost_ret (v := .tuple #[.agg #[.slice A3 ln c3, .bool r.1], .bool true]) (by simp [results, Tryz.results129, go_sem, e0, e1]) rfl ⟨_, rfl, HasC.mono OFH.out (by omega), BFH.out⟩
end Go.Proofs.YtibihjcpkdfgeaaGreatDoor
namespace Go.Proofs.YtibihjcpkdfgeaaGreatDoor
open Go.ChangeShapes Go.WideShapes Go.ChangeAt Go.RowKit

/-- One row's bytes more. -/
theorem pageCells_set {vs : List Value} (h : vs.length < 16) (v : Value) : ((pageCells vs).set vs.length v).set 16 (.int .i64 ((vs.length + 1 : Nat) : Int)) = pageCells (vs ++ [v]) := by
  obtain ⟨m, hm⟩ : ∃ m, 16 - vs.length = m + 1 := ⟨15 - vs.length, by omega⟩
  unfold pageCells
  rw [List.length_append, List.length_singleton, show 16 - (vs.length + 1) = m by omega, hm, List.replicate_succ, List.cons_append, List.set_append_right _ _ (Nat.le_refl _), Nat.sub_self]
  simp only [List.set_cons_zero]
  rw [List.set_append_right _ _ (by omega), List.append_assoc]
  congr 1
  rw [show 16 - vs.length = m + 1 by omega]
  simp only [List.set_cons_succ, List.singleton_append, List.cons.injEq, true_and]
  rw [List.set_append_right _ _ (by simp)]
  simp
theorem pageCells_free {vs : List Value} (h : vs.length < 16) : (pageCells vs)[vs.length]? = some (.slice none 0 0) := by
  unfold pageCells
  rw [List.getElem?_append_right (Nat.le_refl _), Nat.sub_self, List.getElem?_append_left (by simp; omega), List.getElem?_replicate, if_pos (by omega)]
theorem PageAt.free {w : World} {base g : Nat} {vs : List Value} {rows : List PRow} (h : PageAt w base g vs rows) (j : Nat) : w.frozen? ⟨g, j, none⟩ = false := frozen_of_row w g j _ _ h.cells
theorem pageCells_len {vs : List Value} (h : vs.length ≤ 16) : (pageCells vs).length = 17 := by unfold pageCells; simp; omega
/-- The page behind the two stores. -/
theorem PageAt.add {w : World} {base g : Nat} {vs : List Value} {rows : List PRow} (h : PageAt w base g vs rows) (hf : rows.length < 16) {v : Value} {r : PRow} (hv : HasB w base v (putL r.1 r.2)) (hne : v.ownBlock ≠ some g) (hm : mayL r.2 = true ∧ ∀ c ∈ r.2, -2147483648 ≤ c.1 ∧ c.1 ≤ 2147483647) :
    PageAt ((w.setCell ⟨g, rows.length, none⟩ v).setCell ⟨g, 16, none⟩ (.int .i64 ((rows.length + 1 : Nat) : Int))) base g (vs ++ [v]) (rows ++ [r]) := by
  have hl := h.many
  have keep : ∀ {u : Value} {xs : List Int}, HasB w base u xs → u.ownBlock ≠ some g → HasB ((w.setCell ⟨g, rows.length, none⟩ v).setCell ⟨g, 16, none⟩ (.int .i64 ((rows.length + 1 : Nat) : Int))) base u xs := by
    intro u xs hu hne'
    refine ⟨hu.1, ?_⟩
    rcases hu.2 with e | ⟨b, cap, cur, rfl, e2, e3, rr⟩
    · exact .inl e
    · refine .inr ⟨b, cap, cur, rfl, e2, ?_, rr⟩
      have hb : b ≠ g := fun e => hne' (by rw [e]; rfl)
      rw [Below.heap_setCell _ _ _ _ hb, Below.heap_setCell _ _ _ _ hb]
      exact e3
  refine ⟨?_, h.from', by simp [hl], by simp; omega, fun i u r' hu hr' => ?_, fun x hx => ?_⟩
  · have h1 := heap_setCell_same w g rows.length _ _ v h.cells
    have h2 := heap_setCell_same _ g 16 _ _ (.int .i64 ((rows.length + 1 : Nat) : Int)) h1
    rw [h2]
    congr 2
    rw [← pageCells_set (vs := vs) (by omega) v, hl]
    simp
  · by_cases hi : i < vs.length
    · rw [List.getElem?_append_left hi] at hu
      rw [List.getElem?_append_left (by omega)] at hr'
      obtain ⟨a, b⟩ := h.row i u r' hu hr'
      exact ⟨keep a b, b⟩
    · rw [List.getElem?_append_right (by omega)] at hu
      rw [List.getElem?_append_right (by omega)] at hr'
      have hi0 : i - vs.length = 0 := by
        have := (List.getElem?_eq_some_iff.1 hu).1
        simp at this
        omega
      rw [hi0] at hu
      rw [show i - rows.length = 0 by omega] at hr'
      simp at hu hr'
      subst hu hr'
      exact ⟨keep hv hne, hne⟩
  · rcases List.mem_append.1 hx with h' | h'
    · exact h.may x h'
    · simp at h'
      subst h'
      exact hm
theorem PageAt.below {w w' : World} {base g : Nat} {vs : List Value} {rows : List PRow} (h : PageAt w base g vs rows) (hb : Below w.heap.size w w') : PageAt w' base g vs rows :=
  ⟨(hb.block g h.lt).trans h.cells, h.from', h.many, h.few, fun i v r hv hr => ⟨(h.row i v r hv hr).1.below hb (h.row i v r hv hr).1.lt, (h.row i v r hv hr).2⟩, h.may⟩
/-- What Add does: the page is as it was, or has one row more; nothing else that was there has turned. -/
def AddPost (base g : Nat) (vs : List Value) (rows : List PRow) (r : PRow) (w : World) (e : Ending) (w' : World) : Prop :=
  ∃ ok vs', ok = (mayL r.2 && decide (rows.length < 16)) ∧ e = .returned (.bool ok) ∧ PageAt w' base g vs' (if ok then rows ++ [r] else rows) ∧ w.grownBy w' (some g) ∧
    ∀ v ∈ vs', v ∈ vs ∨ ∀ k, v.ownBlock = some k → w.heap.size ≤ k
set_option maxRecDepth 100000 in
set_option maxHeartbeats 3200000 in
theorem pageAdd_full (base g : Nat) (vs : List Value) (rows : List PRow) (r : PRow) (A : Option Addr) (n c : Nat) (w : World) (h : PageAt w base g vs rows) (hf : rows.length = 16) :
    Calls Tryz.prog 128 #[.pointer (some ⟨g, 0, none⟩), rowV A n c r.1] w fun e w' => AddPost base g vs rows r w e w' := by
  have hm : w.cell? ⟨g, 16, none⟩ = some (.int .i64 16) := by rw [h.get, pageCells_many _ (by rw [h.many]; exact h.few), h.many, hf]; rfl
  have hgl := h.lt
  have H := Lib.hid h
  have F := Lib.hid hf
  have BB := Lib.hid ((Below.refl w.heap.size w).alloc (Nat.le_refl _) (.cells #[.slice A n c, .bool r.1] 53))
  clear h hf
  go_enter Tryz.func128, Tryz.ntmps128
  go_wp2
  go_ret
  exact ⟨false, vs, by rw [F.out]; simp, rfl, by simpa using H.out.below BB.out, ⟨BB.out.os, BB.out.tape, BB.out.output, BB.out.size, fun k hk _ => BB.out.block k hk⟩, fun v hv => .inl hv⟩
set_option maxRecDepth 100000 in
set_option maxHeartbeats 3200000 in
theorem pageAdd_walk (base g : Nat) (vs : List Value) (rows : List PRow) (A : Option Addr) (n c : Nat) (wrap : Bool) (l : List Cel) (w : World) (hs : Spans w) (h : PageAt w base g vs rows) (hb0 : base ≤ w.heap.size) (hl : ∀ c ∈ l, -2147483648 ≤ c.1 ∧ c.1 ≤ 2147483647) (hq : Sq w w.heap.size 3 n A (flat l)) (hc : n ≤ c) (hn : n ≤ 1000000) :
    Calls Tryz.prog 128 #[.pointer (some ⟨g, 0, none⟩), rowV A n c wrap] w fun e w' => AddPost base g vs rows (wrap, l) w e w' := by
  by_cases hf : rows.length = 16
  · exact pageAdd_full base g vs rows (wrap, l) A n c w h hf
  · have hf' : rows.length < 16 := by have := h.few; omega
    have hm : w.cell? ⟨g, 16, none⟩ = some (.int .i64 (rows.length : Int)) := by rw [h.get, pageCells_many _ (by rw [h.many]; exact h.few), h.many]
    have hgl := h.lt
    have bb := (Below.refl w.heap.size w).alloc (Nat.le_refl _) (.cells #[.slice A n c, .bool wrap] 53)
    have PW := Lib.hid (put_walk A n c wrap l _ (hs.below bb hs.size) hl ((hq.below bb).up (by simp)) hc hn)
    have H := Lib.hid h
    have HL := Lib.hid hl
    have BB := Lib.hid bb
    have FH := Lib.hid hf'
    obtain ⟨p, hp⟩ : ∃ p, rows.length = p := ⟨_, rfl⟩
    rw [hp] at hm hf'
    have PL := Lib.hid hp
    have d1 : ((p : Int) == 16) = false := by simp; omega
    obtain ⟨B, hB⟩ : ∃ B, mayL l = B := ⟨_, rfl⟩
    have BH := Lib.hid hB
    clear h hf hl hq bb hs hp hB
    cases B
    · go_enter Tryz.func128, Tryz.ntmps128
      go_wp2_with fail
      refine PW.out.mono ?_
      rintro e w2 ⟨v2, rfl, h2, b2⟩
      have MF := BH.out
      rw [MF]
      have B2 := Lib.hid (BB.out.trans (b2.mono (by simp)))
      clear h2 b2 MF
      go_wp2
      go_ret
      exact ⟨false, vs, by rw [BH.out]; rfl, rfl, by simpa using H.out.below B2.out, ⟨B2.out.os, B2.out.tape, B2.out.output, B2.out.size, fun k hk _ => B2.out.block k hk⟩, fun v hv => .inl hv⟩
    · go_enter Tryz.func128, Tryz.ntmps128
      go_wp2_with fail
      refine PW.out.mono ?_
      rintro e w2 ⟨v2, rfl, h2, b2⟩
      have MF := BH.out
      rw [show putV wrap l = putL wrap l by unfold putV; rw [MF]; rfl] at h2
      rw [MF]
      obtain ⟨A2, c2, rfl⟩ := h2.shape
      have SM := mayL_small (fun x hx => (HL.out x hx).2) MF
      have LP := putL_len (wrap := wrap) SM.1 SM.2
      have B2 := Lib.hid (BB.out.trans (b2.mono (by simp)))
      have hsz := B2.out.size
      have H2 := Lib.hid (H.out.below B2.out)
      have CW := Lib.hid (fun w' (hx : Below w2.heap.size w2 w') => clone_walk A2 (putL wrap l).length c2 (putL wrap l) w' (h2.sq.below hx) hx.size (by omega))
      have m2 : w2.cell? ⟨g, 16, none⟩ = some (.int .i64 (p : Int)) := (B2.out.cell (p := ⟨g, 16, none⟩) hgl).trans hm
      have hgl2 := H2.out.lt
      have P2 := Lib.hid (show w2.cell? ⟨g, p, none⟩ = some (.slice none 0 0) by rw [H2.out.get, ← PL.out, ← H2.out.many]; exact pageCells_free (by rw [H2.out.many]; exact FH.out))
      obtain ⟨m, hmm⟩ : ∃ m, (putL wrap l).length = m := ⟨_, rfl⟩
      rw [hmm] at CW ⊢
      clear h2 b2 MF SM LP hmm
      go_wp2_with fail
      go_region_with (go_at_call 152; refine (CW.out _ (by first | exact Below.refl _ _ | exact (Below.refl _ _).drew)).mono ?_; rintro e w3 ⟨v3, rfl, h3, b3⟩; obtain ⟨A3, c3, rfl⟩ := h3.shape; (have m3 : w3.cell? ⟨g, 16, none⟩ = some (.int .i64 (p : Int)) := (b3.cell (p := ⟨g, 16, none⟩) hgl2).trans m2); (have mp : w3.cell? ⟨g, p, none⟩ = some (.slice none 0 0) := (b3.cell (p := ⟨g, p, none⟩) hgl2).trans P2.out); (have fp : w3.frozen? ⟨g, p, none⟩ = false := (b3.frozen (p := ⟨g, p, none⟩) hgl2).trans (H2.out.free p)); (have f16 : w3.frozen? ⟨g, 16, none⟩ = false := (b3.frozen (p := ⟨g, 16, none⟩) hgl2).trans (H2.out.free 16)))
      all_goals
        have b3' : Below w2.heap.size w2 w3 := by first | exact b3 | exact (Below.refl w2.heap.size w2).drew.trans b3
        have hv3 : HasB w3 w2.heap.size (.slice A3 (putL wrap l).length c3) (putL wrap l) := h3
        have B3 := Lib.hid (B2.out.trans (b3'.mono hsz))
        have H3 := Lib.hid (H2.out.below b3')
        have L3 := Lib.hid (fun k e => (World.ownsRow.lt hv3 k e).1)
        have hbase : base ≤ w2.heap.size := Nat.le_trans hb0 hsz
        have PA := Lib.hid (PageAt.add (r := (wrap, l)) H3.out FH.out (hv3.mono' hbase) (fun e => by have := L3.out g e; omega) ⟨BH.out, HL.out⟩)
        have m4 : (w3.setCell ⟨g, p, none⟩ (.slice A3 (putL wrap l).length c3)).cell? ⟨g, 16, none⟩ = some (.int .i64 (p : Int)) := by
          rw [World.cell?_setCell_other (a := ⟨g, p, none⟩) (b := ⟨g, 16, none⟩) (h := fun e => by injection e with _ e; omega)]
          exact m3
        have f4 : (w3.setCell ⟨g, p, none⟩ (.slice A3 (putL wrap l).length c3)).frozen? ⟨g, 16, none⟩ = false := by rw [World.frozen?_setCell]; exact f16
        have GB := Lib.hid (show w.grownBy ((w3.setCell ⟨g, p, none⟩ (.slice A3 (putL wrap l).length c3)).setCell ⟨g, 16, none⟩ (.int .i64 ((p + 1 : Nat) : Int))) (some g) from
          ⟨B3.out.os, B3.out.tape, B3.out.output, by simpa using B3.out.size, fun k hk hne => by
            have hkg : k ≠ g := fun e => hne (by rw [e])
            rw [Below.heap_setCell _ _ _ _ hkg, Below.heap_setCell _ _ _ _ hkg]
            exact B3.out.block k hk⟩)
        have EC : ((p + 1 : Nat) : Int) = (p : Int) + 1 := by omega
        rw [PL.out, EC] at PA
        rw [EC] at GB
        clear EC
        generalize w3.setCell ⟨g, p, none⟩ (.slice A3 (putL wrap l).length c3) = w4 at m4 f4 PA GB ⊢
        clear b3 b3' h3 hv3 m3 mp fp f16 d1
        go_wp2
        go_ret
        exact ⟨true, vs ++ [.slice A3 (putL wrap l).length c3], by rw [BH.out]; simp [FH.out], rfl, PA.out, GB.out, fun v hv => by
          rcases List.mem_append.1 hv with h | h
          · exact .inl h
          · right
            simp at h
            subst h
            intro k e
            exact Nat.le_trans hsz (L3.out k e)⟩
end Go.Proofs.YtibihjcpkdfgeaaGreatDoor
namespace Go.Proofs.YtibihjcpkdfgeaaGreatDoor
open Go.ChangeShapes Go.WideShapes Go.ChangeAt Go.RowKit
set_option maxRecDepth 100000 in
set_option maxHeartbeats 1600000 in
theorem pageAdd_nil (A : Option Addr) (n c : Nat) (wrap : Bool) (w : World) :
    Calls Tryz.prog 128 #[.pointer none, rowV A n c wrap] w fun e w' => e = .returned (.bool false) ∧ Below w.heap.size w w' := by
  have BB := Lib.hid ((Below.refl w.heap.size w).alloc (Nat.le_refl _) (.cells #[.slice A n c, .bool wrap] 53))
  go_enter Tryz.func128, Tryz.ntmps128
  go_wp2
  go_ret
  exact ⟨rfl, BB.out⟩
set_option maxRecDepth 100000 in
set_option maxHeartbeats 1600000 in
theorem pageBytes_nil (w : World) : Calls Tryz.prog 135 #[.pointer none] w fun e w' => e = .returned (.int .i64 0) ∧ w = w' := by
  have LW := Lib.hid (pageLen_nil w)
  go_enter Tryz.func135, Tryz.ntmps135
  go_wp2_with fail
  refine LW.out.mono ?_
  rintro e w' ⟨rfl, rfl⟩
  go_wp2_with fail
  go_loop [3, 7] (fun t i => t = .int .i64 0 ∧ i = .int .i64 0) (fun _ _ => 0)
  case atStart => exact ⟨rfl, rfl⟩
  case round =>
    obtain ⟨rfl, rfl⟩ := hrel
    go_wp2
    go_ret
    exact ⟨rfl, rfl⟩
set_option maxRecDepth 100000 in
set_option maxHeartbeats 3200000 in
theorem pageAt_nil (i : Int) (w : World) :
    Calls Tryz.prog 129 #[.pointer none, .int .i64 i] w fun e w' => AtPost none w e w' := by
  have LW := Lib.hid (pageLen_nil (w.alloc (.cells #[.slice none 0 0, .bool false] 53)))
  have RN := Lib.hid (show RowAt (w.alloc (.cells #[.slice none 0 0, .bool false] 53)) w.heap.size (.slice none 0 0) false from heap_alloc_new w _)
  have B1 := Lib.hid ((Below.refl w.heap.size w).alloc (Nat.le_refl _) (.cells #[.slice none 0 0, .bool false] 53))
  by_cases h0 : i < 0
  · clear LW
    go_enter Tryz.func129, Tryz.ntmps129
    go_wp2
    generalize w.alloc (.cells #[.slice none 0 0, .bool false] 53) = wz at RN B1 ⊢
    have e0 := RN.out.get 0
    have e1 := RN.out.get 1
    exact bodyPost_ret (v := .tuple #[.agg #[.slice none 0 0, .bool false], .bool false]) (by simp [results, Tryz.results129, go_sem, e0, e1]) rfl ⟨_, rfl, HasC.nothing _ _, B1.out⟩
  · have h1 : 0 ≤ i := by omega
    go_enter Tryz.func129, Tryz.ntmps129
    go_wp2_with fail
    refine LW.out.mono ?_
    rintro e w' ⟨rfl, rfl⟩
    clear LW
    go_wp2
    generalize w.alloc (.cells #[.slice none 0 0, .bool false] 53) = wz at RN B1 ⊢
    have e0 := RN.out.get 0
    have e1 := RN.out.get 1
    exact bodyPost_ret (v := .tuple #[.agg #[.slice none 0 0, .bool false], .bool false]) (by simp [results, Tryz.results129, go_sem, e0, e1]) rfl ⟨_, rfl, HasC.nothing _ _, B1.out⟩
set_option maxRecDepth 100000 in
set_option maxHeartbeats 1600000 in
theorem pageCut_nil (n : Int) (w : World) : Calls Tryz.prog 165 #[.pointer none, .int .i64 n] w fun e w' => e = .returned (.bool false) ∧ w = w' := by
  go_enter Tryz.func165, Tryz.ntmps165
  go_wp2
  go_ret
  exact ⟨rfl, rfl⟩
set_option maxRecDepth 100000 in
set_option maxHeartbeats 1600000 in
theorem pageCut_none (base g : Nat) (vs : List Value) (rows : List PRow) (n : Int) (w : World) (h : PageAt w base g vs rows) (hn : n < 0 ∨ rows.length < n) :
    Calls Tryz.prog 165 #[.pointer (some ⟨g, 0, none⟩), .int .i64 n] w fun e w' => e = .returned (.bool false) ∧ w = w' := by
  have hm : w.cell? ⟨g, 16, none⟩ = some (.int .i64 (rows.length : Int)) := by rw [h.get, pageCells_many _ (by rw [h.many]; exact h.few), h.many]
  obtain ⟨p, hp⟩ : ∃ p, rows.length = p := ⟨_, rfl⟩
  rw [hp] at hm hn
  clear h hp
  by_cases h0 : n < 0
  · clear hn hm
    go_enter Tryz.func165, Tryz.ntmps165
    go_wp2
    go_ret
    exact ⟨rfl, rfl⟩
  · have h1 : (p : Int) < n := by omega
    clear hn
    go_enter Tryz.func165, Tryz.ntmps165
    go_wp2
    go_ret
    exact ⟨rfl, rfl⟩
end Go.Proofs.YtibihjcpkdfgeaaGreatDoor
namespace Go.Proofs.YtibihjcpkdfgeaaGreatDoor
open Go.ChangeShapes Go.WideShapes Go.ChangeAt Go.RowKit
theorem OnlyRow.row (g : Nat) (w : World) (cs : Array Value) : OnlyRow g w (w.setRow g cs) := ⟨rfl, rfl, rfl, by simp [World.setRow], fun k hk => setRow_other w g k cs hk⟩
/-- The page whose front rows went. -/
theorem PageAt.cut {w w' : World} {base g : Nat} {vs : List Value} {rows : List PRow} (h : PageAt w base g vs rows) (ho : OnlyRow g w w') (k : Nat) (hg : w'.heap[g]? = some (.cells (pageCells (vs.drop k)).toArray 175 (0, 0))) : PageAt w' base g (vs.drop k) (rows.drop k) := by
  refine ⟨hg, h.from', by rw [List.length_drop, List.length_drop, h.many], by rw [List.length_drop]; have := h.few; omega, fun i u r hu hr => ?_, fun r hr => h.may r (List.mem_of_mem_drop hr)⟩
  rw [List.getElem?_drop] at hu hr
  obtain ⟨hb, hne⟩ := h.row (k + i) u r hu hr
  refine ⟨⟨hb.1, ?_⟩, hne⟩
  rcases hb.2 with e | ⟨b, cap, cur, rfl, e2, e3, rr⟩
  · exact .inl e
  · refine .inr ⟨b, cap, cur, rfl, e2, ?_, rr⟩
    rw [ho.block b (fun e => hne (by rw [e]; rfl))]
    exact e3
/-- copy within blocks, as one step of a region that draws its order. -/
theorem step_copy_only {P : Program} {ops : Array Oper} {o : Oper} {a : Act} {w : World} {K : Act → World → Prop} {Q : Exit → Act → World → Prop} {E : Prop} (hgd : o.guard = none) (d s : Operand) (dT sT : TypeId)
    (ho : o.op = .call { callee := .builtin .copy, args := #[d, s], argTypes := #[dT, sT] }) (elem : TypeId) (hu : P.underlying dT = some (.slice elem)) (hsz : (P.info? elem).map (·.size) = some 1)
    (ad : Addr) (dLen dCap sLen sCap : Nat) (g off : Nat) (hd : a.eval d = .slice (some ⟨g, off, none⟩) dLen dCap) (hs : a.eval s = .slice (some ad) sLen sCap)
    (cur : List Value) (t : TypeId) (hg : w.heap[g]? = some (.cells cur.toArray t (0, 0))) (cs : List Value) (q : Nat) (hq : cs.length = q) (hn : q = Nat.min sLen dLen)
    (hsrc : ∀ j v, cs[j]? = some v → w.cell? (ad.add j) = some v) (hfit : off + cs.length ≤ cur.length) (h1 : ∀ v ∈ cs, v.oneCell' = true)
    (h : ∀ w', Hid (w'.heap[g]? = some (.cells (splice cur off cs).toArray t (0, 0))) → Hid (OnlyRow g w w') → K (a.put o.dst (.int .i64 (q : Int))) w') :
    if Region.wanted o (yielded ops a.tmps) = true then Oper.wp P o a w K Q else E := by
  have hw : Region.wanted o (yielded ops a.tmps) = true := by simp [Region.wanted, hgd]
  rw [if_pos hw]
  have hrun := run_copy_row (P := P) w dT sT o.type elem g off dLen dCap ad sLen sCap cur.toArray t cs hu hsz hg (hq.trans hn) hsrc (by simpa using hfit) h1
  unfold Oper.wp
  simp [execOp, ho, resolve, invoke, builtin, hd, hs, hrun, Result.andThen]
  subst hq
  exact h _ (show _ = _ by simpa [splice] using setRow_heap w g _ _ t _ hg) (OnlyRow.row g w _)
/-- clear of a part of a block. -/
theorem step_clear_only {P : Program} {ops : Array Oper} {o : Oper} {a : Act} {w : World} {K : Act → World → Prop} {Q : Exit → Act → World → Prop} {E : Prop} (hgd : o.guard = none) (d : Operand) (dT : TypeId)
    (ho : o.op = .call { callee := .builtin .clear, args := #[d], argTypes := #[dT] }) (elem : TypeId) (hu : P.underlying dT = some (.slice elem)) (z : Value) (hv : ∀ w, (zeroValue elem).run P w = .ok z w) (hz : z.cells = #[z]) (h1 : z.oneCell' = true)
    (n c : Nat) (g off : Nat) (hd : a.eval d = .slice (some ⟨g, off, none⟩) n c)
    (cur : List Value) (t : TypeId) (hg : w.heap[g]? = some (.cells cur.toArray t (0, 0))) (hfit : off + n ≤ cur.length)
    (h : ∀ w', Hid (w'.heap[g]? = some (.cells (splice cur off (List.replicate n z)).toArray t (0, 0))) → Hid (OnlyRow g w w') → K (a.put o.dst (.tuple #[])) w') :
    if Region.wanted o (yielded ops a.tmps) = true then Oper.wp P o a w K Q else E := by
  have hw : Region.wanted o (yielded ops a.tmps) = true := by simp [Region.wanted, hgd]
  rw [if_pos hw]
  cases n with
  | zero =>
    have hrun : (Builtin.clear_ #[dT] o.type #[.slice (some ⟨g, off, none⟩) 0 c]).run P w = .ok (.tuple #[]) w := by simp [Builtin.clear_, run_underlying hu]
    unfold Oper.wp
    simp [execOp, ho, resolve, invoke, builtin, hd, hrun, Result.andThen]
    exact h _ (show _ = _ by simpa [splice] using hg) (OnlyRow.refl g w)
  | succ m =>
    have hzc : (Builtin.zeroCells z.cells (m + 1)).toList = List.replicate (m + 1) z := by
      rw [hz]
      simp [Builtin.zeroCells]
      apply List.ext_getElem
      · simp
      · intro i h1 h2
        simp [Nat.mod_one]
    have hst := run_storeCells_at P g off t (List.replicate (m + 1) z) 0 cur.toArray w hg (by simpa using hfit) (by intro v hv'; rw [List.eq_of_mem_replicate hv']; exact h1)
    simp only [Nat.add_zero] at hst
    have hrun : (Builtin.clear_ #[dT] o.type #[.slice (some ⟨g, off, none⟩) (m + 1) c]).run P w = .ok (.tuple #[]) (w.setRow g (cur.toArray.toList.take off ++ List.replicate (m + 1) z ++ cur.toArray.toList.drop (off + (List.replicate (m + 1) z).length)).toArray) := by
      simp [Builtin.clear_, run_underlying hu, hv, hzc, hst]
    unfold Oper.wp
    simp [execOp, ho, resolve, invoke, builtin, hd, hrun, Result.andThen]
    exact h _ (show _ = _ by simpa [splice] using setRow_heap w g _ _ t _ hg) (OnlyRow.row g w _)
theorem pageCells_cut (vs : List Value) (k q : Nat) (h : vs.length = q + k) (h16 : q + k ≤ 16) :
    ((splice (splice (pageCells vs) 0 (vs.drop k)) q (List.replicate k (.slice none 0 0))).set 16 (.int .i64 (q : Int))) = pageCells (vs.drop k) := by
  have hl : (vs.drop k).length = q := by rw [List.length_drop]; omega
  have e1 : splice (pageCells vs) 0 (vs.drop k) = vs.drop k ++ (pageCells vs).drop q := by simp [splice, hl]
  have e2 : (vs.drop k ++ (pageCells vs).drop q).take q = vs.drop k := by rw [← hl]; exact List.take_left
  have e3 : (vs.drop k ++ (pageCells vs).drop q).drop (q + k) = List.replicate (16 - (q + k)) (.slice none 0 0) ++ [.int .i64 ((q + k : Nat) : Int)] := by
    rw [List.drop_append, hl, List.drop_of_length_le (by omega), List.nil_append, List.drop_drop, show q + (q + k - q) = vs.length by omega]
    unfold pageCells
    rw [List.drop_left, h]
  rw [e1]
  unfold splice
  rw [e2, List.length_replicate, e3]
  unfold pageCells
  rw [hl, ← List.append_assoc (List.replicate k _), List.replicate_append_replicate, show k + (16 - (q + k)) = 16 - q by omega, List.set_append_right _ _ (by omega), hl, List.set_append_right _ _ (by simp), List.length_replicate, Nat.sub_self]
  rfl
set_option maxRecDepth 100000 in
set_option maxHeartbeats 3200000 in
theorem pageCut_main (base g : Nat) (vs : List Value) (rows : List PRow) (k : Nat) (w : World) (h : PageAt w base g vs rows) (hk : k ≤ rows.length) (hk16 : ¬ 16 = k) (hq16 : ¬ (k = 0 ∧ rows.length = 16)) :
    Calls Tryz.prog 165 #[.pointer (some ⟨g, 0, none⟩), .int .i64 (k : Int)] w fun e w' => e = .returned (.bool true) ∧ PageAt w' base g (vs.drop k) (rows.drop k) ∧ OnlyRow g w w' := by
  obtain ⟨q, hq⟩ : ∃ q, rows.length = q + k := ⟨rows.length - k, by omega⟩
  have h16 : q + k ≤ 16 := by have := h.few; omega
  have hl : vs.length = q + k := by rw [h.many, hq]
  have h1 := PageAt.below h (Below.refl w.heap.size w).drew
  have m1 : w.cell? ⟨g, 16, none⟩ = some (.int .i64 ((q : Int) + (k : Int))) := by rw [h.get, pageCells_many _ (by omega), hl]; rfl
  have m2 : w.drew.cell? ⟨g, 16, none⟩ = some (.int .i64 ((q : Int) + (k : Int))) := m1
  have d0 : ¬ ((k : Int) < 0) := by omega
  have d1 : ¬ ((q : Int) + (k : Int) < (k : Int)) := by omega
  have d2 : (k : Int) ≤ (q : Int) + (k : Int) := by omega
  have d3 : (q : Int) + (k : Int) ≤ 16 := by omega
  have n1 : ((q : Int) + (k : Int)).toNat = q + k := by omega
  have HG := Lib.hid h1.cells
  have HS := Lib.hid (show ∀ j v, (vs.drop k)[j]? = some v → w.drew.cell? ((⟨g, k, none⟩ : Addr).add j) = some v from fun j v hj => by
    have hj2 := (List.getElem?_eq_some_iff.1 hj).1
    rw [List.length_drop] at hj2
    rw [List.getElem?_drop] at hj
    have e : (⟨g, k, none⟩ : Addr).add j = ⟨g, k + j, none⟩ := by
      unfold Addr.add
      split
      · subst j; rfl
      · rfl
    rw [e]
    exact (h1.get (k + j)).trans (pageCells_row vs hj))
  have HO := Lib.hid (show ∀ v ∈ vs.drop k, v.oneCell' = true from fun v hv => by
    obtain ⟨i, hi⟩ := List.mem_iff_getElem?.1 (List.mem_of_mem_drop hv)
    obtain ⟨A, c, e⟩ := (h.row i v (rows[i]'(by have := (List.getElem?_eq_some_iff.1 hi).1; rw [h.many] at this; exact this)) hi (List.getElem?_eq_getElem _)).1.shape
    rw [e]
    rfl)
  have H := Lib.hid h
  have LQ := Lib.hid (show (vs.drop k).length = q by rw [List.length_drop]; omega)
  have LP := Lib.hid (pageCells_len (vs := vs) (by omega))
  have HV := Lib.hid hl
  have HR := Lib.hid hq
  have q16 : ¬ 16 = q := by omega
  clear h h1 hl hq hk hq16
  go_enter Tryz.func165, Tryz.ntmps165
  go_wp2_with fail
  go_region_law (refine step_copy_only rfl (.tmp 23) (.tmp 32) 199 199 rfl 27 rfl rfl ⟨g, k, none⟩ 16 16 q (16 - k) g 0 (by simp [Act.eval, Act.put]) (by simp [Act.eval, Act.put]) (pageCells vs) 175 HG.out (vs.drop k) q LQ.out (Nat.min_eq_left (by omega)).symm HS.out (by rw [LQ.out, LP.out]; omega) HO.out ?_; intro w2 hg2 ho2)
  have G2 := Lib.hid (show w2.drew.heap[g]? = some (.cells (splice (pageCells vs) 0 (vs.drop k)).toArray 175 (0, 0)) from hg2.out)
  have L2 := Lib.hid (show (splice (pageCells vs) 0 (vs.drop k)).length = 17 by rw [length_splice _ _ _ (by rw [LQ.out, LP.out]; omega), LP.out])
  have c16 : (splice (pageCells vs) 0 (vs.drop k))[16]? = some (.int .i64 ((q : Int) + (k : Int))) := by
    unfold splice
    rw [List.take_zero, List.nil_append, List.getElem?_append_right (by rw [LQ.out]; omega), LQ.out, List.getElem?_drop, show 0 + q + (16 - q) = 16 by omega, pageCells_many _ (by rw [HV.out]; exact h16), HV.out]
    rfl
  have m3 : w2.drew.cell? ⟨g, 16, none⟩ = some (.int .i64 ((q : Int) + (k : Int))) := by
    rw [cell_of_row _ g 16 _ _ (0, 0) G2.out]
    simpa using c16
  have d4 : ¬ ((q : Int) < 0) := by omega
  have d5 : (q : Int) ≤ (q : Int) + (k : Int) := by omega
  clear c16 hg2
  have O2 := Lib.hid ho2.out
  clear ho2
  go_wp2_with fail
  go_region_law (refine step_clear_only rfl (.tmp 42) 199 rfl 27 rfl (.slice none 0 0) (fun _ => rfl) rfl rfl k (16 - q) g q (by simp [Act.eval, Act.put]) (splice (pageCells vs) 0 (vs.drop k)) 175 G2.out (by rw [L2.out]; omega) ?_; intro w3 hg3 ho3)
  have G3 := Lib.hid (show w3.heap[g]? = some (.cells (splice (splice (pageCells vs) 0 (vs.drop k)) q (List.replicate k (.slice none 0 0))).toArray 175 (0, 0)) from hg3.out)
  have f3 : w3.frozen? ⟨g, 16, none⟩ = false := frozen_of_row w3 g 16 _ _ G3.out
  have m4 : ∃ v, w3.cell? ⟨g, 16, none⟩ = some v := by
    rw [cell_of_row _ g 16 _ _ (0, 0) G3.out]
    exact ⟨_, Array.getElem?_eq_getElem (by
      have e := length_splice (splice (pageCells vs) 0 (vs.drop k)) q (List.replicate k (.slice none 0 0)) (by rw [L2.out, List.length_replicate]; omega)
      rw [L2.out] at e
      rw [List.size_toArray, e]
      omega)⟩
  obtain ⟨v16, m4⟩ := m4
  have O3 := Lib.hid (show OnlyRow g w w3 from (OnlyRow.ofDrew O2.out).trans (OnlyRow.ofDrew ho3.out))
  clear hg3 ho3 m3
  go_wp2
  have O4 := O3.out.trans (OnlyRow.cell g 16 w3 (.int .i64 (q : Int)))
  have G4 : (w3.setCell ⟨g, 16, none⟩ (.int .i64 (q : Int))).heap[g]? = some (.cells (pageCells (vs.drop k)).toArray 175 (0, 0)) := by
    rw [heap_setCell_same w3 g 16 _ _ (.int .i64 (q : Int)) G3.out, ← pageCells_cut vs k q HV.out h16]
    congr 2
    simp
  go_ret
  exact ⟨rfl, H.out.cut O4 k G4, O4⟩
set_option maxRecDepth 100000 in
set_option maxHeartbeats 3200000 in
theorem pageCut_allSixteen (base g : Nat) (vs : List Value) (rows : List PRow) (w : World) (h : PageAt w base g vs rows) (hk : rows.length = 16) :
    Calls Tryz.prog 165 #[.pointer (some ⟨g, 0, none⟩), .int .i64 16] w fun e w' => e = .returned (.bool true) ∧ PageAt w' base g (vs.drop 16) (rows.drop 16) ∧ OnlyRow g w w' := by
  have hl : vs.length = 16 := h.many.trans hk
  have h1 := PageAt.below h (Below.refl w.heap.size w).drew
  have m1 : w.cell? ⟨g, 16, none⟩ = some (.int .i64 16) := by rw [h.get, pageCells_many _ (by omega), hl]; rfl
  have m2 : w.drew.cell? ⟨g, 16, none⟩ = some (.int .i64 16) := m1
  have HG := Lib.hid h1.cells
  have HS := Lib.hid (show ∀ j v, (vs.drop 16)[j]? = some v → w.drew.cell? ((⟨g, 0, none⟩ : Addr).add j) = some v from fun j v hj => by
    have hj2 := (List.getElem?_eq_some_iff.1 hj).1
    rw [List.length_drop] at hj2
    rw [List.getElem?_drop] at hj
    first
      | (exfalso; omega)
      | (have e : (⟨g, 0, none⟩ : Addr).add j = ⟨g, 0 + j, none⟩ := by
          unfold Addr.add
          split
          · subst j; rfl
          · rfl
         rw [e]
         exact (h1.get (0 + j)).trans (pageCells_row vs hj)))
  have HO := Lib.hid (show ∀ v ∈ vs.drop 16, v.oneCell' = true from fun v hv => by
    obtain ⟨i, hi⟩ := List.mem_iff_getElem?.1 (List.mem_of_mem_drop hv)
    obtain ⟨A, c, e⟩ := (h.row i v (rows[i]'(by have := (List.getElem?_eq_some_iff.1 hi).1; rw [h.many] at this; exact this)) hi (List.getElem?_eq_getElem _)).1.shape
    rw [e]
    rfl)
  have H := Lib.hid h
  have LQ := Lib.hid (show (vs.drop 16).length = 0 by rw [List.length_drop, hl])
  have LP := Lib.hid (pageCells_len (vs := vs) (by omega))
  have HV := Lib.hid hl
  clear h h1 hl hk
  go_enter Tryz.func165, Tryz.ntmps165
  go_wp2_with fail
  go_region_law (refine step_copy_only rfl (.tmp 23) (.tmp 32) 199 199 rfl 27 rfl rfl ⟨g, 0, none⟩ 16 16 0 0 g 0 (by simp [Act.eval, Act.put]) (by simp [Act.eval, Act.put]) (pageCells vs) 175 HG.out (vs.drop 16) 0 LQ.out rfl HS.out (by rw [LQ.out, LP.out]; omega) HO.out ?_; intro w2 hg2 ho2)
  have G2 := Lib.hid (show w2.drew.heap[g]? = some (.cells (splice (pageCells vs) 0 (vs.drop 16)).toArray 175 (0, 0)) from hg2.out)
  have L2 := Lib.hid (show (splice (pageCells vs) 0 (vs.drop 16)).length = 17 by rw [length_splice _ _ _ (by rw [LQ.out, LP.out]; omega), LP.out])
  have c16 : (splice (pageCells vs) 0 (vs.drop 16))[16]? = some (.int .i64 16) := by
    unfold splice
    rw [List.take_zero, List.nil_append, List.getElem?_append_right (by rw [LQ.out]; omega), LQ.out, List.getElem?_drop, show 0 + 0 + (16 - 0) = 16 by omega, pageCells_many _ (by rw [HV.out]; omega), HV.out]
    rfl
  have m3 : w2.drew.cell? ⟨g, 16, none⟩ = some (.int .i64 16) := by
    rw [cell_of_row _ g 16 _ _ (0, 0) G2.out]
    simpa using c16
  clear c16 hg2
  have O2 := Lib.hid ho2.out
  clear ho2
  go_wp2_with fail
  go_region_law (refine step_clear_only rfl (.tmp 42) 199 rfl 27 rfl (.slice none 0 0) (fun _ => rfl) rfl rfl 16 16 g 0 (by simp [Act.eval, Act.put]) (splice (pageCells vs) 0 (vs.drop 16)) 175 G2.out (by rw [L2.out]; omega) ?_; intro w3 hg3 ho3)
  have ES : splice (splice (pageCells vs) 0 (vs.drop 16)) 0 (List.replicate 16 (.slice none 0 0)) = splice (splice (pageCells vs) 0 (vs.drop 16)) 0 (List.replicate 16 (.slice none 0 0)) := by first | rfl | simp [splice]
  have G3 := Lib.hid (show w3.heap[g]? = some (.cells (splice (splice (pageCells vs) 0 (vs.drop 16)) 0 (List.replicate 16 (.slice none 0 0))).toArray 175 (0, 0)) by rw [← ES]; exact hg3.out)
  clear ES
  have f3 : w3.frozen? ⟨g, 16, none⟩ = false := frozen_of_row w3 g 16 _ _ G3.out
  have m4 : ∃ v, w3.cell? ⟨g, 16, none⟩ = some v := by
    rw [cell_of_row _ g 16 _ _ (0, 0) G3.out]
    exact ⟨_, Array.getElem?_eq_getElem (by
      have e := length_splice (splice (pageCells vs) 0 (vs.drop 16)) 0 (List.replicate 16 (.slice none 0 0)) (by rw [L2.out, List.length_replicate]; omega)
      rw [L2.out] at e
      rw [List.size_toArray, e]
      omega)⟩
  obtain ⟨v16, m4⟩ := m4
  have O3 := Lib.hid (show OnlyRow g w w3 from (OnlyRow.ofDrew O2.out).trans (OnlyRow.ofDrew ho3.out))
  clear hg3 ho3 m3
  go_wp2
  have O4 := O3.out.trans (OnlyRow.cell g 16 w3 (.int .i64 0))
  have G4 : (w3.setCell ⟨g, 16, none⟩ (.int .i64 0)).heap[g]? = some (.cells (pageCells (vs.drop 16)).toArray 175 (0, 0)) := by
    rw [heap_setCell_same w3 g 16 _ _ (.int .i64 0) G3.out, ← pageCells_cut vs 16 0 HV.out (by omega)]
    congr 2
    simp
  go_ret
  exact ⟨rfl, H.out.cut O4 16 G4, O4⟩
set_option maxRecDepth 100000 in
set_option maxHeartbeats 3200000 in
theorem pageCut_noneOfSixteen (base g : Nat) (vs : List Value) (rows : List PRow) (w : World) (h : PageAt w base g vs rows) (hk : rows.length = 16) :
    Calls Tryz.prog 165 #[.pointer (some ⟨g, 0, none⟩), .int .i64 0] w fun e w' => e = .returned (.bool true) ∧ PageAt w' base g (vs.drop 0) (rows.drop 0) ∧ OnlyRow g w w' := by
  have hl : vs.length = 16 := h.many.trans hk
  have h1 := PageAt.below h (Below.refl w.heap.size w).drew
  have m1 : w.cell? ⟨g, 16, none⟩ = some (.int .i64 16) := by rw [h.get, pageCells_many _ (by omega), hl]; rfl
  have m2 : w.drew.cell? ⟨g, 16, none⟩ = some (.int .i64 16) := m1
  have HG := Lib.hid h1.cells
  have HS := Lib.hid (show ∀ j v, (vs.drop 0)[j]? = some v → w.drew.cell? ((⟨g, 0, none⟩ : Addr).add j) = some v from fun j v hj => by
    have hj2 := (List.getElem?_eq_some_iff.1 hj).1
    rw [List.length_drop] at hj2
    rw [List.getElem?_drop] at hj
    first
      | (exfalso; omega)
      | (have e : (⟨g, 0, none⟩ : Addr).add j = ⟨g, 0 + j, none⟩ := by
          unfold Addr.add
          split
          · subst j; rfl
          · rfl
         rw [e]
         exact (h1.get (0 + j)).trans (pageCells_row vs hj)))
  have HO := Lib.hid (show ∀ v ∈ vs.drop 0, v.oneCell' = true from fun v hv => by
    obtain ⟨i, hi⟩ := List.mem_iff_getElem?.1 (List.mem_of_mem_drop hv)
    obtain ⟨A, c, e⟩ := (h.row i v (rows[i]'(by have := (List.getElem?_eq_some_iff.1 hi).1; rw [h.many] at this; exact this)) hi (List.getElem?_eq_getElem _)).1.shape
    rw [e]
    rfl)
  have H := Lib.hid h
  have LQ := Lib.hid (show (vs.drop 0).length = 16 by rw [List.length_drop, hl])
  have LP := Lib.hid (pageCells_len (vs := vs) (by omega))
  have HV := Lib.hid hl
  clear h h1 hl hk
  go_enter Tryz.func165, Tryz.ntmps165
  go_wp2_with fail
  go_region_law (refine step_copy_only rfl (.tmp 23) (.tmp 32) 199 199 rfl 27 rfl rfl ⟨g, 0, none⟩ 16 16 16 16 g 0 (by simp [Act.eval, Act.put]) (by simp [Act.eval, Act.put]) (pageCells vs) 175 HG.out (vs.drop 0) 16 LQ.out rfl HS.out (by rw [LQ.out, LP.out]; omega) HO.out ?_; intro w2 hg2 ho2)
  have G2 := Lib.hid (show w2.drew.heap[g]? = some (.cells (splice (pageCells vs) 0 (vs.drop 0)).toArray 175 (0, 0)) from hg2.out)
  have L2 := Lib.hid (show (splice (pageCells vs) 0 (vs.drop 0)).length = 17 by rw [length_splice _ _ _ (by rw [LQ.out, LP.out]; omega), LP.out])
  have c16 : (splice (pageCells vs) 0 (vs.drop 0))[16]? = some (.int .i64 16) := by
    unfold splice
    rw [List.take_zero, List.nil_append, List.getElem?_append_right (by rw [LQ.out]; omega), LQ.out, List.getElem?_drop, show 0 + 16 + (16 - 16) = 16 by omega, pageCells_many _ (by rw [HV.out]; omega), HV.out]
    rfl
  have m3 : w2.drew.cell? ⟨g, 16, none⟩ = some (.int .i64 16) := by
    rw [cell_of_row _ g 16 _ _ (0, 0) G2.out]
    simpa using c16
  clear c16 hg2
  have O2 := Lib.hid ho2.out
  clear ho2
  go_wp2_with fail
  go_region_law (refine step_clear_only rfl (.tmp 42) 199 rfl 27 rfl (.slice none 0 0) (fun _ => rfl) rfl rfl 0 0 g 0 (by simp [Act.eval, Act.put]) (splice (pageCells vs) 0 (vs.drop 0)) 175 G2.out (by rw [L2.out]; omega) ?_; intro w3 hg3 ho3)
  have ES : splice (splice (pageCells vs) 0 (vs.drop 0)) 0 (List.replicate 0 (.slice none 0 0)) = splice (splice (pageCells vs) 0 (vs.drop 0)) 16 (List.replicate 0 (.slice none 0 0)) := by first | rfl | simp [splice]
  have G3 := Lib.hid (show w3.heap[g]? = some (.cells (splice (splice (pageCells vs) 0 (vs.drop 0)) 16 (List.replicate 0 (.slice none 0 0))).toArray 175 (0, 0)) by rw [← ES]; exact hg3.out)
  clear ES
  have f3 : w3.frozen? ⟨g, 16, none⟩ = false := frozen_of_row w3 g 16 _ _ G3.out
  have m4 : ∃ v, w3.cell? ⟨g, 16, none⟩ = some v := by
    rw [cell_of_row _ g 16 _ _ (0, 0) G3.out]
    exact ⟨_, Array.getElem?_eq_getElem (by
      have e := length_splice (splice (pageCells vs) 0 (vs.drop 0)) 16 (List.replicate 0 (.slice none 0 0)) (by rw [L2.out, List.length_replicate]; omega)
      rw [L2.out] at e
      rw [List.size_toArray, e]
      omega)⟩
  obtain ⟨v16, m4⟩ := m4
  have O3 := Lib.hid (show OnlyRow g w w3 from (OnlyRow.ofDrew O2.out).trans (OnlyRow.ofDrew ho3.out))
  clear hg3 ho3 m3
  go_wp2
  have O4 := O3.out.trans (OnlyRow.cell g 16 w3 (.int .i64 16))
  have G4 : (w3.setCell ⟨g, 16, none⟩ (.int .i64 16)).heap[g]? = some (.cells (pageCells (vs.drop 0)).toArray 175 (0, 0)) := by
    rw [heap_setCell_same w3 g 16 _ _ (.int .i64 16) G3.out, ← pageCells_cut vs 0 16 HV.out (by omega)]
    congr 2
    simp
  go_ret
  exact ⟨rfl, H.out.cut O4 0 G4, O4⟩
theorem pageCut_walk (base g : Nat) (vs : List Value) (rows : List PRow) (k : Nat) (w : World) (h : PageAt w base g vs rows) (hk : k ≤ rows.length) :
    Calls Tryz.prog 165 #[.pointer (some ⟨g, 0, none⟩), .int .i64 (k : Int)] w fun e w' => e = .returned (.bool true) ∧ PageAt w' base g (vs.drop k) (rows.drop k) ∧ OnlyRow g w w' := by
  by_cases h1 : k = 16
  · subst h1
    exact pageCut_allSixteen base g vs rows w h (by have := h.few; omega)
  · by_cases h2 : k = 0 ∧ rows.length = 16
    · obtain ⟨rfl, e⟩ := h2
      exact pageCut_noneOfSixteen base g vs rows w h e
    · exact pageCut_main base g vs rows k w h hk (fun e => h1 e.symm) h2
end Go.Proofs.YtibihjcpkdfgeaaGreatDoor
namespace Go.Proofs.YtibihjcpkdfgeaaGreatDoor
open Go.ChangeShapes Go.WideShapes Go.ChangeAt Go.RowKit

/-- The slice v holds the n cells xs, in a block at base or beyond, wherever it begins there. -/
def SlAt (w : World) (base : Nat) (e : TypeId) (v : Value) (n : Nat) (xs : List Value) : Prop :=
  xs.length = n ∧ ((v = .slice none 0 0 ∧ n = 0) ∨ ∃ b off cap cur, v = .slice (some ⟨b, off, none⟩) n cap ∧ base ≤ b ∧ w.heap[b]? = some (.cells cur e (0, 0)) ∧ n ≤ cap ∧ cap ≤ maxLen ∧ off + cap ≤ cur.size ∧ ∀ j u, xs[j]? = some u → cur[off + j]? = some u)
namespace SlAt
variable {w w' : World} {base : Nat} {e : TypeId} {v : Value} {n : Nat} {xs : List Value}
theorem nothing (w : World) (base : Nat) (e : TypeId) : SlAt w base e (.slice none 0 0) 0 [] := ⟨rfl, .inl ⟨rfl, rfl⟩⟩
theorem type (h : SlAt w base e v n xs) : ∀ k, v.ownBlock = some k → base ≤ k ∧ ∃ cur, w.heap[k]? = some (.cells cur e (0, 0)) := by
  intro k hk
  rcases h.2 with ⟨rfl, _⟩ | ⟨b, off, cap, cur, rfl, hb, hg, _⟩
  · cases hk
  · injection hk with hk
    subst hk
    exact ⟨hb, cur, hg⟩
theorem lt (h : SlAt w base e v n xs) : ∀ k, v.ownBlock = some k → base ≤ k ∧ k < w.heap.size := fun k hk =>
  let ⟨h1, _, h2⟩ := h.type k hk; ⟨h1, (Array.getElem?_eq_some_iff.1 h2).1⟩
theorem kept (h : SlAt w base e v n xs) (k : ∀ b, v.ownBlock = some b → w'.heap[b]? = w.heap[b]?) : SlAt w' base e v n xs := by
  refine ⟨h.1, ?_⟩
  rcases h.2 with h' | ⟨b, off, cap, cur, rfl, hb, hg, r⟩
  · exact .inl h'
  · exact .inr ⟨b, off, cap, cur, rfl, hb, (k b rfl).trans hg, r⟩
theorem mono {base' : Nat} (h : SlAt w base e v n xs) (hb : base' ≤ base) : SlAt w base' e v n xs := by
  refine ⟨h.1, ?_⟩
  rcases h.2 with h' | ⟨b, off, cap, cur, rfl, hb', r⟩
  · exact .inl h'
  · exact .inr ⟨b, off, cap, cur, rfl, Nat.le_trans hb hb', r⟩
theorem shape (h : SlAt w base e v n xs) : ∃ A c, v = .slice A n c ∧ n ≤ c := by
  rcases h.2 with ⟨rfl, h0⟩ | ⟨b, off, cap, cur, rfl, _, _, hc, _⟩
  · rw [h0]; exact ⟨_, _, rfl, Nat.le_refl _⟩
  · exact ⟨_, _, rfl, hc⟩
/-- One of its cells. -/
theorem cell (h : SlAt w base e v n xs) {j : Nat} {u : Value} (hu : xs[j]? = some u) : ∃ b off cap, v = .slice (some ⟨b, off, none⟩) n cap ∧ n ≤ cap ∧ base ≤ b ∧ b < w.heap.size ∧ w.cell? ⟨b, off + j, none⟩ = some u ∧ w.frozen? ⟨b, off + j, none⟩ = false := by
  rcases h.2 with ⟨rfl, h0⟩ | ⟨b, off, cap, cur, rfl, hb, hg, hc, _, _, hx⟩
  · have := (List.getElem?_eq_some_iff.1 hu).1
    have := h.1
    omega
  · exact ⟨b, off, cap, rfl, hc, hb, (Array.getElem?_eq_some_iff.1 hg).1, (cell_of_row w b _ _ e (0, 0) hg).trans (hx j u hu), frozen_of_row w b _ _ _ hg⟩
/-- Its first cell is written over, and it begins behind it. -/
theorem tail {b off cap : Nat} {x u : Value} (h : SlAt w base e (.slice (some ⟨b, off, none⟩) (n + 1) cap) (n + 1) (x :: xs)) (off' : Nat) (ho : off' = off + 1 ∨ (cap = 1)) :
    SlAt (w.setCell ⟨b, off, none⟩ u) base e (.slice (some ⟨b, off', none⟩) n (cap - 1)) n xs ∨ off' ≠ off + 1 := by
  by_cases hoff : off' = off + 1
  · left
    subst hoff
    refine ⟨by have := h.1; simpa using this, .inr ?_⟩
    rcases h.2 with ⟨_, h0⟩ | ⟨b', off1, cap', cur, e1, hb, hg, hc, hm, hs, hx⟩
    · omega
    · injection e1 with e1 _ e3
      injection e1 with e1
      injection e1 with e1 e2
      subst e1 e2 e3
      refine ⟨b, off + 1, cap - 1, _, rfl, hb, heap_setCell_same w b off _ _ u hg, by omega, by omega, by simp; omega, fun j y hy => ?_⟩
      have := hx (j + 1) y (by simpa using hy)
      rw [show off + (j + 1) = off + 1 + j by omega] at this
      rw [Array.getElem?_setIfInBounds_ne (by omega)]
      exact this
  · exact .inr hoff
/-- None of its cells is left: it may begin anywhere. -/
theorem empty {b off off' cap : Nat} {m : Nat} {ys : List Value} (h : SlAt w base e (.slice (some ⟨b, off, none⟩) m cap) m ys) (ho : off' ≤ off) (u : Value) :
    SlAt (w.setCell ⟨b, off, none⟩ u) base e (.slice (some ⟨b, off', none⟩) 0 0) 0 [] := by
  refine ⟨rfl, .inr ?_⟩
  rcases h.2 with ⟨e1, h0⟩ | ⟨b', off1, cap', cur, e1, hb, hg, hc, hm, hs, hx⟩
  · cases e1
  · injection e1 with e1 _ e3
    injection e1 with e1
    injection e1 with e1 e2
    subst e1 e2 e3
    exact ⟨b, off', 0, _, rfl, hb, heap_setCell_same w b off _ _ u hg, Nat.le_refl _, Nat.zero_le _, by simp; omega, fun j y hy => by simp at hy⟩
end SlAt
theorem grownBy_drewAlloc (w : World) (o : Obj) (row : Option Nat) : w.grownBy (w.drew.alloc o) row :=
  ⟨rfl, rfl, rfl, by simp, fun k hk _ => Below.heap_alloc w.drew o k hk⟩
theorem growslice_one {need old bytes : Nat} (h : old < need) (hb : need * bytes ≤ 140737488355328) : Builtin.nextslicecap need old * bytes ≤ 281474976710656 := growslice_fits h hb
/-- append of one element, wherever the slice begins. -/
theorem run_slAt {P : Program} (w : World) (base : Nat) (t ty e : TypeId) (i : TypeInfo) (z : Value) (bytes : Nat) (ht : P.underlying t = some (.slice e)) (hi : P.info? e = some i) (hz : i.zero = some z) (hsize : i.size = 1) (hby : i.bytes = bytes) (hzs : z.cells.size = 1)
    (v : Value) (n : Nat) (xs : List Value) (h : SlAt w base e v n xs) (a : Addr) (c : Nat) (u : Value) (ha : w.cell? a = some u) (h1 : u.oneCell' = true) (h63 : n + 1 ≤ maxLen) (hbytes : (n + 1) * bytes ≤ 140737488355328) (hbase : base ≤ w.heap.size) :
    ∃ v' w', (Builtin.append_ #[t, t] ty #[v, .slice (some a) 1 c]).run P w = .ok v' w' ∧ SlAt w' base e v' (n + 1) (xs ++ [u]) ∧ w.grownBy w' v.ownBlock ∧ (v'.ownBlock = v.ownBlock ∨ v'.ownBlock = some w.heap.size) := by
  have hnews : ∀ j x, [u][j]? = some x → w.cell? (a.add j) = some x := by
    intro j x hx
    match j, hx with
    | 0, hx =>
      simp at hx
      subst hx
      have : a.add 0 = a := by unfold Addr.add; split <;> simp_all
      rw [this]
      exact ha
  have hone : ∀ x ∈ [u], x.oneCell' = true := by
    intro x hx
    simp at hx
    subst hx
    exact h1
  have hfresh : ∀ (cap : Nat) (cs : Array Value), n + 1 ≤ cap → cap ≤ maxLen → cs.size = cap → (∀ j x, (xs ++ [u])[j]? = some x → cs[0 + j]? = some x) →
      SlAt (w.drew.alloc (.cells cs e)) base e (.slice (some ⟨w.heap.size, 0, none⟩) (n + 1) cap) (n + 1) (xs ++ [u]) := fun cap cs h2 h3 h4 h5 =>
    ⟨by simp [h.1], .inr ⟨w.heap.size, 0, cap, cs, rfl, hbase, heap_alloc_new w.drew _, h2, h3, by omega, h5⟩⟩
  unfold maxLen at h63
  rcases h.2 with ⟨rfl, rfl⟩ | ⟨b, off, cap, cur, rfl, hb, hg, hc, hm, hs, hx⟩
  · have hxs : xs = [] := List.eq_nil_of_length_eq_zero h.1
    have hr := run_append_nil (P := P) w t ty e i z ht hi hz a 1 c [u] (by simp [hsize]) hnews (by omega) (by omega) (by omega)
    have hge := grownCap_ge w 1 0 e
    refine ⟨_, _, hr, hfresh _ _ (by simpa using hge) (grownCap_le_maxLen w 1 0 e (by unfold maxLen; omega)) (by rw [Array.size_append, size_zeroCells, hzs]; simp; omega) (fun j x hj => ?_), grownBy_drewAlloc _ _ _, .inr rfl⟩
    rw [hxs] at hj
    match j, hj with
    | 0, hj => rw [Array.getElem?_append_left (by simp)]; simpa using hj
  · by_cases hroom : n + 1 ≤ cap
    · have hcell : (w.cell? ⟨b, off + n, none⟩).isSome = true := by
        rw [cell_of_row w b (off + n) cur e (0, 0) hg, Array.getElem?_eq_getElem (by omega)]
        rfl
      have hr := run_append_room_src (P := P) w t t ty e i ht hi b off n cap (.slice (some a) 1 c) 1 [u] (Src.ofSlice w ht a 1 c [u] (by simp [hsize]) hnews hone) hroom (fun j hj => by
        have : j = 0 := by simpa using hj
        subst this
        simpa [hsize] using hcell) (fun j hj => by rw [frozen_of_row w b _ cur e hg])
      rw [hsize, Nat.mul_one] at hr
      refine ⟨_, _, hr, ⟨by simp [h.1], .inr ⟨b, off, cap, _, rfl, hb, heap_setCell_same w b (off + n) _ _ u hg, hroom, hm, by simpa using hs, fun j x hj => ?_⟩⟩, ⟨rfl, rfl, rfl, by simp [World.setCells], fun k _ hk => Below.heap_setCell _ _ _ _ (fun e => hk (by rw [e]; rfl))⟩, .inl rfl⟩
      by_cases hjn : j < n
      · rw [List.getElem?_append_left (by rw [h.1]; exact hjn)] at hj
        rw [Array.getElem?_setIfInBounds_ne (by omega)]
        exact hx j x hj
      · rw [List.getElem?_append_right (by rw [h.1]; omega), h.1] at hj
        have hj0 : j - n = 0 := by
          have := (List.getElem?_eq_some_iff.1 hj).1
          simpa using this
        rw [hj0] at hj
        simp at hj
        subst hj
        rw [show off + j = off + n by omega, Array.getElem?_setIfInBounds_self_of_lt (by omega)]
    · have hr := run_append_grow (P := P) w t ty e i z ht hi hz ⟨b, off, none⟩ n cap xs (by simp [hsize, h.1]) (fun j x hj => by
        rw [add_spot, cell_of_row w b (off + j) cur e (0, 0) hg]
        exact hx j x hj) a 1 c [u] (by simp [hsize]) hnews (by omega) (by omega) (growslice_one (by omega) (by rw [hby]; exact hbytes))
      have hge := grownCap_ge w (n + 1) cap e
      refine ⟨_, _, hr, hfresh _ _ hge (grownCap_le_maxLen w (n + 1) cap e (by unfold maxLen; omega)) (by
        rw [Array.size_append, Array.size_append, size_zeroCells, hzs]
        simp [h.1]
        omega) (fun j x hj => ?_), grownBy_drewAlloc _ _ _, .inr rfl⟩
      have hjl := (List.getElem?_eq_some_iff.1 hj).1
      rw [Nat.zero_add, Array.getElem?_append_left (by simpa using hjl)]
      simpa using hj
/-- append of one element, at a plain statement. -/
theorem wpl_slAt {P : Program} {w : World} {ops : Array Oper} {rest : List Oper} {o : Oper} {a : Act} {Q : Exit → Act → World → Prop} (hgd : o.guard = none) (s x : Operand) (t : TypeId)
    (ho : o.op = .call { callee := .builtin .append, args := #[s, x], argTypes := #[t, t] })
    (base : Nat) (e : TypeId) (i : TypeInfo) (z : Value) (bytes : Nat) (ht : P.underlying t = some (.slice e)) (hi : P.info? e = some i) (hz : i.zero = some z) (hsize : i.size = 1) (hby : i.bytes = bytes) (hzs : z.cells.size = 1)
    (v : Value) (n : Nat) (xs : List Value) (hs : a.eval s = v) (hv : SlAt w base e v n xs) (ad : Addr) (c : Nat) (u : Value) (hx : a.eval x = .slice (some ad) 1 c) (ha : w.cell? ad = some u) (h1 : u.oneCell' = true) (h63 : n + 1 ≤ maxLen) (hbytes : (n + 1) * bytes ≤ 140737488355328) (hbase : base ≤ w.heap.size)
    (h : ∀ v' w', SlAt w' base e v' (n + 1) (xs ++ [u]) → w.grownBy w' v.ownBlock → (v'.ownBlock = v.ownBlock ∨ v'.ownBlock = some w.heap.size) → wpList P ops Q rest (a.put o.dst v') w') : wpList P ops Q (o :: rest) a w := by
  obtain ⟨v', w', hrun, h2, h3, h4⟩ := run_slAt (P := P) w base t o.type e i z bytes ht hi hz hsize hby hzs v n xs hv ad c u ha h1 h63 hbytes hbase
  refine wpList_plain hgd fun K hK => ?_
  unfold Oper.wp
  simp only [execOp, ho, resolve, invoke, builtin, Sem.run_bind, Sem.run_pure, Result.andThen_ok, List.map_toArray, List.map_cons, List.map_nil, hs, hx, hrun]
  exact hK _ _ (h v' w' h2 h3 h4)
end Go.Proofs.YtibihjcpkdfgeaaGreatDoor
namespace Go.Proofs.YtibihjcpkdfgeaaGreatDoor
open Go.ChangeShapes Go.WideShapes Go.ChangeAt Go.RowKit

theorem PageAt.typed {w : World} {base g : Nat} {vs : List Value} {rows : List PRow} (h : PageAt w base g vs rows) : Typed w 175 g := ⟨_, _, h.cells⟩
theorem PageAt.turned {M : Nat → Prop} {w w' : World} {base g : Nat} {vs : List Value} {rows : List PRow} (h : PageAt w base g vs rows) (ht : Turned M w w') (hg : ¬ M g) (hm : ∀ k, M k → ¬ Typed w 5 k) : PageAt w' base g vs rows :=
  ⟨(ht.block g h.lt hg).trans h.cells, h.from', h.many, h.few, fun i v r hv hr => ⟨(h.row i v r hv hr).1.turned ht hm, (h.row i v r hv hr).2⟩, h.may⟩
theorem PageAt.base {w : World} {base base' g : Nat} {vs : List Value} {rows : List PRow} (h : PageAt w base g vs rows) (hb : base' ≤ base) : PageAt w base' g vs rows :=
  ⟨h.cells, Nat.le_trans hb h.from', h.many, h.few, fun i v r hv hr => ⟨(h.row i v r hv hr).1.mono' hb, (h.row i v r hv hr).2⟩, h.may⟩

/-- A page: its block, its rows' bytes, its rows. -/
structure Pg where
  g : Nat
  vs : List Value
  rows : List PRow
abbrev ptr (g : Nat) : Value := .pointer (some ⟨g, 0, none⟩)
def allRows (ps : List Pg) : List PRow := (ps.map Pg.rows).flatten
theorem allRows_nil : allRows [] = [] := rfl
theorem allRows_cons (p : Pg) (ps : List Pg) : allRows (p :: ps) = p.rows ++ allRows ps := by simp [allRows]
theorem allRows_append (ps qs : List Pg) : allRows (ps ++ qs) = allRows ps ++ allRows qs := by simp [allRows]
theorem bytesN_append (a b : List PRow) : bytesN (a ++ b) = bytesN a + bytesN b := by simp [bytesN]
/-- A store in memory, its fields as they stand. -/
structure StR (w : World) (base g : Nat) (v : Value) (ps : List Pg) (lim many bytes gone : Int) : Prop where
  cells : w.heap[g]? = some (.cells #[v, .int .i64 lim, .int .i64 many, .int .i64 bytes, .int .i64 gone] 178 (0, 0))
  from' : base ≤ g
  sl : SlAt w base 148 v ps.length (ps.map fun p => ptr p.g)
  page : ∀ p ∈ ps, PageAt w base p.g p.vs p.rows
  apart : (ps.map Pg.g).Nodup
/-- No page is empty; all but the front one and the last one are full. -/
structure Full (ps : List Pg) : Prop where
  some' : ∀ p ∈ ps, p.rows ≠ []
  few : ∀ p ∈ ps, p.rows.length ≤ 16
  full : ∀ (i : Nat) (p : Pg), ps[i]? = some p → 0 < i → i + 1 < ps.length → p.rows.length = 16
/-- A store that keeps its word. -/
structure StoreAt (w : World) (base g : Nat) (v : Value) (ps : List Pg) (lim gone : Nat) : Prop where
  raw : StR w base g v ps lim ((allRows ps).length : Nat) (bytesN (allRows ps) : Nat) gone
  kept : Full ps
/-- The blocks that a store may turn. -/
def Owns (g : Nat) (v : Value) (ps : List Pg) (k : Nat) : Prop := k = g ∨ v.ownBlock = some k ∨ ∃ p ∈ ps, p.g = k
namespace StR
variable {w w' : World} {base g : Nat} {v : Value} {ps : List Pg} {lim many bytes gone : Int}
theorem typed (h : StR w base g v ps lim many bytes gone) : Typed w 178 g := ⟨_, _, h.cells⟩
theorem lt (h : StR w base g v ps lim many bytes gone) : g < w.heap.size := (Array.getElem?_eq_some_iff.1 h.cells).1
theorem get (h : StR w base g v ps lim many bytes gone) (j : Nat) : w.cell? ⟨g, j, none⟩ = #[v, .int .i64 lim, .int .i64 many, .int .i64 bytes, .int .i64 gone][j]? := cell_of_row w g j _ _ (0, 0) h.cells
theorem free (h : StR w base g v ps lim many bytes gone) (j : Nat) : w.frozen? ⟨g, j, none⟩ = false := frozen_of_row w g j _ _ h.cells
theorem slTyped (h : StR w base g v ps lim many bytes gone) : ∀ k, v.ownBlock = some k → Typed w 148 k := fun k e => let ⟨_, cs, h⟩ := h.sl.type k e; ⟨cs, _, h⟩
/-- None of its own blocks holds bytes of rows. -/
theorem noBytes (h : StR w base g v ps lim many bytes gone) : ∀ k, Owns g v ps k → ¬ Typed w 5 k := by
  rintro k (rfl | hk | ⟨p, hp, rfl⟩) hb
  · exact h.typed.apart hb (by decide) rfl
  · exact (h.slTyped k hk).apart hb (by decide) rfl
  · exact (h.page p hp).typed.apart hb (by decide) rfl
theorem own_ge (h : StR w base g v ps lim many bytes gone) : ∀ k, Owns g v ps k → base ≤ k ∧ k < w.heap.size := by
  rintro k (rfl | hk | ⟨p, hp, rfl⟩)
  · exact ⟨h.from', h.lt⟩
  · exact h.sl.lt k hk
  · exact ⟨(h.page p hp).from', (h.page p hp).lt⟩
/-- Where none of its blocks has turned, and no row's bytes, it stands. -/
theorem turned (h : StR w base g v ps lim many bytes gone) {M : Nat → Prop} (ht : Turned M w w') (ho : ∀ k, Owns g v ps k → ¬ M k) (hm : ∀ k, M k → ¬ Typed w 5 k) : StR w' base g v ps lim many bytes gone :=
  ⟨(ht.block g h.lt (ho g (.inl rfl))).trans h.cells, h.from', h.sl.kept fun b hb => ht.block b (h.sl.lt b hb).2 (ho b (.inr (.inl hb))),
    fun p hp => (h.page p hp).turned ht (ho p.g (.inr (.inr ⟨p, hp, rfl⟩))) hm, h.apart⟩
theorem below (h : StR w base g v ps lim many bytes gone) (hb : Below w.heap.size w w') : StR w' base g v ps lim many bytes gone := h.turned (M := fun _ => False) (Turned.ofBelow hb _) (fun _ _ h => h) (fun _ h => h.elim)
/-- What turns its own block alone leaves all else of it. -/
theorem head (h : StR w base g v ps lim many bytes gone) (ht : Turned (· = g) w w') {lim' many' bytes' gone' : Int} (hc : w'.heap[g]? = some (.cells #[v, .int .i64 lim', .int .i64 many', .int .i64 bytes', .int .i64 gone'] 178 (0, 0))) : StR w' base g v ps lim' many' bytes' gone' := by
  refine ⟨hc, h.from', h.sl.kept fun b hb => ht.block b (h.sl.lt b hb).2 (fun e => (h.slTyped b hb).apart h.typed (by decide) e), fun p hp => (h.page p hp).turned ht (fun e => (h.page p hp).typed.apart h.typed (by decide) e) (fun k e => ?_), h.apart⟩
  subst e
  exact fun hb => h.typed.apart hb (by decide) rfl
theorem setLim (h : StR w base g v ps lim many bytes gone) (x : Int) : StR (w.setCell ⟨g, 1, none⟩ (.int .i64 x)) base g v ps x many bytes gone := h.head (Turned.ofCell _ _ _ _) (heap_setCell_same w g 1 _ _ _ h.cells)
theorem setMany (h : StR w base g v ps lim many bytes gone) (x : Int) : StR (w.setCell ⟨g, 2, none⟩ (.int .i64 x)) base g v ps lim x bytes gone := h.head (Turned.ofCell _ _ _ _) (heap_setCell_same w g 2 _ _ _ h.cells)
theorem setBytes (h : StR w base g v ps lim many bytes gone) (x : Int) : StR (w.setCell ⟨g, 3, none⟩ (.int .i64 x)) base g v ps lim many x gone := h.head (Turned.ofCell _ _ _ _) (heap_setCell_same w g 3 _ _ _ h.cells)
theorem setGone (h : StR w base g v ps lim many bytes gone) (x : Int) : StR (w.setCell ⟨g, 4, none⟩ (.int .i64 x)) base g v ps lim many bytes x := h.head (Turned.ofCell _ _ _ _) (heap_setCell_same w g 4 _ _ _ h.cells)
/-- Another list of pages: the slice is put into the store's block. -/
theorem setPages (h : StR w base g v ps lim many bytes gone) {u : Value} {qs : List Pg} (hs : SlAt w base 148 u qs.length (qs.map fun p => ptr p.g)) (hp : ∀ p ∈ qs, PageAt w base p.g p.vs p.rows) (ha : (qs.map Pg.g).Nodup) :
    StR (w.setCell ⟨g, 0, none⟩ u) base g u qs lim many bytes gone := by
  have ht := Turned.ofCell g 0 w u
  have hu : ∀ k, u.ownBlock = some k → Typed w 148 k := fun k e => let ⟨_, cs, h⟩ := hs.type k e; ⟨cs, _, h⟩
  refine ⟨heap_setCell_same w g 0 _ _ _ h.cells, h.from', hs.kept fun b hb => ht.block b (hs.lt b hb).2 (fun e => (hu b hb).apart h.typed (by decide) e), fun p hp' => (hp p hp').turned ht (fun e => (hp p hp').typed.apart h.typed (by decide) e) (fun k e => ?_), ha⟩
  subst e
  exact fun hb => h.typed.apart hb (by decide) rfl
/-- One page has turned. -/
theorem setPage {ps0 ps1 : List Pg} {p : Pg} (h : StR w base g v (ps0 ++ p :: ps1) lim many bytes gone) (ht : Turned (· = p.g) w w') {vs' : List Value} {rows' : List PRow} (hp : PageAt w' base p.g vs' rows') :
    StR w' base g v (ps0 ++ ⟨p.g, vs', rows'⟩ :: ps1) lim many bytes gone := by
  have hpp := h.page p (by simp)
  have hb : ∀ k, k = p.g → ¬ Typed w 5 k := fun k e hb => by subst e; exact hpp.typed.apart hb (by decide) rfl
  have hne : ∀ q, q ∈ ps0 ∨ q ∈ ps1 → q.g ≠ p.g := fun q hq e => by
    have ha := h.apart
    rw [List.map_append, List.map_cons, List.nodup_append] at ha
    rcases hq with hq | hq
    · exact ha.2.2 q.g (List.mem_map.2 ⟨q, hq, rfl⟩) p.g (by simp) e
    · have := (List.nodup_cons.1 ha.2.1).1
      exact this (by rw [← e]; exact List.mem_map.2 ⟨q, hq, rfl⟩)
  refine ⟨(ht.block g h.lt (fun e => h.typed.apart hpp.typed (by decide) e)).trans h.cells, h.from', ?_, fun q hq => ?_, by simpa using h.apart⟩
  · have hs := h.sl.kept (w' := w') fun b hb => ht.block b (h.sl.lt b hb).2 (fun e => (h.slTyped b hb).apart hpp.typed (by decide) e)
    simpa using hs
  · rcases List.mem_append.1 hq with hq | hq
    · exact (h.page q (by simp [hq])).turned ht (hne q (.inl hq)) hb
    · rcases List.mem_cons.1 hq with rfl | hq
      · exact hp
      · exact (h.page q (by simp [hq])).turned ht (hne q (.inr hq)) hb
end StR
theorem StoreAt.turned {w w' : World} {base g : Nat} {v : Value} {ps : List Pg} {lim gone : Nat} (h : StoreAt w base g v ps lim gone) {M : Nat → Prop} (ht : Turned M w w') (ho : ∀ k, Owns g v ps k → ¬ M k) (hm : ∀ k, M k → ¬ Typed w 5 k) : StoreAt w' base g v ps lim gone := ⟨h.raw.turned ht ho hm, h.kept⟩
theorem StoreAt.below {w w' : World} {base g : Nat} {v : Value} {ps : List Pg} {lim gone : Nat} (h : StoreAt w base g v ps lim gone) (hb : Below w.heap.size w w') : StoreAt w' base g v ps lim gone := ⟨h.raw.below hb, h.kept⟩
theorem flatten_get {α : Type} : ∀ (l : List (List α)) (i : Nat), (∀ j q, l[j]? = some q → j + 1 < l.length → q.length = 16) → (∀ q ∈ l, q.length ≤ 16) → l.flatten[i]? = l[i / 16]?.bind (fun q => q[i % 16]?)
  | [], i, _, _ => by simp
  | q :: r, i, hf, hl => by
    have ih := fun k => flatten_get r k (fun j q' hj hl' => hf (j + 1) q' (by simpa using hj) (by simpa using hl')) (fun q' h => hl q' (by simp [h]))
    have hq := hl q (by simp)
    rw [List.flatten_cons]
    by_cases h16 : i < 16
    · rw [Nat.div_eq_of_lt h16, Nat.mod_eq_of_lt h16]
      simp only [List.getElem?_cons_zero, Option.bind_some]
      by_cases hi : i < q.length
      · rw [List.getElem?_append_left hi]
      · have hr : r = [] := by
          cases r with
          | nil => rfl
          | cons a b => have := hf 0 q (by simp) (by simp); omega
        subst hr
        simp
    · obtain ⟨m, rfl⟩ : ∃ m, i = m + 16 := ⟨i - 16, by omega⟩
      rw [Nat.add_mod_right, Nat.add_div_right m (by decide)]
      simp only [List.getElem?_cons_succ]
      rw [← ih m, List.getElem?_append_right (by omega)]
      cases r with
      | nil => simp
      | cons a b =>
        have := hf 0 q (by simp) (by simp)
        rw [this, Nat.add_sub_cancel]
/-- Where the i-th row stands. -/
theorem Full.front {p : Pg} {ps : List Pg} (i : Nat) (hi : i < p.rows.length) : (allRows (p :: ps))[i]? = p.rows[i]? := by rw [allRows_cons, List.getElem?_append_left hi]
theorem Full.behind {p : Pg} {ps : List Pg} (h : Full (p :: ps)) (i : Nat) (hi : p.rows.length ≤ i) : (allRows (p :: ps))[i]? = ps[(i - p.rows.length) / 16]?.bind (fun q => q.rows[(i - p.rows.length) % 16]?) := by
  rw [allRows_cons, List.getElem?_append_right hi]
  unfold allRows
  rw [flatten_get]
  · rw [List.getElem?_map]
    cases ps[(i - p.rows.length) / 16]? <;> rfl
  · intro j q hj hl
    rw [List.getElem?_map] at hj
    cases hq : ps[j]? with
    | none => rw [hq] at hj; cases hj
    | some q' =>
      rw [hq] at hj
      injection hj with hj
      subst hj
      exact h.full (j + 1) q' (by simpa using hq) (by omega) (by simpa using hl)
  · intro q hq
    obtain ⟨q', hq', rfl⟩ := List.mem_map.1 hq
    exact h.few q' (by simp [hq'])
theorem bytesN_drop_take (R : List PRow) (k : Nat) : bytesN (R.take k) + bytesN (R.drop k) = bytesN R := by rw [← bytesN_append, List.take_append_drop]
end Go.Proofs.YtibihjcpkdfgeaaGreatDoor
namespace Go.Proofs.YtibihjcpkdfgeaaGreatDoor
open Go.ChangeShapes Go.WideShapes Go.ChangeAt Go.RowKit
def clampN (n : Int) : Nat := (min (max n 0) 1000000).toNat
theorem clampN_le (n : Int) : clampN n ≤ 1000000 := by unfold clampN; omega
set_option maxRecDepth 100000 in
set_option maxHeartbeats 1600000 in
theorem clamp_walk (n : Int) (w : World) : Calls Tryz.prog 151 #[.int .i64 n] w fun e w' => e = .returned (.int .i64 (clampN n : Int)) ∧ w = w' := by
  have h : (clampN n : Int) = min (max n 0) 1000000 := by unfold clampN; omega
  rw [h]
  clear h
  go_enter Tryz.func151, Tryz.ntmps151
  go_wp2
  all_goals
    go_ret
    exact ⟨ret_int (by omega), rfl⟩
end Go.Proofs.YtibihjcpkdfgeaaGreatDoor
namespace Go.Proofs.YtibihjcpkdfgeaaGreatDoor
open Go.ChangeShapes Go.WideShapes Go.ChangeAt Go.RowKit

def NewS (lim : Int) (w : World) (e : Ending) (w' : World) : Prop := e = .returned (ptr w.heap.size) ∧ StoreAt w' w.heap.size w.heap.size (.slice none 0 0) [] (clampN lim) 0 ∧ Below w.heap.size w w' ∧ w'.heap.size = w.heap.size + 1
set_option maxRecDepth 100000 in
set_option maxHeartbeats 1600000 in
theorem storeNew_walk (lim : Int) (w : World) : Calls Tryz.prog 127 #[.int .i64 lim] w fun e w' => NewS lim w e w' := by
  have CW := Lib.hid (clamp_walk lim w)
  go_enter Tryz.func127, Tryz.ntmps127
  go_wp2_with fail
  refine CW.out.mono ?_
  rintro e w' ⟨rfl, rfl⟩
  clear CW
  go_wp2
  go_ret
  exact ⟨rfl, ⟨⟨heap_alloc_new w _, Nat.le_refl _, SlAt.nothing _ _ _, (fun p hp => by cases hp), List.nodup_nil⟩, ⟨(fun p hp => by cases hp), (fun p hp => by cases hp), fun i p hp => by simp at hp⟩⟩, (Below.refl _ _).alloc (Nat.le_refl _) _, by simp⟩
section
variable {base g : Nat} {v : Value} {ps : List Pg} {lim many bytes gone : Int} {w : World}
set_option maxRecDepth 100000 in
theorem storeLen_walk (h : StR w base g v ps lim many bytes gone) : Calls Tryz.prog 137 #[ptr g] w fun e w' => e = .returned (.int .i64 many) ∧ w = w' := by
  have c : w.cell? ⟨g, 2, none⟩ = some (.int .i64 many) := h.get 2
  clear h
  go_enter Tryz.func137, Tryz.ntmps137
  go_wp2
  go_ret
  exact ⟨rfl, rfl⟩
set_option maxRecDepth 100000 in
theorem storeGone_walk (h : StR w base g v ps lim many bytes gone) : Calls Tryz.prog 136 #[ptr g] w fun e w' => e = .returned (.int .i64 gone) ∧ w = w' := by
  have c : w.cell? ⟨g, 4, none⟩ = some (.int .i64 gone) := h.get 4
  clear h
  go_enter Tryz.func136, Tryz.ntmps136
  go_wp2
  go_ret
  exact ⟨rfl, rfl⟩
end
section
variable (w : World)
set_option maxRecDepth 100000 in
theorem storeLen_nil : Calls Tryz.prog 137 #[.pointer none] w fun e w' => e = .returned (.int .i64 0) ∧ w = w' := by
  go_enter Tryz.func137, Tryz.ntmps137
  go_wp2
  go_ret
  exact ⟨rfl, rfl⟩
set_option maxRecDepth 100000 in
theorem storeGone_nil : Calls Tryz.prog 136 #[.pointer none] w fun e w' => e = .returned (.int .i64 0) ∧ w = w' := by
  go_enter Tryz.func136, Tryz.ntmps136
  go_wp2
  go_ret
  exact ⟨rfl, rfl⟩
end
/-- A page of the slice, as it is read there. -/
theorem StR.pageCell {base g : Nat} {v : Value} {ps : List Pg} {lim many bytes gone : Int} {w : World} (h : StR w base g v ps lim many bytes gone) {i : Nat} {p : Pg} (hp : ps[i]? = some p) :
    ∃ b off cap, v = .slice (some ⟨b, off, none⟩) ps.length cap ∧ ps.length ≤ cap ∧ base ≤ b ∧ b < w.heap.size ∧ w.cell? ⟨b, off + i, none⟩ = some (ptr p.g) ∧ w.frozen? ⟨b, off + i, none⟩ = false :=
  h.sl.cell (by rw [List.getElem?_map, hp]; rfl)
def RoomyNew (w : World) (e : Ending) (w' : World) : Prop := e = .returned (.tuple #[ptr w.heap.size, .bool true]) ∧ PageAt w' w.heap.size w.heap.size [] [] ∧ Below w.heap.size w w' ∧ w'.heap.size = w.heap.size + 1
set_option maxRecDepth 100000 in
set_option maxHeartbeats 1600000 in
theorem roomy_none {base g : Nat} {v : Value} {lim many bytes gone : Int} {w : World} (h : StR w base g v [] lim many bytes gone) :
    Calls Tryz.prog 154 #[ptr g] w fun e w' => RoomyNew w e w' := by
  obtain ⟨A, c, rfl, _⟩ := h.sl.shape
  have c0 : w.cell? ⟨g, 0, none⟩ = some (.slice A 0 c) := h.get 0
  have NW := Lib.hid (pageNew_walk w)
  clear h
  go_enter Tryz.func154, Tryz.ntmps154
  go_wp2_with fail
  refine NW.out.mono ?_
  rintro e w' ⟨rfl, hp, hb, hs⟩
  have P := Lib.hid (And.intro hp (And.intro hb hs))
  clear hp hb hs NW c0
  go_wp2
  go_ret2
  exact ⟨rfl, P.out⟩
set_option maxRecDepth 100000 in
set_option maxHeartbeats 1600000 in
theorem roomy_full {base g : Nat} {v : Value} {ps : List Pg} {p : Pg} {lim many bytes gone : Int} {w : World} (h : StR w base g v (ps ++ [p]) lim many bytes gone) (hf : p.rows.length = 16) (hn : ps.length ≤ 1000000) :
    Calls Tryz.prog 154 #[ptr g] w fun e w' => RoomyNew w e w' := by
  obtain ⟨b, off, cap, rfl, hcap, _, _, hc, _⟩ := h.pageCell (i := ps.length) (p := p) (by simp)
  obtain ⟨n, hnn⟩ : ∃ n, ps.length = n := ⟨_, rfl⟩
  rw [List.length_append, List.length_singleton, hnn] at hcap h
  rw [hnn] at hc hn
  have c0 : w.cell? ⟨g, 0, none⟩ = some (.slice (some ⟨b, off, none⟩) (n + 1) cap) := h.get 0
  have NW := Lib.hid (pageNew_walk w)
  have LW := Lib.hid (pageLen_walk base p.g p.vs p.rows w (h.page p (by simp)))
  rw [hf] at LW
  clear h hnn hf
  go_enter Tryz.func154, Tryz.ntmps154
  go_wp2_with fail
  refine LW.out.mono ?_
  rintro e w' ⟨rfl, rfl⟩
  clear LW
  go_wp2_with fail
  refine NW.out.mono ?_
  rintro e w' ⟨rfl, hp, hb, hs⟩
  have P := Lib.hid (And.intro hp (And.intro hb hs))
  clear hp hb hs NW c0
  go_wp2
  go_ret2
  exact ⟨rfl, P.out⟩
set_option maxRecDepth 100000 in
set_option maxHeartbeats 1600000 in
theorem roomy_last {base g : Nat} {v : Value} {ps : List Pg} {p : Pg} {lim many bytes gone : Int} {w : World} (h : StR w base g v (ps ++ [p]) lim many bytes gone) (hf : p.rows.length < 16) (hn : ps.length ≤ 1000000) :
    Calls Tryz.prog 154 #[ptr g] w fun e w' => e = .returned (.tuple #[ptr p.g, .bool false]) ∧ w = w' := by
  obtain ⟨b, off, cap, rfl, hcap, _, _, hc, _⟩ := h.pageCell (i := ps.length) (p := p) (by simp)
  obtain ⟨n, hnn⟩ : ∃ n, ps.length = n := ⟨_, rfl⟩
  rw [List.length_append, List.length_singleton, hnn] at hcap h
  rw [hnn] at hc hn
  have c0 : w.cell? ⟨g, 0, none⟩ = some (.slice (some ⟨b, off, none⟩) (n + 1) cap) := h.get 0
  have LW := Lib.hid (pageLen_walk base p.g p.vs p.rows w (h.page p (by simp)))
  obtain ⟨m, hm⟩ : ∃ m, p.rows.length = m := ⟨_, rfl⟩
  rw [hm] at LW hf
  clear h hnn hm
  go_enter Tryz.func154, Tryz.ntmps154
  go_wp2_with fail
  refine LW.out.mono ?_
  rintro e w' ⟨rfl, rfl⟩
  clear LW
  go_wp2
  go_ret2
  exact ⟨rfl, rfl⟩
end Go.Proofs.YtibihjcpkdfgeaaGreatDoor
namespace Go.Proofs.YtibihjcpkdfgeaaGreatDoor
open Go.ChangeShapes Go.WideShapes Go.ChangeAt Go.RowKit
set_option maxRecDepth 100000 in
set_option maxHeartbeats 3200000 in
theorem storeAt_none {base g : Nat} {v : Value} {ps : List Pg} {lim bytes gone : Int} {m : Nat} {w : World} (i : Int) (h : StR w base g v ps lim m bytes gone) (hi : i < 0 ∨ (m : Int) ≤ i) :
    Calls Tryz.prog 131 #[ptr g, .int .i64 i] w fun e w' => AtPost none w e w' := by
  have LW := Lib.hid (storeLen_walk (h.below ((Below.refl w.heap.size w).alloc (Nat.le_refl _) (.cells #[.slice none 0 0, .bool false] 53))))
  have RN := Lib.hid (show RowAt (w.alloc (.cells #[.slice none 0 0, .bool false] 53)) w.heap.size (.slice none 0 0) false from heap_alloc_new w _)
  have B1 := Lib.hid ((Below.refl w.heap.size w).alloc (Nat.le_refl _) (.cells #[.slice none 0 0, .bool false] 53))
  clear h
  by_cases h0 : i < 0
  · clear hi LW
    go_enter Tryz.func131, Tryz.ntmps131
    go_wp2
    generalize w.alloc (.cells #[.slice none 0 0, .bool false] 53) = wz at RN B1 ⊢
    have e0 := RN.out.get 0
    have e1 := RN.out.get 1
    exact bodyPost_ret (v := .tuple #[.agg #[.slice none 0 0, .bool false], .bool false]) (by simp [results, Tryz.results131, go_sem, e0, e1]) rfl ⟨_, rfl, HasC.nothing _ _, B1.out⟩
  · have h1 : (m : Int) ≤ i := by omega
    clear hi
    go_enter Tryz.func131, Tryz.ntmps131
    go_wp2_with fail
    refine LW.out.mono ?_
    rintro e w' ⟨rfl, rfl⟩
    clear LW
    go_wp2
    generalize w.alloc (.cells #[.slice none 0 0, .bool false] 53) = wz at RN B1 ⊢
    have e0 := RN.out.get 0
    have e1 := RN.out.get 1
    exact bodyPost_ret (v := .tuple #[.agg #[.slice none 0 0, .bool false], .bool false]) (by simp [results, Tryz.results131, go_sem, e0, e1]) rfl ⟨_, rfl, HasC.nothing _ _, B1.out⟩
set_option maxRecDepth 100000 in
set_option maxHeartbeats 3200000 in
theorem storeAt_nil (i : Int) (w : World) : Calls Tryz.prog 131 #[.pointer none, .int .i64 i] w fun e w' => AtPost none w e w' := by
  have LW := Lib.hid (storeLen_nil (w.alloc (.cells #[.slice none 0 0, .bool false] 53)))
  have RN := Lib.hid (show RowAt (w.alloc (.cells #[.slice none 0 0, .bool false] 53)) w.heap.size (.slice none 0 0) false from heap_alloc_new w _)
  have B1 := Lib.hid ((Below.refl w.heap.size w).alloc (Nat.le_refl _) (.cells #[.slice none 0 0, .bool false] 53))
  by_cases h0 : i < 0
  · clear LW
    go_enter Tryz.func131, Tryz.ntmps131
    go_wp2
    generalize w.alloc (.cells #[.slice none 0 0, .bool false] 53) = wz at RN B1 ⊢
    have e0 := RN.out.get 0
    have e1 := RN.out.get 1
    exact bodyPost_ret (v := .tuple #[.agg #[.slice none 0 0, .bool false], .bool false]) (by simp [results, Tryz.results131, go_sem, e0, e1]) rfl ⟨_, rfl, HasC.nothing _ _, B1.out⟩
  · have h1 : (0 : Int) ≤ i := by omega
    go_enter Tryz.func131, Tryz.ntmps131
    go_wp2_with fail
    refine LW.out.mono ?_
    rintro e w' ⟨rfl, rfl⟩
    clear LW
    go_wp2
    generalize w.alloc (.cells #[.slice none 0 0, .bool false] 53) = wz at RN B1 ⊢
    have e0 := RN.out.get 0
    have e1 := RN.out.get 1
    exact bodyPost_ret (v := .tuple #[.agg #[.slice none 0 0, .bool false], .bool false]) (by simp [results, Tryz.results131, go_sem, e0, e1]) rfl ⟨_, rfl, HasC.nothing _ _, B1.out⟩
/-- What the store's At makes of a page's. -/
theorem AtPost.lift {r : PRow} {w w3 : World} {v3 : Value} (h3 : HasC w3 (w.heap.size + 1) v3 r.2) (b3 : Below (w.heap.size + 1) (w.alloc (.cells #[.slice none 0 0, .bool false] 53)) w3) :
    RowAt ((w3.setCell ⟨w.heap.size, 0, none⟩ v3).setCell ⟨w.heap.size, 1, none⟩ (.bool r.1)) w.heap.size v3 r.1 ∧ Below w.heap.size w ((w3.setCell ⟨w.heap.size, 0, none⟩ v3).setCell ⟨w.heap.size, 1, none⟩ (.bool r.1)) ∧ HasC ((w3.setCell ⟨w.heap.size, 0, none⟩ v3).setCell ⟨w.heap.size, 1, none⟩ (.bool r.1)) w.heap.size v3 r.2 := by
  have rn : RowAt (w.alloc (.cells #[.slice none 0 0, .bool false] 53)) w.heap.size (.slice none 0 0) false := heap_alloc_new w _
  have b1 := (Below.refl w.heap.size w).alloc (Nat.le_refl _) (.cells #[.slice none 0 0, .bool false] 53)
  have r3 : RowAt w3 w.heap.size (.slice none 0 0) false := (b3.block w.heap.size (by omega)).trans rn
  refine ⟨r3.put2 v3 r.1, ((b1.trans (b3.mono (by omega))).setCell (p := ⟨w.heap.size, 0, none⟩) (Nat.le_refl _) v3).setCell (p := ⟨w.heap.size, 1, none⟩) (Nat.le_refl _) (.bool r.1), HasC.keep (HasC.mono h3 (by omega)) fun j e => ?_⟩
  have h := (HasC.lt h3 j e).1
  rw [Below.heap_setCell _ _ _ _ (by show j ≠ w.heap.size; omega), Below.heap_setCell _ _ _ _ (by show j ≠ w.heap.size; omega)]
set_option maxRecDepth 100000 in
set_option maxHeartbeats 6400000 in
theorem storeAt_front {base g : Nat} {v : Value} {p : Pg} {rest : List Pg} {lim bytes gone : Int} {m : Nat} {w : World} (i : Nat) (r : PRow) (hs : Spans w) (h : StR w base g v (p :: rest) lim m bytes gone) (him : i < m) (hr : p.rows[i]? = some r) :
    Calls Tryz.prog 131 #[ptr g, .int .i64 (i : Int)] w fun e w' => AtPost (some r) w e w' := by
  have bb := (Below.refl w.heap.size w).alloc (Nat.le_refl _) (.cells #[.slice none 0 0, .bool false] 53)
  have R1 := h.below bb
  have LW := Lib.hid (storeLen_walk R1)
  have PW := Lib.hid (pageLen_walk base p.g p.vs p.rows _ (R1.page p (by simp)))
  have AW := Lib.hid (pageAt_some base p.g p.vs p.rows i r _ (hs.below bb hs.size) (R1.page p (by simp)) hr)
  obtain ⟨b, off, cap, rfl, hcap, _, _, hc, _⟩ := R1.pageCell (i := 0) (p := p) rfl
  obtain ⟨n, hn⟩ : ∃ n, rest.length = n := ⟨_, rfl⟩
  rw [List.length_cons, hn] at hcap R1
  have c0 : (w.alloc (.cells #[.slice none 0 0, .bool false] 53)).cell? ⟨g, 0, none⟩ = some (.slice (some ⟨b, off, none⟩) (n + 1) cap) := R1.get 0
  rw [Nat.add_zero] at hc
  obtain ⟨f, hf⟩ : ∃ f, p.rows.length = f := ⟨_, rfl⟩
  have hif : i < f := by rw [← hf]; exact (List.getElem?_eq_some_iff.1 hr).1
  rw [hf] at PW
  have Z1 := Lib.hid (show (w.alloc (.cells #[.slice none 0 0, .bool false] 53)).heap.size = w.heap.size + 1 by simp)
  have RN := Lib.hid (show RowAt (w.alloc (.cells #[.slice none 0 0, .bool false] 53)) w.heap.size (.slice none 0 0) false from heap_alloc_new w _)
  clear h R1 hr hf hn hs bb
  go_enter Tryz.func131, Tryz.ntmps131
  go_wp2_with fail
  refine LW.out.mono ?_
  rintro e w2 ⟨rfl, rfl⟩
  clear LW
  go_wp2_with fail
  refine PW.out.mono ?_
  rintro e w2 ⟨rfl, rfl⟩
  clear PW
  go_wp2_with fail
  refine AW.out.mono ?_
  rintro e w3 ⟨v3, rfl, h3, b3⟩
  simp only [Option.elim_some, Option.isSome_some] at h3 ⊢
  rw [Z1.out] at h3 b3
  obtain ⟨A3, c3, rfl, _⟩ := HasC.shape h3
  have DONE := Lib.hid (AtPost.lift h3 b3)
  have r3 : RowAt w3 w.heap.size (.slice none 0 0) false := (b3.block w.heap.size (by omega)).trans RN.out
  have z0 := r3.get 0
  have z1 := r3.get 1
  have zf0 := r3.free 0
  have zf1 := r3.free 1
  simp only [List.getElem?_toArray, List.getElem?_cons_zero, List.getElem?_cons_succ] at z0 z1
  obtain ⟨ln, hln⟩ : ∃ ln, r.2.length = ln := ⟨_, rfl⟩
  rw [hln] at DONE ⊢
  clear h3 b3 r3 AW hln c0 hc Z1 RN
  go_wp2
  generalize (w3.setCell ⟨w.heap.size, 0, none⟩ (.slice A3 ln c3)).setCell ⟨w.heap.size, 1, none⟩ (.bool r.1) = wz at DONE ⊢
  have e0 := DONE.out.1.get 0
  have e1 := DONE.out.1.get 1
  exact bodyPost_ret (v := .tuple #[.agg #[.slice A3 ln c3, .bool r.1], .bool true]) (by simp [results, Tryz.results131, go_sem, e0, e1]) rfl ⟨_, rfl, DONE.out.2.2, DONE.out.2.1⟩
set_option maxRecDepth 100000 in
set_option maxHeartbeats 6400000 in
theorem storeAt_behind {base g : Nat} {v : Value} {p : Pg} {rest : List Pg} {lim bytes gone : Int} {m : Nat} {w : World} (i : Nat) (r : PRow) (hs : Spans w) (h : StR w base g v (p :: rest) lim m bytes gone) (him : i < m) (hi6 : i ≤ 1000000000) (hpi : p.rows.length ≤ i) {q : Pg} (hq : rest[(i - p.rows.length) / 16]? = some q) (hr : q.rows[(i - p.rows.length) % 16]? = some r) :
    Calls Tryz.prog 131 #[ptr g, .int .i64 (i : Int)] w fun e w' => AtPost (some r) w e w' := by
  have bb := (Below.refl w.heap.size w).alloc (Nat.le_refl _) (.cells #[.slice none 0 0, .bool false] 53)
  have R1 := h.below bb
  have LW := Lib.hid (storeLen_walk R1)
  have PW := Lib.hid (pageLen_walk base p.g p.vs p.rows _ (R1.page p (by simp)))
  have AW := Lib.hid (pageAt_some base q.g q.vs q.rows ((i - p.rows.length) % 16) r _ (hs.below bb hs.size) (R1.page q (List.mem_cons_of_mem _ (List.mem_of_getElem? hq))) hr)
  obtain ⟨b, off, cap, rfl, hcap, _, _, hc, _⟩ := R1.pageCell (i := 0) (p := p) rfl
  obtain ⟨b', off', cap', e', _, _, _, hcq, _⟩ := R1.pageCell (i := (i - p.rows.length) / 16 + 1) (p := q) (by simpa using hq)
  injection e' with e1 e3 e4
  injection e1 with e1
  injection e1 with e1 e2
  subst e1 e2
  clear e3 e4
  have hjl : (i - p.rows.length) / 16 < rest.length := (List.getElem?_eq_some_iff.1 hq).1
  obtain ⟨n, hn⟩ : ∃ n, rest.length = n := ⟨_, rfl⟩
  rw [hn] at hjl
  rw [List.length_cons, hn] at hcap R1
  have c0 : (w.alloc (.cells #[.slice none 0 0, .bool false] 53)).cell? ⟨g, 0, none⟩ = some (.slice (some ⟨b, off, none⟩) (n + 1) cap) := R1.get 0
  rw [Nat.add_zero] at hc
  obtain ⟨f, hf⟩ : ∃ f, p.rows.length = f := ⟨_, rfl⟩
  rw [hf] at hpi hcq hjl AW
  have hif : ¬ (i : Int) < (f : Int) := by omega
  obtain ⟨t, ht⟩ : ∃ t, i - f = t := ⟨_, rfl⟩
  rw [ht] at hcq hjl AW
  have k1 : IntKind.i64.wrap ((i : Int) - (f : Int)) = (t : Int) := by rw [show (i : Int) - (f : Int) = (t : Int) by omega]; exact IntWalk.i64_in _ (by omega)
  obtain ⟨jq, hjq⟩ : ∃ jq, t / 16 = jq := ⟨_, rfl⟩
  obtain ⟨jr, hjr⟩ : ∃ jr, t % 16 = jr := ⟨_, rfl⟩
  rw [hjq] at hcq hjl
  rw [hjr] at AW
  have hjq9 : jq ≤ 1000000000 := by omega
  have k2 : (t : Int) / 16 = (jq : Int) := by omega
  have k3 : (t : Int) % 16 = (jr : Int) := by omega
  have k4 : ((1 : Int) + (jq : Int)).toNat = jq + 1 := by omega
  have k5 : (0 : Int) ≤ 1 + (jq : Int) := by omega
  have k6 : (1 : Int) + (jq : Int) < (n : Int) + 1 := by omega
  rw [hf] at PW
  have Z1 := Lib.hid (show (w.alloc (.cells #[.slice none 0 0, .bool false] 53)).heap.size = w.heap.size + 1 by simp)
  have RN := Lib.hid (show RowAt (w.alloc (.cells #[.slice none 0 0, .bool false] 53)) w.heap.size (.slice none 0 0) false from heap_alloc_new w _)
  clear h R1 hr hf hn hs bb hq ht hjq hjr
  go_enter Tryz.func131, Tryz.ntmps131
  go_wp2_with fail
  refine LW.out.mono ?_
  rintro e w2 ⟨rfl, rfl⟩
  clear LW
  go_wp2_with fail
  refine PW.out.mono ?_
  rintro e w2 ⟨rfl, rfl⟩
  clear PW
  go_wp2_with fail
  refine AW.out.mono ?_
  rintro e w3 ⟨v3, rfl, h3, b3⟩
  simp only [Option.elim_some, Option.isSome_some] at h3 ⊢
  rw [Z1.out] at h3 b3
  obtain ⟨A3, c3, rfl, _⟩ := HasC.shape h3
  have DONE := Lib.hid (AtPost.lift h3 b3)
  have r3 : RowAt w3 w.heap.size (.slice none 0 0) false := (b3.block w.heap.size (by omega)).trans RN.out
  have z0 := r3.get 0
  have z1 := r3.get 1
  have zf0 := r3.free 0
  have zf1 := r3.free 1
  simp only [List.getElem?_toArray, List.getElem?_cons_zero, List.getElem?_cons_succ] at z0 z1
  obtain ⟨ln, hln⟩ : ∃ ln, r.2.length = ln := ⟨_, rfl⟩
  rw [hln] at DONE ⊢
  clear h3 b3 r3 AW hln c0 hc Z1 RN
  go_wp2
  generalize (w3.setCell ⟨w.heap.size, 0, none⟩ (.slice A3 ln c3)).setCell ⟨w.heap.size, 1, none⟩ (.bool r.1) = wz at DONE ⊢
  have e0 := DONE.out.1.get 0
  have e1 := DONE.out.1.get 1
  exact bodyPost_ret (v := .tuple #[.agg #[.slice A3 ln c3, .bool r.1], .bool true]) (by simp [results, Tryz.results131, go_sem, e0, e1]) rfl ⟨_, rfl, DONE.out.2.2, DONE.out.2.1⟩
theorem storeAt_some {base g : Nat} {v : Value} {ps : List Pg} {lim gone : Nat} {w : World} (i : Nat) (r : PRow) (hs : Spans w) (h : StoreAt w base g v ps lim gone) (hN : (allRows ps).length ≤ 1000001) (hr : (allRows ps)[i]? = some r) :
    Calls Tryz.prog 131 #[ptr g, .int .i64 (i : Int)] w fun e w' => AtPost (some r) w e w' := by
  have him := (List.getElem?_eq_some_iff.1 hr).1
  cases ps with
  | nil => rw [allRows_nil] at him; simp at him
  | cons p rest =>
    by_cases hf : i < p.rows.length
    · rw [Full.front i hf] at hr
      exact storeAt_front i r hs h.raw him hr
    · rw [h.kept.behind i (by omega)] at hr
      cases hq : rest[(i - p.rows.length) / 16]? with
      | none => rw [hq] at hr; cases hr
      | some q =>
        rw [hq] at hr
        exact storeAt_behind i r hs h.raw him (by omega) (by omega) hq hr
end Go.Proofs.YtibihjcpkdfgeaaGreatDoor
namespace Go.Proofs.YtibihjcpkdfgeaaGreatDoor
open Go.ChangeShapes Go.WideShapes Go.ChangeAt Go.RowKit

def fitL : List Ord.Line := [
  (some 20, Go.Op.move (Go.Operand.tmp 2), none, []),
  (some 21, Go.Op.call { callee := Go.Callee.value (Go.Operand.func 135), args := #[Go.Operand.tmp 20], argTypes := #[148] }, none, [0]),
  (some 22, Go.Op.move (Go.Operand.tmp 2), none, []),
  (some 23, Go.Op.call { callee := Go.Callee.value (Go.Operand.func 153), args := #[Go.Operand.tmp 22], argTypes := #[148] }, none, [2, 1]),
  (some 24, Go.Op.move (Go.Operand.tmp 0), none, []),
  (some 25, Go.Op.nilCheck (Go.Operand.tmp 24), none, [4]),
  (some 26, Go.Op.fieldAddr 178 (Go.Operand.tmp 25) 2, none, [5]),
  (some 27, Go.Op.load 3 (Go.Operand.tmp 26), none, [6]),
  (some 28, Go.Op.move (Go.Operand.tmp 0), none, []),
  (some 29, Go.Op.nilCheck (Go.Operand.tmp 28), none, [8]),
  (some 30, Go.Op.fieldAddr 178 (Go.Operand.tmp 29) 1, none, [9]),
  (some 31, Go.Op.load 3 (Go.Operand.tmp 30), none, [10]),
  (some 32, Go.Op.binOp Go.BinOp.sub 3 (Go.Operand.tmp 27) (Go.Operand.tmp 31) 3, none, [7, 11]),
  (some 33, Go.Op.call { callee := Go.Callee.builtin Go.Builtin.min, args := #[Go.Operand.tmp 23, Go.Operand.tmp 32], argTypes := #[3, 3] }, none, [3, 12]),
  (some 3, Go.Op.assign (Go.Operand.tmp 21), none, [1, 3, 0, 1]),
  (some 4, Go.Op.assign (Go.Operand.tmp 33), none, [13, 14, 0, 1, 2, 3, 4, 5, 6, 7, 8, 9, 10, 11, 12, 13, 14])]

/-- The slots that are known all the way. -/
structure FitFr (g pg : Nat) (a : Act) : Prop where
  size : a.tmps.size = 80
  defers : a.defers = []
  s0 : Chain.At a 0 (ptr g)
  s1 : Chain.At a 1 (undef)
  s2 : Chain.At a 2 (ptr pg)
theorem FitFr.next {g pg : Nat} {a a' : Act} {d : Nat} {v : Value} (F : FitFr g pg a) (nx : Chain.Next a a' d v) (h : d ≠ 0 ∧ d ≠ 1 ∧ d ≠ 2) : FitFr g pg a' := ⟨nx.size.trans F.size, nx.defers.trans F.defers, nx.keep 0 _ h.1 F.s0, nx.keep 1 _ h.2.1 F.s1, nx.keep 2 _ h.2.2 F.s2⟩
theorem FitFr.lt {g pg : Nat} {a : Act} {d : Nat} (F : FitFr g pg a) (h : d < 80) : d < a.tmps.size := by rw [F.size]; exact h

set_option maxRecDepth 100000 in
theorem fit_two {ops : Array Oper} {Q : Exit → Act → World → Prop} (R : Ord.Reg ops fitL) (hQ : ∀ c a w d v, Q (.panic c) (Act.put a (some d) v) w → Q (.panic c) a w) {w1 : World} {g pg lim m b1 len k : Nat}
    (c1 : w1.cell? ⟨g, 1, none⟩ = some (.int .i64 (lim : Int))) (c2 : w1.cell? ⟨g, 2, none⟩ = some (.int .i64 (m : Int))) (hsub : IntKind.i64.wrap ((m : Int) - (lim : Int)) = (m : Int) - (lim : Int)) (hmin : min (len : Int) ((m : Int) - (lim : Int)) = (k : Int))
    (BW : Calls Tryz.prog 135 #[ptr pg] w1 fun e w' => e = .returned (.int .i64 (b1 : Int)) ∧ w1 = w') (LW : Calls Tryz.prog 153 #[ptr pg] w1 fun e w' => e = .returned (.int .i64 (len : Int)) ∧ w1 = w')
    (a : Act) (F : FitFr g pg a) (h : ∀ a, FitFr g pg a → Chain.At a 3 (.int .i64 (b1 : Int)) → Chain.At a 4 (.int .i64 (k : Int)) → Q .normal a w1) :
    wpAnyH Tryz.prog .any ops Q (fun w' => w' = w1) 16 (List.replicate 16 false).toArray a w1 := by
  have hS : w1 = w1 := rfl
  refine Ord.take R (k := 0) (v := ptr pg) (bs' := (Ord.upto 1 16)) rfl (by kernel_rfl) hQ trivial hS (fun w _ hS => Chain.ev_move F.s2.ev) (F.lt (by decide)) fun a0 N => ?_
  replace F := F.next N (by decide)
  have f20 := N.got
  clear N a
  refine Ord.take R (k := 2) (v := ptr pg) (bs' := [true, false, true, false, false, false, false, false, false, false, false, false, false, false, false, false]) rfl (by kernel_rfl) hQ trivial hS (fun w _ hS => Chain.ev_move F.s2.ev) (F.lt (by decide)) fun a2 N => ?_
  replace F := F.next N (by decide)
  replace f20 := N.keep 20 _ (by decide) f20
  have f22 := N.got
  clear N a0
  refine Ord.take R (k := 4) (v := ptr g) (bs' := [true, false, true, false, true, false, false, false, false, false, false, false, false, false, false, false]) rfl (by kernel_rfl) hQ trivial hS (fun w _ hS => Chain.ev_move F.s0.ev) (F.lt (by decide)) fun a4 N => ?_
  replace F := F.next N (by decide)
  replace f20 := N.keep 20 _ (by decide) f20
  replace f22 := N.keep 22 _ (by decide) f22
  have f24 := N.got
  clear N a2
  refine Ord.take R (k := 5) (v := .pointer (some ⟨g, 0, none⟩)) (bs' := [true, false, true, false, true, true, false, false, false, false, false, false, false, false, false, false]) rfl (by kernel_rfl) hQ trivial hS (fun w _ hS => by have e24 := f24; unfold Chain.At at e24; clear F; go_simp) (F.lt (by decide)) fun a5 N => ?_
  replace F := F.next N (by decide)
  replace f20 := N.keep 20 _ (by decide) f20
  replace f22 := N.keep 22 _ (by decide) f22
  clear f24
  have f25 := N.got
  clear N a4
  refine Ord.take R (k := 6) (v := .pointer (some ⟨g, 2, none⟩)) (bs' := [true, false, true, false, true, true, true, false, false, false, false, false, false, false, false, false]) rfl (by kernel_rfl) hQ trivial hS (fun w _ hS => by have e25 := f25; unfold Chain.At at e25; clear F; go_simp) (F.lt (by decide)) fun a6 N => ?_
  replace F := F.next N (by decide)
  replace f20 := N.keep 20 _ (by decide) f20
  replace f22 := N.keep 22 _ (by decide) f22
  clear f25
  have f26 := N.got
  clear N a5
  refine Ord.take R (k := 7) (v := .int .i64 (m : Int)) (bs' := [true, false, true, false, true, true, true, true, false, false, false, false, false, false, false, false]) rfl (by kernel_rfl) hQ trivial hS (fun w _ hS => by have e26 := f26; unfold Chain.At at e26; have q0 := show w.cell? ⟨g, 2, none⟩ = some (.int .i64 (m : Int)) from (by rw [hS]; exact c2); clear F; go_simp) (F.lt (by decide)) fun a7 N => ?_
  replace F := F.next N (by decide)
  replace f20 := N.keep 20 _ (by decide) f20
  replace f22 := N.keep 22 _ (by decide) f22
  clear f26
  have f27 := N.got
  clear N a6
  refine Ord.take R (k := 8) (v := ptr g) (bs' := [true, false, true, false, true, true, true, true, true, false, false, false, false, false, false, false]) rfl (by kernel_rfl) hQ trivial hS (fun w _ hS => Chain.ev_move F.s0.ev) (F.lt (by decide)) fun a8 N => ?_
  replace F := F.next N (by decide)
  replace f20 := N.keep 20 _ (by decide) f20
  replace f22 := N.keep 22 _ (by decide) f22
  replace f27 := N.keep 27 _ (by decide) f27
  have f28 := N.got
  clear N a7
  refine Ord.take R (k := 9) (v := .pointer (some ⟨g, 0, none⟩)) (bs' := [true, false, true, false, true, true, true, true, true, true, false, false, false, false, false, false]) rfl (by kernel_rfl) hQ trivial hS (fun w _ hS => by have e28 := f28; unfold Chain.At at e28; clear F; go_simp) (F.lt (by decide)) fun a9 N => ?_
  replace F := F.next N (by decide)
  replace f20 := N.keep 20 _ (by decide) f20
  replace f22 := N.keep 22 _ (by decide) f22
  replace f27 := N.keep 27 _ (by decide) f27
  clear f28
  have f29 := N.got
  clear N a8
  refine Ord.take R (k := 10) (v := .pointer (some ⟨g, 1, none⟩)) (bs' := [true, false, true, false, true, true, true, true, true, true, true, false, false, false, false, false]) rfl (by kernel_rfl) hQ trivial hS (fun w _ hS => by have e29 := f29; unfold Chain.At at e29; clear F; go_simp) (F.lt (by decide)) fun a10 N => ?_
  replace F := F.next N (by decide)
  replace f20 := N.keep 20 _ (by decide) f20
  replace f22 := N.keep 22 _ (by decide) f22
  replace f27 := N.keep 27 _ (by decide) f27
  clear f29
  have f30 := N.got
  clear N a9
  refine Ord.take R (k := 11) (v := .int .i64 (lim : Int)) (bs' := [true, false, true, false, true, true, true, true, true, true, true, true, false, false, false, false]) rfl (by kernel_rfl) hQ trivial hS (fun w _ hS => by have e30 := f30; unfold Chain.At at e30; have q0 := show w.cell? ⟨g, 1, none⟩ = some (.int .i64 (lim : Int)) from (by rw [hS]; exact c1); clear F; go_simp) (F.lt (by decide)) fun a11 N => ?_
  replace F := F.next N (by decide)
  replace f20 := N.keep 20 _ (by decide) f20
  replace f22 := N.keep 22 _ (by decide) f22
  replace f27 := N.keep 27 _ (by decide) f27
  clear f30
  have f31 := N.got
  clear N a10
  refine Ord.take R (k := 12) (v := .int .i64 ((m : Int) - (lim : Int))) (bs' := [true, false, true, false, true, true, true, true, true, true, true, true, true, false, false, false]) rfl (by kernel_rfl) hQ trivial hS (fun w _ hS => by have e27 := f27; unfold Chain.At at e27; have e31 := f31; unfold Chain.At at e31; have q0 := hsub; clear F; go_simp) (F.lt (by decide)) fun a12 N => ?_
  replace F := F.next N (by decide)
  replace f20 := N.keep 20 _ (by decide) f20
  replace f22 := N.keep 22 _ (by decide) f22
  clear f27
  clear f31
  have f32 := N.got
  clear N a11
  refine Ord.call R (k := 1) (args := #[ptr pg]) (bs' := [true, true, true, false, true, true, true, true, true, true, true, true, true, false, false, false]) rfl (by kernel_rfl) trivial (by simp [f20.ev]) (by kernel_rfl) (BW) (F.lt (by decide)) ?_
  rintro e w ⟨rfl, rfl⟩
  replace hS := (rfl : w1 = w1)
  refine ⟨_, rfl, hS, fun a1 N => ?_⟩
  replace F := F.next N (by decide)
  clear f20
  replace f22 := N.keep 22 _ (by decide) f22
  replace f32 := N.keep 32 _ (by decide) f32
  have f21 := N.got
  clear N a12
  refine Ord.call R (k := 3) (args := #[ptr pg]) (bs' := (Ord.upto 13 16)) rfl (by kernel_rfl) trivial (by simp [f22.ev]) (by kernel_rfl) (LW) (F.lt (by decide)) ?_
  rintro e w ⟨rfl, rfl⟩
  replace hS := (rfl : w1 = w1)
  refine ⟨_, rfl, hS, fun a3 N => ?_⟩
  replace F := F.next N (by decide)
  replace f21 := N.keep 21 _ (by decide) f21
  clear f22
  replace f32 := N.keep 32 _ (by decide) f32
  have f23 := N.got
  clear N a1
  refine Ord.take R (k := 13) (v := .int .i64 (k : Int)) (bs' := (Ord.upto 14 16)) rfl (by kernel_rfl) hQ trivial hS (fun w _ hS => by have e23 := f23; unfold Chain.At at e23; have e32 := f32; unfold Chain.At at e32; have q0 := hmin; clear F; go_simp) (F.lt (by decide)) fun a13 N => ?_
  replace F := F.next N (by decide)
  replace f21 := N.keep 21 _ (by decide) f21
  clear f23
  clear f32
  have f33 := N.got
  clear N a3
  refine Ord.take R (k := 14) (v := .int .i64 (b1 : Int)) (bs' := (Ord.upto 15 16)) rfl (by kernel_rfl) hQ trivial hS (fun w _ hS => Chain.ev_assign f21.ev) (F.lt (by decide)) fun a14 N => ?_
  replace F := F.next N (by decide)
  clear f21
  replace f33 := N.keep 33 _ (by decide) f33
  have f3 := N.got
  clear N a13
  refine Ord.take R (k := 15) (v := .int .i64 (k : Int)) (bs' := (Ord.upto 16 16)) rfl (by kernel_rfl) hQ trivial hS (fun w _ hS => Chain.ev_assign f33.ev) (F.lt (by decide)) fun a15 N => ?_
  replace F := F.next N (by decide)
  replace f3 := N.keep 3 _ (by decide) f3
  clear f33
  have f4 := N.got
  clear N a14
  exact Ord.finish R (by kernel_rfl) (h _ F f3 f4)

set_option maxRecDepth 100000 in
/-- The frame written out, its known slots in their places. -/
theorem fit_frame {a : Act} {w : World} {K : Act → World → Prop} {v0 v1 v2 v3 v4 : Value} (hz : a.tmps.size = 80) (hd : a.defers = []) (f0 : Chain.At a 0 v0) (f1 : Chain.At a 1 v1) (f2 : Chain.At a 2 v2) (f3 : Chain.At a 3 v3) (f4 : Chain.At a 4 v4)
    (h : ∀ u5 u6 u7 u8 u9 u10 u11 u12 u13 u14 u15 u16 u17 u18 u19 u20 u21 u22 u23 u24 u25 u26 u27 u28 u29 u30 u31 u32 u33 u34 u35 u36 u37 u38 u39 u40 u41 u42 u43 u44 u45 u46 u47 u48 u49 u50 u51 u52 u53 u54 u55 u56 u57 u58 u59 u60 u61 u62 u63 u64 u65 u66 u67 u68 u69 u70 u71 u72 u73 u74 u75 u76 u77 u78 u79 : Value, K ⟨#[v0, v1, v2, v3, v4, u5, u6, u7, u8, u9, u10, u11, u12, u13, u14, u15, u16, u17, u18, u19, u20, u21, u22, u23, u24, u25, u26, u27, u28, u29, u30, u31, u32, u33, u34, u35, u36, u37, u38, u39, u40, u41, u42, u43, u44, u45, u46, u47, u48, u49, u50, u51, u52, u53, u54, u55, u56, u57, u58, u59, u60, u61, u62, u63, u64, u65, u66, u67, u68, u69, u70, u71, u72, u73, u74, u75, u76, u77, u78, u79], []⟩ w) : K a w := by
  have e := Ord.frame_out hz hd
  have r : (List.range 80).map (fun i => a.tmps.toList.getD i undef) = [a.tmps.toList.getD 0 undef, a.tmps.toList.getD 1 undef, a.tmps.toList.getD 2 undef, a.tmps.toList.getD 3 undef, a.tmps.toList.getD 4 undef, a.tmps.toList.getD 5 undef, a.tmps.toList.getD 6 undef, a.tmps.toList.getD 7 undef, a.tmps.toList.getD 8 undef, a.tmps.toList.getD 9 undef, a.tmps.toList.getD 10 undef, a.tmps.toList.getD 11 undef, a.tmps.toList.getD 12 undef, a.tmps.toList.getD 13 undef, a.tmps.toList.getD 14 undef, a.tmps.toList.getD 15 undef, a.tmps.toList.getD 16 undef, a.tmps.toList.getD 17 undef, a.tmps.toList.getD 18 undef, a.tmps.toList.getD 19 undef, a.tmps.toList.getD 20 undef, a.tmps.toList.getD 21 undef, a.tmps.toList.getD 22 undef, a.tmps.toList.getD 23 undef, a.tmps.toList.getD 24 undef, a.tmps.toList.getD 25 undef, a.tmps.toList.getD 26 undef, a.tmps.toList.getD 27 undef, a.tmps.toList.getD 28 undef, a.tmps.toList.getD 29 undef, a.tmps.toList.getD 30 undef, a.tmps.toList.getD 31 undef, a.tmps.toList.getD 32 undef, a.tmps.toList.getD 33 undef, a.tmps.toList.getD 34 undef, a.tmps.toList.getD 35 undef, a.tmps.toList.getD 36 undef, a.tmps.toList.getD 37 undef, a.tmps.toList.getD 38 undef, a.tmps.toList.getD 39 undef, a.tmps.toList.getD 40 undef, a.tmps.toList.getD 41 undef, a.tmps.toList.getD 42 undef, a.tmps.toList.getD 43 undef, a.tmps.toList.getD 44 undef, a.tmps.toList.getD 45 undef, a.tmps.toList.getD 46 undef, a.tmps.toList.getD 47 undef, a.tmps.toList.getD 48 undef, a.tmps.toList.getD 49 undef, a.tmps.toList.getD 50 undef, a.tmps.toList.getD 51 undef, a.tmps.toList.getD 52 undef, a.tmps.toList.getD 53 undef, a.tmps.toList.getD 54 undef, a.tmps.toList.getD 55 undef, a.tmps.toList.getD 56 undef, a.tmps.toList.getD 57 undef, a.tmps.toList.getD 58 undef, a.tmps.toList.getD 59 undef, a.tmps.toList.getD 60 undef, a.tmps.toList.getD 61 undef, a.tmps.toList.getD 62 undef, a.tmps.toList.getD 63 undef, a.tmps.toList.getD 64 undef, a.tmps.toList.getD 65 undef, a.tmps.toList.getD 66 undef, a.tmps.toList.getD 67 undef, a.tmps.toList.getD 68 undef, a.tmps.toList.getD 69 undef, a.tmps.toList.getD 70 undef, a.tmps.toList.getD 71 undef, a.tmps.toList.getD 72 undef, a.tmps.toList.getD 73 undef, a.tmps.toList.getD 74 undef, a.tmps.toList.getD 75 undef, a.tmps.toList.getD 76 undef, a.tmps.toList.getD 77 undef, a.tmps.toList.getD 78 undef, a.tmps.toList.getD 79 undef] := rfl
  rw [r, Ord.at_get f0, Ord.at_get f1, Ord.at_get f2, Ord.at_get f3, Ord.at_get f4] at e
  rw [e]
  exact h _ _ _ _ _ _ _ _ _ _ _ _ _ _ _ _ _ _ _ _ _ _ _ _ _ _ _ _ _ _ _ _ _ _ _ _ _ _ _ _ _ _ _ _ _ _ _ _ _ _ _ _ _ _ _ _ _ _ _ _ _ _ _ _ _ _ _ _ _ _ _ _ _ _ _

end Go.Proofs.YtibihjcpkdfgeaaGreatDoor
namespace Go.Proofs.YtibihjcpkdfgeaaGreatDoor
open Go.ChangeShapes Go.WideShapes Go.ChangeAt Go.RowKit

theorem SlAt.tail' {w : World} {base : Nat} {e : TypeId} {n b off cap off' : Nat} {x u : Value} {xs : List Value} (h : SlAt w base e (.slice (some ⟨b, off, none⟩) (n + 1) cap) (n + 1) (x :: xs)) (ho : off' = off + 1 ∨ (cap = 1 ∧ off' = off)) :
    SlAt (w.setCell ⟨b, off, none⟩ u) base e (.slice (some ⟨b, off', none⟩) n (cap - 1)) n xs := by
  rcases ho with rfl | ⟨rfl, rfl⟩
  · exact (SlAt.tail (u := u) h (off + 1) (.inl rfl)).resolve_right (fun h => h rfl)
  · have hc : n + 1 ≤ 1 := by
      obtain ⟨_, c, e, hc⟩ := h.shape
      injection e with _ _ e
      omega
    have hn : n = 0 := by omega
    subst hn
    have hx : xs = [] := List.eq_nil_of_length_eq_zero (by have := h.1; simpa using this)
    subst hx
    exact SlAt.empty (off' := off') h (Nat.le_refl _) u
/-- How many rows the store's block says. -/
def manyAt (w : World) (g : Nat) : Nat :=
  match w.cell? ⟨g, 2, none⟩ with
  | some (.int _ x) => x.toNat
  | _ => 0
theorem StR.many {w : World} {base g : Nat} {v : Value} {ps : List Pg} {lim many bytes gone : Int} (h : StR w base g v ps lim many bytes gone) : manyAt w g = many.toNat := by
  unfold manyAt
  rw [h.get 2]
  rfl
theorem StR.putPages {w : World} {base g : Nat} {v0 : Value} {lim many bytes gone : Int} (hc : w.heap[g]? = some (.cells #[v0, .int .i64 lim, .int .i64 many, .int .i64 bytes, .int .i64 gone] 178 (0, 0))) (hg : base ≤ g) {u : Value} {qs : List Pg} (hs : SlAt w base 148 u qs.length (qs.map fun p => ptr p.g)) (hp : ∀ p ∈ qs, PageAt w base p.g p.vs p.rows) (ha : (qs.map Pg.g).Nodup) :
    StR (w.setCell ⟨g, 0, none⟩ u) base g u qs lim many bytes gone := by
  have ht := Turned.ofCell g 0 w u
  have hgt : Typed w 178 g := ⟨_, _, hc⟩
  have hu : ∀ k, u.ownBlock = some k → Typed w 148 k := fun k e => let ⟨_, cs, h⟩ := hs.type k e; ⟨cs, _, h⟩
  refine ⟨heap_setCell_same w g 0 _ _ _ hc, hg, hs.kept fun b hb => ht.block b (hs.lt b hb).2 (fun e => (hu b hb).apart hgt (by decide) e), fun p hp' => (hp p hp').turned ht (fun e => (hp p hp').typed.apart hgt (by decide) e) (fun k e => ?_), ha⟩
  subst e
  exact fun hb => hgt.apart hb (by decide) rfl
/-- The front page goes off the list. -/
theorem StR.shift {w : World} {base g b off off' cap : Nat} {p : Pg} {ps : List Pg} {lim many bytes gone : Int} (h : StR w base g (.slice (some ⟨b, off, none⟩) (ps.length + 1) cap) (p :: ps) lim many bytes gone) (ho : off' = off + 1 ∨ (cap = 1 ∧ off' = off)) :
    StR ((w.setCell ⟨b, off, none⟩ (.pointer none)).setCell ⟨g, 0, none⟩ (.slice (some ⟨b, off', none⟩) ps.length (cap - 1))) base g (.slice (some ⟨b, off', none⟩) ps.length (cap - 1)) ps lim many bytes gone := by
  have hbt : Typed w 148 b := h.slTyped b rfl
  have ht := Turned.ofCell b off w (.pointer none)
  refine StR.putPages (v0 := .slice (some ⟨b, off, none⟩) (ps.length + 1) cap) ?_ h.from' (SlAt.tail' h.sl ho) (fun q hq => (h.page q (by simp [hq])).turned ht (fun e => (h.page q (by simp [hq])).typed.apart hbt (by decide) e) (fun k e => ?_)) (by have := h.apart; rw [List.map_cons] at this; exact (List.nodup_cons.1 this).2)
  · exact (ht.block g h.lt (fun e => h.typed.apart hbt (by decide) e)).trans h.cells
  · subst e
    exact fun hb => hbt.apart hb (by decide) rfl
theorem Full.shift {p : Pg} {ps : List Pg} (h : Full (p :: ps)) : Full ps :=
  ⟨fun q hq => h.some' q (by simp [hq]), fun q hq => h.few q (by simp [hq]), fun i q hq h0 hl => h.full (i + 1) q (by simpa using hq) (by omega) (by simpa using hl)⟩
theorem Full.cutFront {p : Pg} {ps : List Pg} (h : Full (p :: ps)) (k : Nat) (hk : k < p.rows.length) : Full (⟨p.g, p.vs.drop k, p.rows.drop k⟩ :: ps) := by
  refine ⟨fun q hq => ?_, fun q hq => ?_, fun i q hq h0 hl => ?_⟩
  · rcases List.mem_cons.1 hq with rfl | hq
    · exact fun e => by have := congrArg List.length e; simp at this; omega
    · exact h.some' q (by simp [hq])
  · rcases List.mem_cons.1 hq with rfl | hq
    · have := h.few p (by simp)
      simp only [List.length_drop]
      omega
    · exact h.few q (by simp [hq])
  · obtain ⟨j, rfl⟩ : ∃ j, i = j + 1 := ⟨i - 1, by omega⟩
    exact h.full (j + 1) q (by simpa using hq) h0 (by simpa using hl)
/-- The store behind fit. -/
def FitPost (base g : Nat) (v : Value) (ps : List Pg) (lim gone : Nat) (w : World) (e : Ending) (w' : World) : Prop :=
  (∃ x, e = .returned x) ∧ ∃ v' ps', StoreAt w' base g v' ps' lim (gone + ((allRows ps).length - lim)) ∧ allRows ps' = (allRows ps).drop ((allRows ps).length - lim) ∧ Turned (Owns g v ps) w w' ∧ ∀ k, Owns g v' ps' k → Owns g v ps k
/-- Between two rounds of fit. -/
structure FitAt (base g : Nat) (v : Value) (ps : List Pg) (lim gone : Nat) (w : World) (v' : Value) (ps' : List Pg) (d : Nat) (w' : World) : Prop where
  at' : StoreAt w' base g v' ps' lim (gone + d)
  rows : allRows ps' = (allRows ps).drop d
  most : d ≤ (allRows ps).length - lim
  turned : Turned (Owns g v ps) w w'
  own : ∀ k, Owns g v' ps' k → Owns g v ps k
theorem FitAt.many {base g : Nat} {v v' : Value} {ps ps' : List Pg} {lim gone d : Nat} {w w' : World} (F : FitAt base g v ps lim gone w v' ps' d w') : manyAt w' g = (allRows ps').length := by rw [F.at'.raw.many]; rfl
/-- A round behind which the front page is gone. -/
theorem fit_shift {base g : Nat} {v : Value} {ps rest : List Pg} {p : Pg} {lim gone d k b off off' cap : Nat} {w w7 : World} {m1 b3 g1 : Int} (TT : Turned (Owns g v ps) w w7) (ER : (allRows ps).drop (d + k) = p.rows.drop k ++ allRows rest) (EM : (((p.rows.drop k ++ allRows rest).length : Nat) : Int) = m1)
    (EB : ((bytesN (p.rows.drop k ++ allRows rest) : Nat) : Int) = b3) (EG : ((gone + (d + k) : Nat) : Int) = g1) (MO : d + k ≤ (allRows ps).length - lim) (R7 : StR w7 base g (.slice (some ⟨b, off, none⟩) (rest.length + 1) cap) (⟨p.g, p.vs.drop k, p.rows.drop k⟩ :: rest) lim m1 b3 g1)
    (hpe : p.rows.drop k = []) (ho : off' = off + 1 ∨ (cap = 1 ∧ off' = off)) (hF : Full (p :: rest)) (own : ∀ j, Owns g (.slice (some ⟨b, off, none⟩) (rest.length + 1) cap) (p :: rest) j → Owns g v ps j) :
    FitAt base g v ps lim gone w (.slice (some ⟨b, off', none⟩) rest.length (cap - 1)) rest (d + k) ((w7.setCell ⟨b, off, none⟩ (.pointer none)).setCell ⟨g, 0, none⟩ (.slice (some ⟨b, off', none⟩) rest.length (cap - 1))) := by
  rw [hpe, List.nil_append] at ER EM EB
  refine ⟨⟨?_, hF.shift⟩, ER.symm, MO, (TT.trans (Turned.ofCell b off w7 _) fun j _ e => own j (.inr (.inl (by rw [e]; rfl)))).trans (Turned.ofCell g 0 _ _) (fun j _ e => own j (.inl e)), ?_⟩
  · rw [EM, EB, EG]
    exact R7.shift ho
  · rintro j (e | e | ⟨q, hq, e⟩)
    · exact own j (.inl e)
    · exact own j (.inr (.inl e))
    · exact own j (.inr (.inr ⟨q, by simp [hq], e⟩))
/-- A round behind which the front page is shorter. -/
theorem fit_stay {base g : Nat} {v v1 : Value} {ps rest : List Pg} {p : Pg} {lim gone d k : Nat} {w w7 : World} {m1 b3 g1 : Int} (TT : Turned (Owns g v ps) w w7) (ER : (allRows ps).drop (d + k) = p.rows.drop k ++ allRows rest) (EM : (((p.rows.drop k ++ allRows rest).length : Nat) : Int) = m1)
    (EB : ((bytesN (p.rows.drop k ++ allRows rest) : Nat) : Int) = b3) (EG : ((gone + (d + k) : Nat) : Int) = g1) (MO : d + k ≤ (allRows ps).length - lim) (R7 : StR w7 base g v1 (⟨p.g, p.vs.drop k, p.rows.drop k⟩ :: rest) lim m1 b3 g1)
    (hk : k < p.rows.length) (hF : Full (p :: rest)) (own : ∀ j, Owns g v1 (p :: rest) j → Owns g v ps j) : FitAt base g v ps lim gone w v1 (⟨p.g, p.vs.drop k, p.rows.drop k⟩ :: rest) (d + k) w7 := by
  refine ⟨⟨?_, hF.cutFront k hk⟩, by rw [allRows_cons]; exact ER.symm, MO, TT, ?_⟩
  · rw [allRows_cons, EM, EB, EG]
    exact R7
  · rintro j (e | e | ⟨q, hq, e⟩)
    · exact own j (.inl e)
    · exact own j (.inr (.inl e))
    · rcases List.mem_cons.1 hq with rfl | hq
      · exact own j (.inr (.inr ⟨p, by simp, e⟩))
      · exact own j (.inr (.inr ⟨q, by simp [hq], e⟩))
set_option maxRecDepth 100000 in
set_option maxHeartbeats 6400000 in
theorem fit_walk {base g : Nat} {v : Value} {ps : List Pg} {lim gone : Nat} {w : World} (h : StoreAt w base g v ps lim gone) (hn : (allRows ps).length ≤ 2000000) (hg : gone ≤ 1099511627776) :
    Calls Tryz.prog 155 #[ptr g] w fun e w' => FitPost base g v ps lim gone w e w' := by
  have H0 := Lib.hid (FitAt.mk (d := 0) (gone := gone) (by simpa using h) rfl (Nat.zero_le _) (Turned.refl _ _) (fun _ h => h))
  have HN := Lib.hid hn
  have HG := Lib.hid hg
  clear h hn hg
  go_enter Tryz.func155, Tryz.ntmps155
  go_wp2_with fail
  go_loopw [2, 3, 4] (fun _ _ _ wr => ∃ v' ps' d, Hid (FitAt base g v ps lim gone w v' ps' d wr)) (fun _ _ _ wr => manyAt wr g)
  case atStart => exact ⟨_, _, 0, H0⟩
  case round =>
    obtain ⟨v1, ps1, d, F⟩ := hrel
    clear H0
    obtain ⟨m, hm⟩ : ∃ m, (allRows ps1).length = m := ⟨_, rfl⟩
    have hmn : m ≤ 2000000 := by rw [← hm, F.out.rows]; have := HN.out; simp; omega
    have R0 := F.out.at'.raw
    rw [hm] at R0
    by_cases hlt : lim < m
    · cases ps1 with
      | nil =>
        rw [allRows_nil] at hm
        simp at hm
        omega
      | cons p rest =>
        obtain ⟨b, off, cap, rfl, hcap, _, hbl, hc, hcf⟩ := R0.pageCell (i := 0) (p := p) rfl
        have hPg := R0.page p (by simp)
        have hSm := bytesN_le (allRows (p :: rest)) (fun r hr => by
          unfold allRows at hr
          obtain ⟨q, hq, hr⟩ := List.mem_flatten.1 hr
          obtain ⟨q', hq', rfl⟩ := List.mem_map.1 hq
          exact (R0.page q' hq').len_row r hr)
        rw [hm] at hSm
        have hlen : (p.rows ++ allRows rest).length = m := by rw [← allRows_cons]; exact hm
        have hbb : bytesN (allRows (p :: rest)) = bytesN p.rows + bytesN (allRows rest) := by rw [allRows_cons, bytesN_append]
        obtain ⟨B, hB⟩ : ∃ B, bytesN (allRows (p :: rest)) = B := ⟨_, rfl⟩
        obtain ⟨b1, hb1⟩ : ∃ b1, bytesN p.rows = b1 := ⟨_, rfl⟩
        obtain ⟨len, hl⟩ : ∃ len, p.rows.length = len := ⟨_, rfl⟩
        obtain ⟨n, hnn⟩ : ∃ n, rest.length = n := ⟨_, rfl⟩
        rw [hB] at R0 hSm hbb
        rw [hb1] at hbb
        rw [List.length_append, hl] at hlen
        have hl0 : 0 < len := by
          rw [← hl]
          exact List.length_pos_iff.2 (F.out.at'.kept.some' p (by simp))
        have hl16 : len ≤ 16 := by rw [← hl]; exact F.out.at'.kept.few p (by simp)
        rw [List.length_cons, hnn] at hcap R0
        have c0 : wr.cell? ⟨g, 0, none⟩ = some (.slice (some ⟨b, off, none⟩) (n + 1) cap) := R0.get 0
        have c1 : wr.cell? ⟨g, 1, none⟩ = some (.int .i64 (lim : Int)) := R0.get 1
        have c2 : wr.cell? ⟨g, 2, none⟩ = some (.int .i64 (m : Int)) := R0.get 2
        rw [Nat.add_zero] at hc
        have dgt : (lim : Int) < (m : Int) := by omega
        have RH := Lib.hid R0
        have PH := Lib.hid hPg
        have B1 := Lib.hid hb1
        have BB := Lib.hid hbb
        have LL := Lib.hid hlen
        have hb1B : b1 ≤ B := by omega
        have hlm : len ≤ m := by omega
        have L1 := Lib.hid hl
        have N1 := Lib.hid hnn
        clear R0 hPg hm hB hb1 hl hnn hbb hlen
        go_wp2_with fail
        go_quiet (fail)
        rename_i nq
        have BD := Lib.hid (Below.drewN (Below.refl wr.heap.size wr) nq)
        generalize wr.drewN nq = wd at BD ⊢
        obtain ⟨k, hkd⟩ : ∃ k, min len (m - lim) = k := ⟨_, rfl⟩
        have hmin : min (len : Int) ((m : Int) - (lim : Int)) = (k : Int) := by omega
        have hsub : IntKind.i64.wrap ((m : Int) - (lim : Int)) = (m : Int) - (lim : Int) := IntWalk.i64_in _ (by omega)
        have e0 : wd.cell? ⟨g, 0, none⟩ = some (.slice (some ⟨b, off, none⟩) (n + 1) cap) := (BD.out.cell (p := ⟨g, 0, none⟩) RH.out.lt).trans c0
        have ec : wd.cell? ⟨b, off, none⟩ = some (ptr p.g) := (BD.out.cell (p := ⟨b, off, none⟩) hbl).trans hc
        have e1 := Lib.hid ((BD.out.cell (p := ⟨g, 1, none⟩) RH.out.lt).trans c1)
        have e2 := Lib.hid ((BD.out.cell (p := ⟨g, 2, none⟩) RH.out.lt).trans c2)
        have R3 := Lib.hid (RH.out.below BD.out)
        have P3 := Lib.hid (PH.out.below BD.out)
        have BW := Lib.hid (show Calls Tryz.prog 135 #[ptr p.g] wd.drew fun e w2 => e = .returned (.int .i64 (b1 : Int)) ∧ wd.drew = w2 from B1.out ▸ pageBytes_walk base p.g p.vs p.rows _ (P3.out.below (Below.refl _ _).drew))
        have LW := Lib.hid (show Calls Tryz.prog 153 #[ptr p.g] wd.drew fun e w2 => e = .returned (.int .i64 (len : Int)) ∧ wd.drew = w2 from L1.out ▸ pageLen_walk base p.g p.vs p.rows _ (P3.out.below (Below.refl _ _).drew))
        clear RH PH c0 c1 c2 hc
        go_wp2_with fail
        refine Ord.start (S := fun w' => w' = wd.drew) (n := 16) (by kernel_rfl) (by kernel_rfl) rfl ?_
        apply fit_two (g := g) (pg := p.g) (lim := lim) (m := m) (b1 := b1) (len := len) (k := k)
        case R => exact ⟨by kernel_rfl, by kernel_rfl⟩
        case hQ => exact fun _ _ _ _ _ h => h
        case c1 => exact e1.out
        case c2 => exact e2.out
        case hsub => exact hsub
        case hmin => exact hmin
        case BW => exact BW.out
        case LW => exact LW.out
        case F => exact ⟨rfl, rfl, rfl, rfl, rfl⟩
        intro a2 F2 f3 f4
        refine fit_frame F2.size F2.defers F2.s0 F2.s1 F2.s2 f3 f4 ?_
        intros
        clear F2 f3 f4 BW LW e1 e2
        have RD := Lib.hid (R3.out.below (Below.refl wd.heap.size wd).drew)
        have TD := Lib.hid (BD.out.trans ((Below.refl wd.heap.size wd).drew.mono BD.out.size))
        have CW := Lib.hid (pageCut_walk base p.g p.vs p.rows k wd.drew (P3.out.below (Below.refl wd.heap.size wd).drew) (by rw [L1.out]; omega))
        generalize wd.drew = wc at RD TD CW ⊢
        clear R3 P3 e0 ec BD
        go_wp2_with fail
        refine CW.out.mono ?_
        rintro e w4 ⟨rfl, hp4, ho4⟩
        obtain ⟨b2, hb2⟩ : ∃ b2, bytesN (p.rows.drop k) = b2 := ⟨_, rfl⟩
        have hb12 : b2 ≤ b1 := by have := bytesN_drop_take p.rows k; rw [B1.out, hb2] at this; omega
        have hl4 : (p.rows.drop k).length = len - k := by rw [List.length_drop, L1.out]
        have R4 := Lib.hid (show StR w4 base g (.slice (some ⟨b, off, none⟩) (n + 1) cap) (⟨p.g, p.vs.drop k, p.rows.drop k⟩ :: rest) lim m B ((gone + d : Nat) : Int) from RD.out.setPage (ps0 := []) (Turned.ofOnly ho4) hp4)
        have T4 := Lib.hid (Turned.ofOnly ho4)
        have BW := Lib.hid (show Calls Tryz.prog 135 #[ptr p.g] w4.drew fun e w2 => e = .returned (.int .i64 (b2 : Int)) ∧ w4.drew = w2 from hb2 ▸ pageBytes_walk base p.g _ _ _ (hp4.below (Below.refl _ _).drew))
        have LW := Lib.hid (show ∀ (w6 : World) (mm bb gg : Int), StR w6 base g (.slice (some ⟨b, off, none⟩) (n + 1) cap) (⟨p.g, p.vs.drop k, p.rows.drop k⟩ :: rest) lim mm bb gg → Turned (· = g) w4 w6 →
            Calls Tryz.prog 153 #[ptr p.g] w6 fun e w7 => e = .returned (.int .i64 ((len - k : Nat) : Int)) ∧ StR w7 base g (.slice (some ⟨b, off, none⟩) (n + 1) cap) (⟨p.g, p.vs.drop k, p.rows.drop k⟩ :: rest) lim mm bb gg ∧ Turned (· = g) w4 w7 from
          fun w6 mm bb gg h6 t6 => (pageLen_walk base p.g _ _ w6 (h6.page ⟨p.g, p.vs.drop k, p.rows.drop k⟩ (by simp))).mono (by rintro e w7 ⟨rfl, rfl⟩; exact ⟨by simp only [hl4], h6, t6⟩))
        have c2 : w4.cell? ⟨g, 2, none⟩ = some (.int .i64 (m : Int)) := R4.out.get 2
        have c3 : w4.cell? ⟨g, 3, none⟩ = some (.int .i64 (B : Int)) := R4.out.get 3
        have c4 : w4.cell? ⟨g, 4, none⟩ = some (.int .i64 ((gone + d : Nat) : Int)) := R4.out.get 4
        have f2 := R4.out.free 2
        have f3 := R4.out.free 3
        have f4 := R4.out.free 4
        have hgd : gone + d ≤ 1099513627776 := by
          have := F.out.most
          have := HN.out
          have := HG.out
          omega
        obtain ⟨gd, hgd'⟩ : ∃ gd, gone + d = gd := ⟨_, rfl⟩
        rw [hgd'] at c4 hgd R4
        have GD := Lib.hid hgd'
        have H2 := Lib.hid hb2
        have hkm : k ≤ m - lim := by omega
        have hkl : k ≤ len := by omega
        clear hp4 ho4 RD CW hl4 hb2 hgd' hsub hmin
        go_wp2_with fail
        go_region_with (go_at_call 135; refine BW.out.mono ?_; rintro e w5 ⟨rfl, rfl⟩)
        all_goals go_wp2_with fail
        all_goals
          refine (LW.out _ _ _ _ ((((R4.out.setBytes _).setMany _).setGone _).below (Below.refl _ _).drew) ⟨rfl, rfl, rfl, by simp, fun j _ hj => (Below.heap_setCell _ _ _ _ hj).trans ((Below.heap_setCell _ _ _ _ hj).trans (Below.heap_setCell _ _ _ _ hj))⟩).mono ?_
          rintro e w7 ⟨rfl, r7, t7⟩
          have TT := Lib.hid (((F.out.turned.trans (Turned.ofBelow TD.out (fun _ => False)) (fun _ _ h => h.elim)).trans T4.out (fun j _ e => F.out.own j (.inr (.inr ⟨p, by simp, e.symm⟩)))).trans t7 (fun j _ e => F.out.own j (.inl e)))
          have ER := Lib.hid (show (allRows ps).drop (d + k) = p.rows.drop k ++ allRows rest by
            rw [← List.drop_drop, ← F.out.rows, allRows_cons, List.drop_append_of_le_length (by rw [L1.out]; exact hkl)])
          have EM := Lib.hid (show (((p.rows.drop k ++ allRows rest).length : Nat) : Int) = (m : Int) - (k : Int) by
            rw [List.length_append, List.length_drop, L1.out]; have := LL.out; omega)
          have EB := Lib.hid (show ((bytesN (p.rows.drop k ++ allRows rest) : Nat) : Int) = (B : Int) - ((b1 : Int) - (b2 : Int)) by
            rw [bytesN_append, H2.out]; have := BB.out; omega)
          have MW := Lib.hid (show manyAt wr g = m by
            have := F.out.at'.raw.many
            rw [this, allRows_cons, List.length_append, L1.out]
            exact congrArg Int.toNat (show ((len + (allRows rest).length : Nat) : Int) = (m : Int) by rw [LL.out]))
          have MO := Lib.hid (show d + k ≤ (allRows ps).length - lim by
            have h1 := F.out.most
            have h2 := congrArg List.length F.out.rows
            rw [allRows_cons, List.length_append, L1.out, LL.out, List.length_drop] at h2
            omega)
          have EG := Lib.hid (show (((gone + (d + k) : Nat)) : Int) = (gd : Int) + (k : Int) by have := GD.out; omega)
          have R7 := Lib.hid r7
          obtain ⟨q, hq⟩ : ∃ q, len - k = q := ⟨_, rfl⟩
          rw [hq]
          have HQ := Lib.hid hq
          clear hq r7 t7 LW BW c2 c3 c4 f2 f3 f4 R4 T4
          have R8 := Lib.hid (show StR w7 base g (.slice (some ⟨b, off, none⟩) (rest.length + 1) cap) (⟨p.g, p.vs.drop k, p.rows.drop k⟩ :: rest) lim ((m : Int) - (k : Int)) ((B : Int) - ((b1 : Int) - (b2 : Int))) ((gd : Int) + (k : Int)) by rw [N1.out]; exact R7.out)
          have OW := Lib.hid (show ∀ j, Owns g (.slice (some ⟨b, off, none⟩) (rest.length + 1) cap) (p :: rest) j → Owns g v ps j by rw [N1.out]; exact F.out.own)
          by_cases h0 : q = 0
          · have PE := Lib.hid (show p.rows.drop k = [] from List.eq_nil_of_length_eq_zero (by rw [List.length_drop, L1.out, HQ.out]; exact h0))
            obtain ⟨b', off', cap', e', _, _, hb7, cb, fb⟩ := R7.out.pageCell (i := 0) (p := ⟨p.g, p.vs.drop k, p.rows.drop k⟩) rfl
            injection e' with e1 e3 e4
            injection e1 with e1
            injection e1 with e1 e2
            subst e1 e2
            clear e3 e4
            rw [Nat.add_zero] at cb fb
            have c0 : w7.cell? ⟨g, 0, none⟩ = some (.slice (some ⟨b, off, none⟩) (n + 1) cap) := R7.out.get 0
            have hbg : b ≠ g := (R7.out.slTyped b rfl).apart R7.out.typed (by decide)
            have c0' : (w7.setCell ⟨b, off, none⟩ (.pointer none)).cell? ⟨g, 0, none⟩ = some (.slice (some ⟨b, off, none⟩) (n + 1) cap) := by
              rw [World.cell?_setCell_other (a := ⟨b, off, none⟩) (b := ⟨g, 0, none⟩) (h := fun e => by injection e with e _; exact hbg e)]
              exact c0
            have f0' : (w7.setCell ⟨b, off, none⟩ (.pointer none)).frozen? ⟨g, 0, none⟩ = false := by rw [World.frozen?_setCell]; exact R7.out.free 0
            subst h0
            have DONE := Lib.hid (fun off' (ho : off' = off + 1 ∨ (cap = 1 ∧ off' = off)) => fit_shift TT.out ER.out EM.out EB.out EG.out MO.out R8.out PE.out ho F.out.at'.kept OW.out)
            rw [N1.out] at DONE
            have ML := Lib.hid (show (allRows rest).length < m by have h1 := EM.out; rw [PE.out] at h1; simp only [List.nil_append] at h1; omega)
            clear R7 R8 hb7
            by_cases hc1 : cap = 1
            · have DN := Lib.hid (DONE.out off (.inr ⟨hc1, rfl⟩))
              subst hc1
              obtain rfl : n = 0 := by omega
              clear DONE
              go_wp2
              go_roundw
              case rel => exact ⟨_, _, _, DN⟩
              case measure => exact Nat.lt_of_le_of_lt (Nat.le_of_eq (FitAt.many DN.out)) (MW.out ▸ ML.out)
            · have DN := Lib.hid (DONE.out (off + 1) (.inl rfl))
              clear DONE
              go_wp2
              go_roundw
              case rel => exact ⟨_, _, _, DN⟩
              case measure => exact Nat.lt_of_le_of_lt (Nat.le_of_eq (FitAt.many DN.out)) (MW.out ▸ ML.out)
          · have HK := Lib.hid (show k < p.rows.length by rw [L1.out]; have := HQ.out; omega)
            have DONE := Lib.hid (fit_stay TT.out ER.out EM.out EB.out EG.out MO.out R8.out HK.out F.out.at'.kept OW.out)
            have ML := Lib.hid (show (p.rows.drop k ++ allRows rest).length < m by have h1 := EM.out; omega)
            clear R7 R8
            go_wp2
            go_roundw
            case rel => exact ⟨_, _, _, DONE⟩
            case measure => exact Nat.lt_of_le_of_lt (Nat.le_of_eq (FitAt.many DONE.out)) (MW.out ▸ (by rw [allRows_cons]; exact ML.out))
    · have D0 := Lib.hid (show (allRows ps).length - lim = d by
        have h1 := F.out.most
        have h2 := congrArg List.length F.out.rows
        rw [hm, List.length_drop] at h2
        omega)
      have c1 : wr.cell? ⟨g, 1, none⟩ = some (.int .i64 (lim : Int)) := R0.get 1
      have c2 : wr.cell? ⟨g, 2, none⟩ = some (.int .i64 (m : Int)) := R0.get 2
      have dle : ¬ (lim : Int) < (m : Int) := by omega
      clear R0 hm
      go_wp2_with fail
      go_quiet (fail)
      rename_i nq
      have BD := Lib.hid (Below.drewN (Below.refl wr.heap.size wr) nq)
      generalize wr.drewN nq = wd at BD ⊢
      go_wp2
      go_end0
      exact ⟨⟨_, rfl⟩, v1, ps1, by rw [D0.out]; exact F.out.at'.below BD.out, by rw [D0.out]; exact F.out.rows, F.out.turned.trans (Turned.ofBelow BD.out (fun _ => False)) (fun _ _ h => h.elim), F.out.own⟩
end Go.Proofs.YtibihjcpkdfgeaaGreatDoor
namespace Go.Proofs.YtibihjcpkdfgeaaGreatDoor
open Go.ChangeShapes Go.WideShapes Go.ChangeAt Go.RowKit

/-- The rows behind Add. -/
def addR (lim : Nat) (R : List PRow) (r : PRow) : List PRow := if mayL r.2 then (R ++ [r]).drop (R.length + 1 - lim) else R
/-- How many went behind Add. -/
def addG (lim : Nat) (R : List PRow) (r : PRow) : Nat := if mayL r.2 then R.length + 1 - lim else 0
def AddS (base g : Nat) (v : Value) (ps : List Pg) (lim gone : Nat) (r : PRow) (w : World) (e : Ending) (w' : World) : Prop :=
  ∃ v' ps', e = .returned (.bool (mayL r.2)) ∧ StoreAt w' base g v' ps' lim (gone + addG lim (allRows ps) r) ∧ allRows ps' = addR lim (allRows ps) r ∧ Turned (Owns g v ps) w w' ∧ ∀ k, Owns g v' ps' k → Owns g v ps k ∨ w.heap.size ≤ k
theorem Full.nil : Full [] := ⟨fun _ h => (by cases h), fun _ h => (by cases h), fun i p h => by simp at h⟩
/-- A page more at the end. -/
theorem Full.snoc {ps : List Pg} {p : Pg} (h : Full ps) (hp : p.rows ≠ []) (h16 : p.rows.length ≤ 16) (hl : ∀ q, ps.getLast? = some q → q.rows.length = 16) : Full (ps ++ [p]) := by
  refine ⟨fun q hq => ?_, fun q hq => ?_, fun i q hq h0 hi => ?_⟩
  · rcases List.mem_append.1 hq with hq | hq
    · exact h.some' q hq
    · rw [List.mem_singleton.1 hq]; exact hp
  · rcases List.mem_append.1 hq with hq | hq
    · exact h.few q hq
    · rw [List.mem_singleton.1 hq]; exact h16
  · rw [List.length_append, List.length_singleton] at hi
    have hil : i < ps.length := by omega
    rw [List.getElem?_append_left hil] at hq
    by_cases hl' : i + 1 < ps.length
    · exact h.full i q hq h0 hl'
    · refine hl q ?_
      rw [List.getLast?_eq_getElem?, show ps.length - 1 = i by omega]
      exact hq
/-- A row more in the last page. -/
theorem Full.more {ps : List Pg} {p p' : Pg} (h : Full (ps ++ [p])) (hp : p'.rows ≠ []) (h16 : p'.rows.length ≤ 16) : Full (ps ++ [p']) := by
  refine ⟨fun q hq => ?_, fun q hq => ?_, fun i q hq h0 hi => ?_⟩
  · rcases List.mem_append.1 hq with hq | hq
    · exact h.some' q (by simp [hq])
    · rw [List.mem_singleton.1 hq]; exact hp
  · rcases List.mem_append.1 hq with hq | hq
    · exact h.few q (by simp [hq])
    · rw [List.mem_singleton.1 hq]; exact h16
  · rw [List.length_append, List.length_singleton] at hi
    have hil : i < ps.length := by omega
    rw [List.getElem?_append_left hil] at hq
    exact h.full i q (by rw [List.getElem?_append_left hil]; exact hq) h0 (by simp; omega)
theorem Full.last_lt {ps : List Pg} (h : Full ps) : ps.length ≤ (allRows ps).length := by
  have : ∀ (l : List Pg), (∀ p ∈ l, p.rows ≠ []) → l.length ≤ (allRows l).length := by
    intro l
    induction l with
    | nil => intro _; simp
    | cons a l ih =>
      intro hl
      rw [allRows_cons, List.length_append, List.length_cons]
      have h1 := List.length_pos_iff.2 (hl a (by simp))
      have h2 := ih (fun p hp => hl p (by simp [hp]))
      omega
  exact this ps h.some'
theorem storeBytes_le {w : World} {base g : Nat} {v : Value} {ps : List Pg} {lim many bytes gone : Int} (h : StR w base g v ps lim many bytes gone) : bytesN (allRows ps) ≤ 12010 * (allRows ps).length :=
  bytesN_le (allRows ps) fun r hr => by
    unfold allRows at hr
    obtain ⟨q, hq, hr⟩ := List.mem_flatten.1 hr
    obtain ⟨q', hq', rfl⟩ := List.mem_map.1 hq
    exact (h.page q' hq').len_row r hr
theorem infoPtr : (Tryz.prog.info? 148).map (fun i => (i.zero, i.size, i.bytes)) = some (some (.pointer none), 1, 8) := by kernel_rfl
/-- What fit leaves, told of the rows that were there ahead of Add. -/
def AddF (base g : Nat) (v : Value) (ps : List Pg) (lim gone : Nat) (r : PRow) (w w' : World) : Prop :=
  ∃ v' ps', StoreAt w' base g v' ps' lim (gone + ((allRows ps).length + 1 - lim)) ∧ allRows ps' = (allRows ps ++ [r]).drop ((allRows ps).length + 1 - lim) ∧ Turned (Owns g v ps) w w' ∧ ∀ k, Owns g v' ps' k → Owns g v ps k ∨ w.heap.size ≤ k
theorem addFit {base g : Nat} {v v2 : Value} {ps qs : List Pg} {lim gone : Nat} {r : PRow} {w w6 : World} {mm bb : Int} (h : StR w6 base g v2 qs lim mm bb gone) (hF : Full qs) (hr : allRows qs = allRows ps ++ [r]) (hm : mm = (((allRows ps ++ [r]).length : Nat) : Int)) (hb : bb = ((bytesN (allRows ps ++ [r]) : Nat) : Int))
    (ht : Turned (Owns g v ps) w w6) (ho : ∀ k, Owns g v2 qs k → Owns g v ps k ∨ w.heap.size ≤ k) (hn : (allRows ps).length ≤ 1000001) (hg : gone ≤ 1099511627776) :
    Calls Tryz.prog 155 #[ptr g] w6 fun e w' => (∃ x, e = .returned x) ∧ Hid (AddF base g v ps lim gone r w w') := by
  subst hm hb
  rw [← hr] at h
  refine (fit_walk (StoreAt.mk h hF) (by rw [hr, List.length_append, List.length_singleton]; omega) hg).mono ?_
  rintro e w' ⟨he, v', ps', h1, h2, h3, h4⟩
  rw [hr, List.length_append, List.length_singleton] at h1 h2
  refine ⟨he, v', ps', h1, h2, ⟨h3.os.trans ht.os, h3.tape.trans ht.tape, h3.output.trans ht.output, Nat.le_trans ht.size h3.size, fun k hk hne => ?_⟩, fun k hk => ho k (h4 k hk)⟩
  refine (h3.block k (Nat.lt_of_lt_of_le hk ht.size) (fun x => ?_)).trans (ht.block k hk hne)
  rcases ho k x with h | h
  · exact hne h
  · omega
theorem AddF.post {base g : Nat} {v : Value} {ps : List Pg} {lim gone : Nat} {r : PRow} {w w' : World} (h : AddF base g v ps lim gone r w w') (hm : mayL r.2 = true) : AddS base g v ps lim gone r w (.returned (.bool true)) w' := by
  obtain ⟨v', ps', h1, h2, h3, h4⟩ := h
  refine ⟨v', ps', by rw [hm], ?_, ?_, h3, h4⟩
  · unfold addG; rw [if_pos hm]; exact h1
  · unfold addR; rw [if_pos hm]; exact h2
set_option maxRecDepth 100000 in
set_option maxHeartbeats 6400000 in
/-- There is a page with room. -/
theorem storeAdd_last {base g : Nat} {v : Value} {ps0 : List Pg} {p : Pg} {lim gone : Nat} (A : Option Addr) (n c : Nat) (wrap : Bool) (l : List Cel) (w : World) (hs : Spans w) (h : StoreAt w base g v (ps0 ++ [p]) lim gone) (hf : p.rows.length < 16) (hl : ∀ c ∈ l, -2147483648 ≤ c.1 ∧ c.1 ≤ 2147483647) (hq : Sq w w.heap.size 3 n A (flat l)) (hc : n ≤ c) (hn : n ≤ 1000000)
    (hN : (allRows (ps0 ++ [p])).length ≤ 1000001) (hg : gone ≤ 1099511627776) :
    Calls Tryz.prog 130 #[ptr g, rowV A n c wrap] w fun e w' => AddS base g v (ps0 ++ [p]) lim gone (wrap, l) w e w' := by
  have bb := (Below.refl w.heap.size w).alloc (Nat.le_refl _) (.cells #[.slice A n c, .bool wrap] 53)
  have R1 := h.raw.below bb
  have hp1 := R1.page p (by simp)
  have hbase : base ≤ w.heap.size := by have := h.raw.lt; have := h.raw.from'; omega
  have hpl : ps0.length ≤ 1000000 := by
    have h1 := h.kept.last_lt
    rw [List.length_append, List.length_singleton] at h1
    omega
  have RW := Lib.hid (roomy_last R1 hf hpl)
  have BW := Lib.hid (pageBytes_walk base p.g p.vs p.rows _ hp1)
  have AW := Lib.hid (pageAdd_walk base p.g p.vs p.rows A n c wrap l _ (hs.below bb hs.size) hp1 (Nat.le_trans hbase bb.size) hl ((hq.below bb).up (by simp)) hc hn)
  have H := Lib.hid h
  have NH := Lib.hid hN
  have GH := Lib.hid hg
  have B1 := Lib.hid bb
  have FH := Lib.hid hf
  have R1H := Lib.hid R1
  obtain ⟨b1, hb1⟩ : ∃ b1, bytesN p.rows = b1 := ⟨_, rfl⟩
  rw [hb1] at BW
  have H1 := Lib.hid hb1
  obtain ⟨B, hB⟩ : ∃ B, mayL l = B := ⟨_, rfl⟩
  have BH := Lib.hid hB
  clear h hf hl hq bb hs hB R1 hp1 hpl hb1
  cases B
  · go_enter Tryz.func130, Tryz.ntmps130
    go_wp2_with fail
    refine RW.out.mono ?_
    rintro e w2 ⟨rfl, rfl⟩
    clear RW
    go_wp2_with fail
    refine BW.out.mono ?_
    rintro e w2 ⟨rfl, rfl⟩
    clear BW
    go_wp2_with fail
    refine AW.out.mono ?_
    rintro e w3 ⟨ok, vs', hok, rfl, h3, g3, _⟩
    rw [BH.out, Bool.false_and] at hok
    subst hok
    rw [if_neg (by decide)] at h3
    have R3 := Lib.hid (R1H.out.setPage (ps1 := []) ((Turned.ofGrown g3).mono fun k _ e => by injection e with e; exact e.symm) h3)
    have T3 := Lib.hid ((Turned.ofBelow B1.out (Owns g v (ps0 ++ [p]))).trans ((Turned.ofGrown g3).mono (M' := (· = p.g)) fun k _ e => by injection e with e; exact e.symm) (fun k _ e => .inr (.inr ⟨p, by simp, e.symm⟩)))
    clear h3 g3 AW R1H B1
    go_wp2
    go_ret
    have EA : allRows (ps0 ++ [⟨p.g, vs', p.rows⟩]) = allRows (ps0 ++ [p]) := by rw [allRows_append, allRows_append, allRows_cons, allRows_cons]
    refine ⟨v, ps0 ++ [⟨p.g, vs', p.rows⟩], by rw [BH.out]; rfl, ⟨?_, H.out.kept.more (H.out.kept.some' p (by simp)) (Nat.le_of_lt FH.out)⟩, ?_, T3.out, ?_⟩
    · unfold addG
      rw [if_neg (by rw [BH.out]; decide), EA]
      exact R3.out
    · unfold addR
      rw [if_neg (by rw [BH.out]; decide), EA]
    · rintro k (e | e | ⟨q, hq, e⟩)
      · exact .inl (.inl e)
      · exact .inl (.inr (.inl e))
      · rcases List.mem_append.1 hq with hq | hq
        · exact .inl (.inr (.inr ⟨q, by simp [hq], e⟩))
        · rw [List.mem_singleton.1 hq] at e
          exact .inl (.inr (.inr ⟨p, by simp, e⟩))
  · go_enter Tryz.func130, Tryz.ntmps130
    go_wp2_with fail
    refine RW.out.mono ?_
    rintro e w2 ⟨rfl, rfl⟩
    clear RW
    go_wp2_with fail
    refine BW.out.mono ?_
    rintro e w2 ⟨rfl, rfl⟩
    clear BW
    go_wp2_with fail
    refine AW.out.mono ?_
    rintro e w3 ⟨ok, vs', hok, rfl, h3, g3, _⟩
    rw [BH.out, Bool.true_and, decide_eq_true FH.out] at hok
    subst hok
    rw [if_pos rfl] at h3
    have r3 := R1H.out.setPage (ps1 := []) ((Turned.ofGrown g3).mono fun k _ e => by injection e with e; exact e.symm) h3
    have T3 := Lib.hid ((Turned.ofBelow B1.out (Owns g v (ps0 ++ [p]))).trans ((Turned.ofGrown g3).mono (M' := (· = p.g)) fun k _ e => by injection e with e; exact e.symm) (fun k _ e => .inr (.inr ⟨p, by simp, e.symm⟩)))
    obtain ⟨m, hm⟩ : ∃ m, (allRows (ps0 ++ [p])).length = m := ⟨_, rfl⟩
    obtain ⟨bt, hbt⟩ : ∃ bt, bytesN (allRows (ps0 ++ [p])) = bt := ⟨_, rfl⟩
    obtain ⟨b2, hb2⟩ : ∃ b2, bytesN (p.rows ++ [(wrap, l)]) = b2 := ⟨_, rfl⟩
    have hb12 : b1 ≤ b2 := by rw [← hb2, bytesN_append, H1.out]; omega
    have hb1t : b1 ≤ bt := by rw [← hbt, allRows_append, bytesN_append, allRows_cons, allRows_nil, List.append_nil, H1.out]; omega
    have hbtm : bt ≤ 12010 * 1000001 := by
      have h1 := storeBytes_le H.out.raw
      have h2 := NH.out
      omega
    have hb2m : b2 ≤ 12010 * 16 := by
      have h1 := bytesN_le (p.rows ++ [(wrap, l)]) h3.len_row
      have h2 := h3.few
      omega
    have hmm : m ≤ 1000001 := by have := NH.out; omega
    have EA : allRows (ps0 ++ [⟨p.g, vs', p.rows ++ [(wrap, l)]⟩]) = allRows (ps0 ++ [p]) ++ [(wrap, l)] := by
      rw [allRows_append, allRows_append, allRows_cons, allRows_cons, allRows_nil, List.append_nil, List.append_nil, List.append_assoc]
    have R3 := Lib.hid (show StR w3 base g v (ps0 ++ [⟨p.g, vs', p.rows ++ [(wrap, l)]⟩]) lim (m : Int) (bt : Int) (gone : Int) by rw [← hm, ← hbt]; exact r3)
    have BW := Lib.hid (fun (w6 : World) (mm bb gg : Int) (h6 : StR w6 base g v (ps0 ++ [⟨p.g, vs', p.rows ++ [(wrap, l)]⟩]) lim mm bb gg) => (hb2 ▸ pageBytes_walk base p.g _ _ w6 (h6.page ⟨p.g, vs', p.rows ++ [(wrap, l)]⟩ (by simp)) : Calls Tryz.prog 135 #[ptr p.g] w6 fun e w7 => e = .returned (.int .i64 (b2 : Int)) ∧ w6 = w7))
    have FW := Lib.hid (fun (w6 : World) (mm bb : Int) (h6 : StR w6 base g v (ps0 ++ [⟨p.g, vs', p.rows ++ [(wrap, l)]⟩]) lim mm bb gone) (hmm : mm = (m : Int) + 1) (hbb : bb = (bt : Int) + ((b2 : Int) - (b1 : Int))) (ht : Turned (Owns g v (ps0 ++ [p])) w w6) =>
      addFit (ps := ps0 ++ [p]) (r := (wrap, l)) h6 (H.out.kept.more (by simp) (by rw [List.length_append, List.length_singleton]; have := FH.out; omega)) EA (by rw [hmm, List.length_append, hm]; rfl) (by
        rw [hbb, allRows_append, allRows_cons, allRows_nil, List.append_nil, List.append_assoc, bytesN_append, hb2]
        rw [allRows_append, allRows_cons, allRows_nil, List.append_nil, bytesN_append, H1.out] at hbt
        omega) ht (fun k => by
        rintro (e | e | ⟨q, hq, e⟩)
        · exact .inl (.inl e)
        · exact .inl (.inr (.inl e))
        · rcases List.mem_append.1 hq with hq | hq
          · exact .inl (.inr (.inr ⟨q, by simp [hq], e⟩))
          · rw [List.mem_singleton.1 hq] at e
            exact .inl (.inr (.inr ⟨p, by simp, e⟩))) NH.out GH.out)
    have c2 : w3.cell? ⟨g, 2, none⟩ = some (.int .i64 (m : Int)) := R3.out.get 2
    have c3 : w3.cell? ⟨g, 3, none⟩ = some (.int .i64 (bt : Int)) := R3.out.get 3
    have f2 := R3.out.free 2
    have f3 := R3.out.free 3
    clear h3 g3 AW R1H B1 r3 EA hm hbt hb2
    go_wp2_with fail
    go_region_with (go_at_call 135; refine (BW.out _ _ _ _ ((R3.out.setMany _).below (Below.refl _ _).drew)).mono ?_; rintro e w5 ⟨rfl, rfl⟩)
    all_goals go_wp2_with fail
    all_goals
      refine (FW.out _ _ _ (((R3.out.setMany _).setBytes _).below (Below.refl _ _).drew) rfl rfl (T3.out.trans (M' := (· = g)) ⟨rfl, rfl, rfl, by simp, fun j _ hj => (Below.heap_setCell _ _ _ _ hj).trans (Below.heap_setCell _ _ _ _ hj)⟩ (fun j _ e => .inl e))).mono ?_
      rintro e w8 ⟨⟨x, rfl⟩, D⟩
      clear FW BW c2 c3 f2 f3 R3 T3
      go_wp2
      go_ret
      exact D.out.post BH.out
/-- The list of pages with one more, put into the store. -/
theorem StR.appended {w3 w4 : World} {base g pg np : Nat} {v v4 : Value} {ps : List Pg} {vs' : List Value} {rows' : List PRow} {lim many bytes gone : Int} (R3 : StR w3 base g v ps lim many bytes gone) (P3 : PageAt w3 base pg vs' rows') (hne : ∀ j, Owns g v ps j → j ≠ pg) (hnp : ps.length = np)
    (h4 : SlAt w4 base 148 v4 (np + 1) ((ps.map fun p => ptr p.g) ++ [ptr pg])) (g4 : (w3.alloc (.cells #[ptr pg] 148)).grownBy w4 v.ownBlock) :
    w4.heap[g]? = some (.cells #[v, .int .i64 lim, .int .i64 many, .int .i64 bytes, .int .i64 gone] 178 (0, 0)) ∧ StR (w4.setCell ⟨g, 0, none⟩ v4) base g v4 (ps ++ [⟨pg, vs', rows'⟩]) lim many bytes gone ∧ Turned (fun k => v.ownBlock = some k) w3 w4 := by
  have t : Turned (fun k => v.ownBlock = some k) w3 w4 := ⟨g4.os, g4.tape, g4.output, Nat.le_trans (by simp) g4.size, fun k hk hn => (g4.block k (by simp; omega) (fun e => hn e.symm)).trans (Below.heap_alloc _ _ _ hk)⟩
  have hb : ∀ k, v.ownBlock = some k → ¬ Typed w3 5 k := fun k e hb => (R3.slTyped k e).apart hb (by decide) rfl
  have hg := (t.block g R3.lt (fun e => (R3.slTyped g e).apart R3.typed (by decide) rfl)).trans R3.cells
  refine ⟨hg, StR.putPages hg R3.from' (by simpa [hnp] using h4) (fun q hq => ?_) ?_, t⟩
  · rcases List.mem_append.1 hq with hq | hq
    · exact (R3.page q hq).turned t (fun e => (R3.slTyped _ e).apart (R3.page q hq).typed (by decide) rfl) hb
    · rw [List.mem_singleton.1 hq]
      exact P3.turned t (fun e => (R3.slTyped _ e).apart P3.typed (by decide) rfl) hb
  · rw [List.map_append, List.nodup_append]
    refine ⟨R3.apart, by simp, fun a ha b hb' e => ?_⟩
    obtain ⟨q, hq, rfl⟩ := List.mem_map.1 ha
    simp at hb'
    exact hne q.g (.inr (.inr ⟨q, hq, rfl⟩)) (by rw [e, hb'])
set_option maxRecDepth 100000 in
set_option maxHeartbeats 6400000 in
/-- A new page is wanted. -/
theorem storeAdd_new {base g : Nat} {v : Value} {ps : List Pg} {lim gone : Nat} (A : Option Addr) (n c : Nat) (wrap : Bool) (l : List Cel) (w : World) (hs : Spans w) (h : StoreAt w base g v ps lim gone) (hlast : ∀ q, ps.getLast? = some q → q.rows.length = 16) (hl : ∀ c ∈ l, -2147483648 ≤ c.1 ∧ c.1 ≤ 2147483647) (hq : Sq w w.heap.size 3 n A (flat l)) (hc : n ≤ c) (hn : n ≤ 1000000)
    (hN : (allRows ps).length ≤ 1000001) (hg : gone ≤ 1099511627776)
    (RW : ∀ w1, w1 = w.alloc (.cells #[.slice A n c, .bool wrap] 53) → Calls Tryz.prog 154 #[ptr g] w1 fun e w' => RoomyNew w1 e w') :
    Calls Tryz.prog 130 #[ptr g, rowV A n c wrap] w fun e w' => AddS base g v ps lim gone (wrap, l) w e w' := by
  have bb := (Below.refl w.heap.size w).alloc (Nat.le_refl _) (.cells #[.slice A n c, .bool wrap] 53)
  have R1 := h.raw.below bb
  have hbase : base ≤ w.heap.size := by have := h.raw.lt; have := h.raw.from'; omega
  have RWH := Lib.hid (RW _ rfl)
  have H := Lib.hid h
  have NH := Lib.hid hN
  have GH := Lib.hid hg
  have B1 := Lib.hid bb
  have R1H := Lib.hid R1
  have LH := Lib.hid hlast
  have SH := Lib.hid (hs.below bb hs.size)
  have QH := Lib.hid (hq.below bb)
  have HL := Lib.hid hl
  have hz1 : (w.alloc (.cells #[.slice A n c, .bool wrap] 53)).heap.size = w.heap.size + 1 := by simp
  have Z1 := Lib.hid hz1
  obtain ⟨B, hB⟩ : ∃ B, mayL l = B := ⟨_, rfl⟩
  have BH := Lib.hid hB
  clear h hlast hl hq bb hs hB R1 RW hz1
  cases B
  · go_enter Tryz.func130, Tryz.ntmps130
    go_wp2_with fail
    refine RWH.out.mono ?_
    rintro e w2 ⟨rfl, hp2, b2, _⟩
    have BW := Lib.hid (show Calls Tryz.prog 135 #[ptr (w.alloc (.cells #[.slice A n c, .bool wrap] 53)).heap.size] w2 fun e w' => e = .returned (.int .i64 0) ∧ w2 = w' from pageBytes_walk _ _ _ _ w2 hp2)
    have AW := Lib.hid (pageAdd_walk _ _ _ _ A n c wrap l w2 (SH.out.below b2 SH.out.size) hp2 b2.size HL.out ((QH.out.below (b2.mono (by rw [Z1.out]; omega))).up (by have := b2.size; have := Z1.out; omega)) hc hn)
    have R2 := Lib.hid (R1H.out.below b2)
    have B2 := Lib.hid (B1.out.trans (b2.mono (by rw [Z1.out]; omega)))
    have hpg : ∀ j, Owns g v ps j → j ≠ (w.alloc (.cells #[.slice A n c, .bool wrap] 53)).heap.size := fun j hj e => by have := (R1H.out.own_ge j hj).2; omega
    have PG := Lib.hid hpg
    have P2 := Lib.hid hp2.typed
    have rr : RowAt w2 w.heap.size (.slice A n c) wrap := (b2.block w.heap.size (by rw [Z1.out]; omega)).trans (heap_alloc_new w _)
    have k0 := rr.get 0
    have k1 := rr.get 1
    simp only [List.getElem?_toArray, List.getElem?_cons_zero, List.getElem?_cons_succ] at k0 k1
    have ZG := Lib.hid (show w.heap.size ≤ (w.alloc (.cells #[.slice A n c, .bool wrap] 53)).heap.size from B1.out.size)
    generalize (w.alloc (.cells #[.slice A n c, .bool wrap] 53)).heap.size = pg at BW AW PG P2 ZG ⊢
    clear RWH hp2 b2 hpg rr
    go_wp2_with fail
    refine BW.out.mono ?_
    rintro e w3 ⟨rfl, rfl⟩
    clear BW
    go_wp2_with fail
    refine AW.out.mono ?_
    rintro e w3 ⟨ok, vs', hok, rfl, h3, g3, _⟩
    rw [BH.out, Bool.false_and] at hok
    subst hok
    have t3 := (Turned.ofGrown g3).mono (M' := (· = pg)) fun k _ e => by injection e with e; exact e.symm
    have R3 := Lib.hid (R2.out.turned t3 PG.out (fun k e hb => by subst e; exact P2.out.apart hb (by decide) rfl))
    have T3 := Lib.hid (show Turned (Owns g v ps) w w3 from ⟨t3.os.trans B2.out.os, t3.tape.trans B2.out.tape, t3.output.trans B2.out.output, Nat.le_trans B2.out.size t3.size, fun k hk _ => (t3.block k (Nat.lt_of_lt_of_le hk B2.out.size) (fun e => by have := ZG.out; omega)).trans (B2.out.block k hk)⟩)
    clear h3 g3 t3 AW
    go_wp2
    go_ret
    refine ⟨v, ps, by rw [BH.out]; rfl, ⟨?_, H.out.kept⟩, ?_, T3.out, fun k hk => .inl hk⟩
    · unfold addG
      rw [if_neg (by rw [BH.out]; decide)]
      exact R3.out
    · unfold addR
      rw [if_neg (by rw [BH.out]; decide)]
  · obtain ⟨i0, hi, hz0, hz1, hz2⟩ := info_parts infoPtr
    go_enter Tryz.func130, Tryz.ntmps130
    go_wp2_with fail
    refine RWH.out.mono ?_
    rintro e w2 ⟨rfl, hp2, b2, _⟩
    have BW := Lib.hid (show Calls Tryz.prog 135 #[ptr (w.alloc (.cells #[.slice A n c, .bool wrap] 53)).heap.size] w2 fun e w' => e = .returned (.int .i64 0) ∧ w2 = w' from pageBytes_walk _ _ _ _ w2 hp2)
    have AW := Lib.hid (pageAdd_walk _ _ _ _ A n c wrap l w2 (SH.out.below b2 SH.out.size) hp2 b2.size HL.out ((QH.out.below (b2.mono (by rw [Z1.out]; omega))).up (by have := b2.size; have := Z1.out; omega)) hc hn)
    have R2 := Lib.hid (R1H.out.below b2)
    have B2 := Lib.hid (B1.out.trans (b2.mono (by rw [Z1.out]; omega)))
    have hpg : ∀ j, Owns g v ps j → j ≠ (w.alloc (.cells #[.slice A n c, .bool wrap] 53)).heap.size := fun j hj e => by have := (R1H.out.own_ge j hj).2; omega
    have PG := Lib.hid hpg
    have P2 := Lib.hid hp2.typed
    have rr : RowAt w2 w.heap.size (.slice A n c) wrap := (b2.block w.heap.size (by rw [Z1.out]; omega)).trans (heap_alloc_new w _)
    have k0 := rr.get 0
    have k1 := rr.get 1
    simp only [List.getElem?_toArray, List.getElem?_cons_zero, List.getElem?_cons_succ] at k0 k1
    have ZG := Lib.hid (show w.heap.size ≤ (w.alloc (.cells #[.slice A n c, .bool wrap] 53)).heap.size from B1.out.size)
    generalize (w.alloc (.cells #[.slice A n c, .bool wrap] 53)).heap.size = pg at BW AW PG P2 ZG ⊢
    clear RWH hp2 b2 hpg rr
    go_wp2_with fail
    refine BW.out.mono ?_
    rintro e w3 ⟨rfl, rfl⟩
    clear BW
    go_wp2_with fail
    refine AW.out.mono ?_
    rintro e w3 ⟨ok, vs', hok, rfl, h3, g3, _⟩
    rw [BH.out, Bool.true_and] at hok
    have hok' : ok = true := by rw [hok]; rfl
    subst hok'
    rw [if_pos rfl, List.nil_append] at h3
    have t3 := (Turned.ofGrown g3).mono (M' := (· = pg)) fun k _ e => by injection e with e; exact e.symm
    have r3 := R2.out.turned t3 PG.out (fun k e hb => by subst e; exact P2.out.apart hb (by decide) rfl)
    have T3 := Lib.hid (show Turned (Owns g v ps) w w3 from ⟨t3.os.trans B2.out.os, t3.tape.trans B2.out.tape, t3.output.trans B2.out.output, Nat.le_trans B2.out.size t3.size, fun k hk _ => (t3.block k (Nat.lt_of_lt_of_le hk B2.out.size) (fun e => by have := ZG.out; omega)).trans (B2.out.block k hk)⟩)
    have R3 := Lib.hid r3
    have P3 := Lib.hid (h3.base (Nat.le_trans hbase ZG.out))
    obtain ⟨np, hnp⟩ : ∃ np, ps.length = np := ⟨_, rfl⟩
    have hnp6 : np ≤ 1000001 := by have h1 := H.out.kept.last_lt; have h2 := NH.out; omega
    obtain ⟨Ap, cp, hvp, _⟩ := r3.sl.shape
    have c0 : w3.cell? ⟨g, 0, none⟩ = some (.slice Ap np cp) := by rw [← hnp, ← hvp]; exact r3.get 0
    have SL := Lib.hid (show SlAt (w3.alloc (.cells #[ptr pg] 148)) base 148 (.slice Ap np cp) np (ps.map fun p => ptr p.g) by
      rw [← hnp, ← hvp]
      exact r3.sl.kept fun b hb => Below.heap_alloc _ _ _ (r3.sl.lt b hb).2)
    have CN := Lib.hid (show (w3.alloc (.cells #[ptr pg] 148)).cell? ⟨w3.heap.size, 0, none⟩ = some (ptr pg) from cell_of_row _ _ 0 _ _ (0, 0) (heap_alloc_new w3 _))
    have BZ := Lib.hid (show base ≤ w3.heap.size from Nat.le_trans hbase (Nat.le_trans B2.out.size t3.size))
    obtain ⟨m, hm⟩ : ∃ m, (allRows ps).length = m := ⟨_, rfl⟩
    obtain ⟨bt, hbt⟩ : ∃ bt, bytesN (allRows ps) = bt := ⟨_, rfl⟩
    obtain ⟨b2, hb2⟩ : ∃ b2, bytesN [(wrap, l)] = b2 := ⟨_, rfl⟩
    have hbtm : bt ≤ 12010 * 1000001 := by
      have h1 := storeBytes_le H.out.raw
      have h2 := NH.out
      omega
    have hb2m : b2 ≤ 12010 * 16 := by
      have h1 := bytesN_le [(wrap, l)] h3.len_row
      simp only [List.length_singleton] at h1
      omega
    have hmm : m ≤ 1000001 := by have := NH.out; omega
    have r4 : StR w3 base g (.slice Ap np cp) ps lim (m : Int) (bt : Int) (gone : Int) := by rw [← hm, ← hbt, ← hnp, ← hvp]; exact r3
    have R4 := Lib.hid r4
    have APP := Lib.hid (fun v4 w4 h4 g4 => StR.appended (v4 := v4) (w4 := w4) r4 P3.out (fun j hj => PG.out j (by rw [← hnp, ← hvp] at hj; exact hj)) hnp h4 g4)
    have BW := Lib.hid (fun (v4 : Value) (w6 : World) (mm bb gg : Int) (h6 : StR w6 base g v4 (ps ++ [⟨pg, vs', [(wrap, l)]⟩]) lim mm bb gg) => (hb2 ▸ pageBytes_walk base pg _ _ w6 (h6.page ⟨pg, vs', [(wrap, l)]⟩ (by simp)) : Calls Tryz.prog 135 #[ptr pg] w6 fun e w7 => e = .returned (.int .i64 (b2 : Int)) ∧ w6 = w7))
    have FW := Lib.hid (fun (v4 : Value) (w6 : World) (mm bb : Int) (h6 : StR w6 base g v4 (ps ++ [⟨pg, vs', [(wrap, l)]⟩]) lim mm bb gone) (hmm : mm = (m : Int) + 1) (hbb : bb = (bt : Int) + (b2 : Int)) (ht : Turned (Owns g v ps) w w6) (hv4 : ∀ k, v4.ownBlock = some k → v.ownBlock = some k ∨ w.heap.size ≤ k) =>
      addFit (ps := ps) (r := (wrap, l)) h6 (H.out.kept.snoc (by simp) (by simp) LH.out) (by rw [allRows_append, allRows_cons, allRows_nil, List.append_nil]) (by rw [hmm, List.length_append, hm]; rfl) (by rw [hbb, bytesN_append, hbt, hb2]; rfl) ht (fun k => by
        rintro (e | e | ⟨q, hq, e⟩)
        · exact .inl (.inl e)
        · exact (hv4 k e).imp (fun e => .inr (.inl e)) id
        · rcases List.mem_append.1 hq with hq | hq
          · exact .inl (.inr (.inr ⟨q, hq, e⟩))
          · rw [List.mem_singleton.1 hq] at e
            exact .inr (by rw [← e]; exact ZG.out)) NH.out GH.out)
    have VP := Lib.hid (show v = .slice Ap np cp by rw [← hnp]; exact hvp)
    have Z3 := Lib.hid (show w.heap.size ≤ w3.heap.size from T3.out.size)
    clear h3 g3 t3 AW hok r3 r4 hm hbt hb2 hnp hvp R2 R3 P3 P2 PG hN hg
    go_wp2_with (at_builtin; refine wpl_slAt rfl _ _ 176 rfl base 148 i0 (.pointer none) 8 Tryz.underlying176 hi hz0 hz1 hz2 rfl (.slice Ap np cp) np (ps.map fun p => ptr p.g) rfl SL.out ⟨w3.heap.size, 0, none⟩ 1 (ptr pg) rfl CN.out rfl (by unfold maxLen; omega) (by omega) (by have := BZ.out; simp; omega) ?_; intro v4 w4 h4 g4 o4; obtain ⟨hg4, r5, t5⟩ := APP.out v4 w4 h4 g4; obtain ⟨A4, c4, rfl, _⟩ := h4.shape; (have z0 := cell_of_row w4 g 0 _ _ (0, 0) hg4); (have z2 := cell_of_row w4 g 2 _ _ (0, 0) hg4); (have z3 := cell_of_row w4 g 3 _ _ (0, 0) hg4); (have y0 := frozen_of_row w4 g 0 _ _ hg4); (have y2 := frozen_of_row w4 g 2 _ _ hg4); (have y3 := frozen_of_row w4 g 3 _ _ hg4); (simp only [List.getElem?_toArray, List.getElem?_cons_zero, List.getElem?_cons_succ] at z0 z2 z3); (have R5 := Lib.hid r5); (have T5 := Lib.hid t5); (have O5 := Lib.hid o4); clear h4 g4 o4 hg4 r5 t5 c0 k0 k1)
    go_region_with (go_at_call 135; refine (BW.out _ _ _ _ _ ((R5.out.setMany _).below (Below.refl _ _).drew)).mono ?_; rintro e w5 ⟨rfl, rfl⟩)
    all_goals go_wp2_with fail
    all_goals
      refine (FW.out _ _ _ _ (((R5.out.setMany _).setBytes _).below (Below.refl _ _).drew) rfl (by first | rfl | omega) ((T3.out.trans T5.out (fun k _ e => .inr (.inl (by rw [VP.out]; exact e)))).trans (M' := (· = g)) ⟨rfl, rfl, rfl, by simp, fun j _ hj => (Below.heap_setCell _ _ _ _ hj).trans ((Below.heap_setCell _ _ _ _ hj).trans (Below.heap_setCell _ _ _ _ hj))⟩ (fun j _ e => .inl e)) (fun k e => by
        rcases O5.out with o | o
        · exact .inl (by rw [VP.out, ← o]; exact e)
        · right
          rw [o] at e
          injection e with e
          rw [← e]
          have := Z3.out
          simp
          omega)).mono ?_
      rintro e w8 ⟨⟨x, rfl⟩, D⟩
      clear FW BW R5 T5 O5 T3
      go_wp2
      go_ret
      exact D.out.post BH.out
theorem storeAdd_walk {base g : Nat} {v : Value} {ps : List Pg} {lim gone : Nat} (A : Option Addr) (n c : Nat) (wrap : Bool) (l : List Cel) (w : World) (hs : Spans w) (h : StoreAt w base g v ps lim gone) (hl : ∀ c ∈ l, -2147483648 ≤ c.1 ∧ c.1 ≤ 2147483647) (hq : Sq w w.heap.size 3 n A (flat l)) (hc : n ≤ c) (hn : n ≤ 1000000)
    (hN : (allRows ps).length ≤ 1000001) (hg : gone ≤ 1099511627776) :
    Calls Tryz.prog 130 #[ptr g, rowV A n c wrap] w fun e w' => AddS base g v ps lim gone (wrap, l) w e w' := by
  have bb := (Below.refl w.heap.size w).alloc (Nat.le_refl _) (.cells #[.slice A n c, .bool wrap] 53)
  rcases List.eq_nil_or_concat ps with rfl | ⟨ps0, p, rfl⟩
  · exact storeAdd_new A n c wrap l w hs h (fun q e => by cases e) hl hq hc hn hN hg (fun w1 e => by subst e; exact roomy_none (h.raw.below bb))
  · rw [List.concat_eq_append] at h hN ⊢
    have h16 := h.kept.few p (by simp)
    by_cases hf : p.rows.length = 16
    · refine storeAdd_new A n c wrap l w hs h (fun q e => ?_) hl hq hc hn hN hg (fun w1 e => ?_)
      · rw [List.getLast?_append] at e
        simp at e
        rw [← e]
        exact hf
      · subst e
        refine roomy_full (h.raw.below bb) hf ?_
        have h1 := h.kept.last_lt
        rw [List.length_append, List.length_singleton] at h1
        omega
    · exact storeAdd_last A n c wrap l w hs h (by omega) hl hq hc hn hN hg
end Go.Proofs.YtibihjcpkdfgeaaGreatDoor
namespace Go.Proofs.YtibihjcpkdfgeaaGreatDoor
open Go.ChangeShapes Go.WideShapes Go.ChangeAt Go.RowKit
theorem infoPage : (Tryz.prog.info? 175).map (fun i => (i.zero, i.size, i.bytes)) = some (some (.agg (Array.replicate 16 (.slice none 0 0) ++ #[.int .i64 0])), 17, 392) := by kernel_rfl
def flatP (ps : List Pg) : List Value := ps.flatMap fun p => pageCells p.vs
theorem flatP_next {ps : List Pg} {k : Nat} {p : Pg} (h : ps[k]? = some p) : flatP (ps.take (k + 1)) = flatP (ps.take k) ++ pageCells p.vs := by
  obtain ⟨h1, h2⟩ := List.getElem?_eq_some_iff.1 h
  unfold flatP
  rw [List.take_succ_eq_append_getElem h1, h2]
  simp
def CopyPost (ps : List Pg) (w : World) (e : Ending) (w' : World) : Prop := ∃ u, e = .returned u ∧ w'.ownsRow w.heap.size 175 17 u ps.length (flatP ps) ∧ Below w.heap.size w w'
theorem list17 : ∀ (l : List Value), l.length = 17 → ∃ x0 x1 x2 x3 x4 x5 x6 x7 x8 x9 x10 x11 x12 x13 x14 x15 x16, l = [x0, x1, x2, x3, x4, x5, x6, x7, x8, x9, x10, x11, x12, x13, x14, x15, x16]
  | [x0, x1, x2, x3, x4, x5, x6, x7, x8, x9, x10, x11, x12, x13, x14, x15, x16], _ => ⟨x0, x1, x2, x3, x4, x5, x6, x7, x8, x9, x10, x11, x12, x13, x14, x15, x16, rfl⟩
set_option maxRecDepth 100000 in
theorem run_loadPage {w : World} {g : Nat} {x0 x1 x2 x3 x4 x5 x6 x7 x8 x9 x10 x11 x12 x13 x14 x15 x16 : Value} (h : ∀ j, w.cell? ⟨g, j, none⟩ = [x0, x1, x2, x3, x4, x5, x6, x7, x8, x9, x10, x11, x12, x13, x14, x15, x16][j]?) : (Instr.loadAt 175 (ptr g)).run Tryz.prog w = .ok (.agg #[x0, x1, x2, x3, x4, x5, x6, x7, x8, x9, x10, x11, x12, x13, x14, x15, x16]) w := by
  have ha : (isAgg 175).run Tryz.prog w = .ok true w := by kernel_rfl
  have hl := run_loadCells_list (P := Tryz.prog) w ⟨g, 0, none⟩ [x0, x1, x2, x3, x4, x5, x6, x7, x8, x9, x10, x11, x12, x13, x14, x15, x16] (fun j v hv => by rw [add_spot, Nat.zero_add, h j]; exact hv)
  simp only [List.length_cons, List.length_nil, Nat.zero_add, Nat.reduceAdd] at hl
  simp [Instr.loadAt, Instr.sureAddr, loadVar, ha, hl]
theorem wpl_load {P : Program} {w : World} {ops : Array Oper} {rest : List Oper} {o : Oper} {a : Act} {Q : Exit → Act → World → Prop} (hgd : o.guard = none) (x : Operand) (t : TypeId) (ho : o.op = .load t x) (v xv : Value) (hx : a.eval x = xv) (hr : (Instr.loadAt t xv).run P w = .ok v w)
    (h : wpList P ops Q rest (a.put o.dst v) w) : wpList P ops Q (o :: rest) a w := by
  refine wpList_plain hgd fun K hK => ?_
  unfold Oper.wp
  simp [execOp, ho, hx, hr, Result.andThen]
  exact hK _ _ h
set_option maxRecDepth 100000 in
set_option maxHeartbeats 6400000 in
theorem storeCopied_walk {base g : Nat} {v : Value} {ps : List Pg} {lim many bytes gone : Int} {w : World} (h : StR w base g v ps lim many bytes gone) (hn : ps.length ≤ 1000001) :
    Calls Tryz.prog 156 #[ptr g] w fun e w' => CopyPost ps w e w' := by
  obtain ⟨i0, hi, hz0, hz1, hz2⟩ := info_parts infoPage
  obtain ⟨A, c, rfl, hc⟩ := h.sl.shape
  have H := Lib.hid h
  have gl := h.lt
  obtain ⟨n, hnn⟩ : ∃ n, ps.length = n := ⟨_, rfl⟩
  rw [hnn] at hn hc h
  have c0 : w.cell? ⟨g, 0, none⟩ = some (.slice A n c) := h.get 0
  have NN := Lib.hid hnn
  clear h hnn
  go_enter Tryz.func156, Tryz.ntmps156
  go_wp2_with (first
    | (refine wpList_make_own w rfl (.const (.int .i64 0)) (.tmp 12) 182 rfl w.heap.size 175 i0 _ 17 Tryz.underlying182 hi hz0 hz1 .i64 .i64 (n : Int) n rfl rfl rfl (by rw [hz2]; omega) (by unfold maxLen; omega) (Nat.le_refl _) ?_; intro w1 hown hg1; (have B1 := Lib.hid ((Below.refl w.heap.size w).grown hg1 (Nat.le_refl _) (fun k e => by cases e))); (have O1 := Lib.hid hown); (have c1 : w1.cell? ⟨g, 0, none⟩ = some (.slice A n c) := (B1.out.cell (p := ⟨g, 0, none⟩) gl).trans c0); clear hown hg1))
  go_loopw [3, 5, 19] (fun u _ i wr => ∃ k : Nat, i = .int .i64 k ∧ k ≤ n ∧ Hid (wr.ownsRow w.heap.size 175 17 u k (flatP (ps.take k))) ∧ Hid (Below w.heap.size w wr)) (fun _ _ i _ => n - (intOf i).toNat)
  case atStart => exact ⟨0, rfl, Nat.zero_le _, O1, B1⟩
  case round =>
    obtain ⟨k, rfl, hk, O, B⟩ := hrel
    clear O1 B1 c1
    by_cases hlt : k < n
    · obtain ⟨p, hp⟩ : ∃ p, ps[k]? = some p := ⟨_, List.getElem?_eq_getElem (by rw [NN.out]; exact hlt)⟩
      have HW := H.out.below B.out
      obtain ⟨b, off, cap, e', _, _, _, hcc, _⟩ := HW.pageCell hp
      injection e' with e1 e3 e4
      subst e1
      clear e3 e4
      have hpg := HW.page p (List.mem_of_getElem? hp)
      have h17 := pageCells_len (vs := p.vs) (by rw [hpg.many]; exact hpg.few)
      obtain ⟨x0, x1, x2, x3, x4, x5, x6, x7, x8, x9, x10, x11, x12, x13, x14, x15, x16, hx⟩ := list17 _ h17
      have LD := Lib.hid (run_loadPage (w := wr) (g := p.g) (fun j => by rw [hpg.get j, hx]))
      have NX := Lib.hid (show flatP (ps.take (k + 1)) = flatP (ps.take k) ++ [x0, x1, x2, x3, x4, x5, x6, x7, x8, x9, x10, x11, x12, x13, x14, x15, x16] by rw [flatP_next hp, hx])
      have ON := Lib.hid (show ∀ u ∈ [x0, x1, x2, x3, x4, x5, x6, x7, x8, x9, x10, x11, x12, x13, x14, x15, x16], u.oneCell' = true by
        intro y hy
        rw [← hx] at hy
        unfold pageCells at hy
        rcases List.mem_append.1 hy with hy | hy
        · obtain ⟨j, hj⟩ := List.mem_iff_getElem?.1 hy
          obtain ⟨A, c, e⟩ := (hpg.row j y (p.rows[j]'(by have := (List.getElem?_eq_some_iff.1 hj).1; rw [hpg.many] at this; exact this)) hj (List.getElem?_eq_getElem _)).1.shape
          rw [e]
          rfl
        · rcases List.mem_append.1 hy with hy | hy
          · rw [(List.mem_replicate.1 hy).2]; rfl
          · rw [List.mem_singleton.1 hy]; rfl)
      clear HW hpg h17 hx hp
      have hsz := B.out.size
      have SQ := Lib.hid (show Sq (wr.alloc (.cells #[x0, x1, x2, x3, x4, x5, x6, x7, x8, x9, x10, x11, x12, x13, x14, x15, x16] 175)) (wr.heap.size + 1) 17 1 (some ⟨wr.heap.size, 0, none⟩) [x0, x1, x2, x3, x4, x5, x6, x7, x8, x9, x10, x11, x12, x13, x14, x15, x16] from
        ⟨rfl, fun _ => ⟨wr.heap.size, 0, rfl, Nat.lt_succ_self _, fun j u hu => (cell_of_row _ _ _ _ _ (0, 0) (heap_alloc_new wr _)).trans (by rw [Nat.zero_add, List.getElem?_toArray]; exact hu)⟩⟩)
      go_wp2_with (first
        | (refine wpl_load rfl (.tmp 25) 175 rfl _ (ptr p.g) rfl LD.out ?_)
        | (at_builtin; refine wpl_app rfl (.tmp 23) (.tmp 27) 182 rfl w.heap.size 175 i0 _ 17 392 Tryz.underlying182 hi hz0 hz1 hz2 rfl (by decide) _ k (flatP (ps.take k)) rfl (World.ownsRow.alloc O.out _) (some ⟨wr.heap.size, 0, none⟩) 1 1 [x0, x1, x2, x3, x4, x5, x6, x7, x8, x9, x10, x11, x12, x13, x14, x15, x16] rfl (wr.heap.size + 1) SQ.out ON.out (by unfold maxLen; omega) (by omega) (by simp; omega) ?_; intro v4 w4 h4 g4 o4; (have O4 := Lib.hid h4); (have B4 := Lib.hid ((B.out.alloc hsz _).grown g4 (by simp; omega) (fun j e => (World.ownsRow.lt O.out j e).1))); clear h4 g4 o4))
      rw [← NX.out] at O4
      clear O B SQ ON LD NX
      go_roundw
      case rel => exact ⟨k + 1, by go_num, by omega, O4, B4⟩
      case measure => simp [intOf]; omega
    · obtain rfl : k = n := by omega
      have OF := Lib.hid (show wr.ownsRow w.heap.size 175 17 u3 k (flatP ps) by have h := O.out; rw [List.take_of_length_le (by rw [NN.out]; exact Nat.le_refl _)] at h; exact h)
      clear O
      go_wp2
      go_ret
      exact ⟨_, rfl, by rw [NN.out]; exact OF.out, B.out⟩
set_option maxRecDepth 100000 in
theorem copied_nil (w : World) : Calls Tryz.prog 156 #[.pointer none] w fun e w' => CopyPost [] w e w' := by
  go_enter Tryz.func156, Tryz.ntmps156
  go_wp2
  go_ret
  exact ⟨_, rfl, World.ownsRow_nil _ _ _ _, Below.refl _ _⟩
/-- What All answers: a function that has the copies in its box. -/
def SAllPost (ps : List Pg) (w : World) (e : Ending) (w' : World) : Prop :=
  ∃ B u, e = .returned (.func (.func 157) #[] #[.pointer (some ⟨B, 0, none⟩)]) ∧ w.heap.size ≤ B ∧ w'.heap[B]? = some (.cells #[u] 182 (0, 0)) ∧ w'.ownsRow w.heap.size 175 17 u ps.length (flatP ps) ∧ Below w.heap.size w w'
theorem SAllPost.make {ps : List Pg} {w w2 : World} {u : Value} (ho : w2.ownsRow w.heap.size 175 17 u ps.length (flatP ps)) (hb : Below w.heap.size w w2) :
    SAllPost ps w (.returned (.func (.func 157) #[] #[.pointer (some ⟨w2.heap.size, 0, none⟩)])) (w2.alloc (.cells #[u] 182)) :=
  ⟨w2.heap.size, u, rfl, hb.size, heap_alloc_new w2 _, World.ownsRow.alloc ho _, hb.alloc hb.size _⟩
set_option maxRecDepth 100000 in
set_option maxHeartbeats 1600000 in
theorem all_walk' {base g : Nat} {v : Value} {ps : List Pg} {lim many bytes gone : Int} {w : World} (h : StR w base g v ps lim many bytes gone) (hn : ps.length ≤ 1000001) :
    Calls Tryz.prog 132 #[ptr g] w fun e w' => SAllPost ps w e w' := by
  have CW := Lib.hid (storeCopied_walk h hn)
  clear h
  go_enter Tryz.func132, Tryz.ntmps132
  go_wp2_with fail
  refine CW.out.mono ?_
  rintro e w2 ⟨u, rfl, ho, hb⟩
  have D := Lib.hid (SAllPost.make ho hb)
  have us : u.oneCell' = true ∧ ∃ A n c, u = .slice A n c := by
    rcases ho.2 with ⟨rfl, _⟩ | ⟨_, _, _, rfl, _⟩
    · exact ⟨rfl, _, _, _, rfl⟩
    · exact ⟨rfl, _, _, _, rfl⟩
  obtain ⟨_, A, n, c, rfl⟩ := us
  clear ho hb CW
  go_wp2
  go_ret
  exact D.out
set_option maxRecDepth 100000 in
set_option maxHeartbeats 1600000 in
theorem all_nil (w : World) : Calls Tryz.prog 132 #[.pointer none] w fun e w' => SAllPost [] w e w' := by
  have CW := Lib.hid (copied_nil w)
  go_enter Tryz.func132, Tryz.ntmps132
  go_wp2_with fail
  refine CW.out.mono ?_
  rintro e w2 ⟨u, rfl, ho, hb⟩
  have D := Lib.hid (SAllPost.make ho hb)
  have us : u.oneCell' = true ∧ ∃ A n c, u = .slice A n c := by
    rcases ho.2 with ⟨rfl, _⟩ | ⟨_, _, _, rfl, _⟩
    · exact ⟨rfl, _, _, _, rfl⟩
    · exact ⟨rfl, _, _, _, rfl⟩
  obtain ⟨_, A, n, c, rfl⟩ := us
  clear ho hb CW
  go_wp2
  go_ret
  exact D.out
end Go.Proofs.YtibihjcpkdfgeaaGreatDoor
namespace Go.Proofs.YtibihjcpkdfgeaaGreatDoor
open Go.RowKit
section
variable {P : Program}
/-- Nothing has turned but that blocks were laid. -/
abbrev Laid (A B : World) : Prop := Below A.heap.size A B
/-- The function value g tells N things: the k-th fits the world in which it is told; Kp: what a round must leave as it was. -/
def Tells (P : Program) (g : Nat) (lb : Array Value) (N : Nat) (Fit : Nat → Array Value → World → Prop) (Kp : World → World → Prop) (w : World) : Prop :=
  ∀ (l : Nat) (J Jx : Nat → World → Prop) (W : World), Laid w W → (∀ k A B, J k A → Laid A B → J k B) → (∀ k A B, Jx k A → Laid A B → Jx k B) →
    (∀ k x W1, k < N → J k W1 → Fit k x W1 → YieldAt Fence.wide 1 P l x W1 fun e W' => (e = .returned (.bool true) ∧ J (k + 1) W' ∧ Kp W1 W') ∨ (e = .returned (.bool false) ∧ Jx (k + 1) W')) →
    J 0 W → CallsIn Fence.wide 2 P g (#[.func (.yield l) #[] #[]] ++ lb) W fun e W' => (∃ v, e = .returned v) ∧ (J N W' ∨ ∃ k, k < N ∧ Jx (k + 1) W')
/-- How a round may be left. -/
def overPost (B : Nat) (Kp : World → World → Prop) (I : Nat → World → Prop) (Ix : Code → Nat → World → Prop) (k : Nat) (W : World) : Exit → Act → World → Prop
  | .normal, _, W' => KeepsFrom B W W' ∧ Kp W W' ∧ I k W'
  | .ret, _, W' => KeepsFrom B W W' ∧ Ix .ret k W'
  | .exit id, _, W' => KeepsFrom B W W' ∧ Ix (.exit id) k W'
  | .goto t, _, W' => KeepsFrom B W W' ∧ Ix (.goto t) k W'
  | .panic _, _, _ => False
  | .outgrown, _, _ => False
/-- What abides the turn of a block from B on that is no cells. -/
def Stays (B : Nat) (p : World → Prop) : Prop := ∀ (W : World) (l : Nat) (o o' : Obj), B ≤ l → W.heap[l]? = some o → o.isCells = false → p W → p (W.putObj l o')
def Grows (p : World → Prop) : Prop := ∀ A B, p A → Laid A B → p B

theorem wp_over {g : Operand} {ps : Array Tmp} {assign body : Code} {Q : Exit → Act → World → Prop} {a : Act} {w : World} {gf : Nat} {lb : Array Value} {N : Nat} {Fit : Nat → Array Value → World → Prop} {Kp : World → World → Prop}
    (hg : a.eval g = .func (.func gf) #[] lb) (eg : ∀ args w, (callFunc gf args).run P w = .ok (.enter gf args) w) (hT : Tells P gf lb N Fit Kp w)
    (hKt : ∀ {A B C : World}, Kp A B → Kp B C → Kp A C) (hKa : ∀ A B : World, w.heap.size ≤ A.heap.size → Laid A B → Kp A B) (hKb : ∀ (W : World) (l : Nat) (o o' : Obj), w.heap.size ≤ l → W.heap[l]? = some o → o.isCells = false → Kp W (W.putObj l o'))
    (hps : ∀ k x W, Fit k x W → x.size = ps.size) (I : Nat → World → Prop) (Ix : Code → Nat → World → Prop)
    (hI : ∀ k, Grows (I k)) (hI' : ∀ k, Stays w.heap.size (I k)) (hIx : ∀ c k, Grows (Ix c k)) (hIx' : ∀ c k, Stays w.heap.size (Ix c k)) (h0 : I 0 w)
    (hround : ∀ (l k : Nat) (x : Array Value) (W : World), k < N → w.heap.size ≤ l → (∃ o : Obj, W.heap[l]? = some o ∧ o.isCells = false) → I k W → Fit k x W →
      assign.wpIn (Fence.wide.inRound l) 1 P (Exit.then (fun a₁ W₁ => Laid W W₁ ∧ ∀ o : Obj, body.wpIn (Fence.wide.inRound l) 1 P (overPost w.heap.size Kp I Ix (k + 1) (W₁.putObj l o)) a₁ (W₁.putObj l o)) (fun _ _ _ => False))
        { tmps := (ps.zip x).foldl (fun t (p, v) => t.setIfInBounds p v) a.tmps, defers := [] } W)
    (hdone : ∀ (D : Nat) (W : World), w.heap.size ≤ D → I N W → W.heap[D]? = some (.deferred (some [])) → Q .normal { a with defers := { target := .collected D, args := #[] } :: a.defers } W)
    (hstop : ∀ (D k : Nat) (c : Code) (W : World), w.heap.size ≤ D → k < N → Ix c (k + 1) W → W.heap[D]? = some (.deferred (some [])) → c.wp P Q { a with defers := { target := .collected D, args := #[] } :: a.defers } W) :
    (Code.rangeFunc g ps assign body).wp P Q a w := by
  refine (wpIn_wide (n := 3)).1 (wpIn_rangeFunc fun fn hfn => ?_)
  obtain ⟨S, hS⟩ : ∃ S, w.heap.size = S := ⟨_, rfl⟩
  -- the record, in its states; the two blocks that the statement lays
  obtain ⟨rc, hrc⟩ : ∃ rc : LoopState → Option Code → Loop, rc = fun st pe => { state := st, pending := pe, fn, tmps := a.tmps, params := ps, assign, body, defers := w.heap.size } := ⟨_, rfl⟩
  have hwith : ∀ (st st' : LoopState) (pe pe' : Option Code), ({ rc st pe with state := st', pending := pe' } : Loop) = rc st' pe' := fun _ _ _ _ => by rw [hrc]
  have hbegin : ({ rc .ready none with state := .busy } : Loop) = rc .busy none := by rw [hrc]
  have hstate : ∀ st pe, (rc st pe).state = st ∧ (rc st pe).pending = pe := fun _ _ => by rw [hrc]; exact ⟨rfl, rfl⟩
  have hend : ∀ st pe, ({ rc st pe with state := .exhausted } : Loop) = rc .exhausted pe := fun _ _ => by rw [hrc]
  let At (st : LoopState) (pe : Option Code) (W : World) : Prop := W.heap[S + 1]? = some (.loop (rc st pe)) ∧ W.heap[S]? = some (.deferred (some []))
  have hAtG : ∀ {st pe A B}, At st pe A → Laid A B → At st pe B := fun h hb =>
    ⟨(hb.block _ (Array.getElem?_eq_some_iff.1 h.1).1).trans h.1, (hb.block _ (Array.getElem?_eq_some_iff.1 h.2).1).trans h.2⟩
  have hPut : ∀ {st pe W} (st' : LoopState) (pe' : Option Code), At st pe W → At st' pe' (W.putObj (S + 1) (.loop (rc st' pe'))) := fun st' pe' h =>
    ⟨World.putObj_heap_same (Array.getElem?_eq_some_iff.1 h.1).1, (World.putObj_heap_other (by omega)).trans h.2⟩
  have hAtK : ∀ {st pe A B}, At st pe A → KeepsFrom S A B → At st pe B := fun h hk => ⟨hk.same _ _ (by omega) h.1 rfl, hk.same _ _ (Nat.le_refl _) h.2 rfl⟩
  obtain ⟨W1, hW1⟩ : ∃ W1, (w.alloc (.deferred (some []))).alloc (.loop (rc .ready none)) = W1 := ⟨_, rfl⟩
  have hL : Laid w W1 := by rw [← hW1]; exact ((Below.refl _ w).alloc (Nat.le_refl _) _).alloc (by simp) _
  have h1 : At .ready none W1 := by
    constructor
    · rw [← hW1, ← hS]
      have := World.alloc_heap_new (w.alloc (.deferred (some []))) (.loop (rc .ready none))
      rwa [World.size_alloc] at this
    · rw [← hW1, ← hS]
      exact (Below.heap_alloc _ _ _ (by simp)).trans (World.alloc_heap_new w _)
  refine ⟨w.heap.size + 1, [{ target := .collected w.heap.size, args := #[] }], W1, { target := .fn (.func gf) lb, args := #[.func (.yield (w.heap.size + 1)) #[] #[]] }, W1, gf, #[.func (.yield (w.heap.size + 1)) #[] #[]] ++ lb, W1,
    by rw [← hW1, hrc]; exact run_enterLoop_outer _ _ _ _ _, by simp only [resolve, hg]; simp [go_sem], fun f' hf' => trivial, by simp [invoke, go_sem, eg], (fun _ => by decide), ?_⟩
  rw [hS] at hKa hKb hI' hIx' hround hdone hstop ⊢
  have big : ∀ {st pe W}, At st pe W → S ≤ W.heap.size := fun h => by have := (Array.getElem?_eq_some_iff.1 h.2).1; omega
  refine (hT (S + 1) (fun k W => I k W ∧ At .ready none W) (fun k W => ∃ c, Ix c k W ∧ At .done (some c) W) W1 hL
    (fun k A B h hb => ⟨hI k A B h.1 hb, hAtG h.2 hb⟩) (fun k A B h hb => by obtain ⟨c, h1, h2⟩ := h; exact ⟨c, hIx c k A B h1 hb, hAtG h2 hb⟩) ?_ ⟨hI 0 _ _ h0 hL, h1⟩).mono ?_
  · rintro k x W hk ⟨hi, hat⟩ hf
    have hy := run_yield (P := P) (args := x) hat.1 (by rw [hrc]; exact hps k x W hf)
    rw [hrc] at hy
    refine ⟨fn, _, assign, body, hy, roundIn_of_wpIn hfn (wpIn_mono (hround _ k x W hk (by omega) ⟨_, hat.1, rfl⟩ hi hf) ?_)⟩
    rintro e a₁ W2 hp
    cases e with
    | normal => ?_
    | ret => exact hp.elim
    | exit id => exact hp.elim
    | goto t => exact hp.elim
    | panic _ => exact hp.elim
    | outgrown => exact hp.elim
    obtain ⟨hL2, hbody⟩ := hp
    have hat2 := hAtG hat hL2
    refine ⟨_, run_beginRound hat2.1 (hstate _ _).1, ?_⟩
    rw [hbegin]
    have hat3 : At .busy none (W2.putObj (S + 1) (.loop (rc .busy none))) := hPut .busy none hat2
    have hK3 : Kp W (W2.putObj (S + 1) (.loop (rc .busy none))) := hKt (hKa _ _ (big hat) hL2) (hKb _ _ _ _ (by omega) hat2.1 rfl)
    refine wpIn_mono (hbody (.loop (rc .busy none))) ?_
    have fin : ∀ (jump : Option Code) (W3 : World), KeepsFrom S (W2.putObj (S + 1) (.loop (rc .busy none))) W3 →
        At .busy none W3 ∧ (Instr.endRound (S + 1) jump).run P W3 = .ok (.bool jump.isNone) (W3.putObj (S + 1) (.loop (rc (if jump.isNone then .ready else .done) jump))) := fun jump W3 hk3 => by
      have h3 := hAtK hat3 hk3
      have := run_endRound (P := P) jump h3.1
      rw [hwith] at this
      exact ⟨h3, this⟩
    rintro e a3 W3 hp
    cases e with
    | normal =>
      obtain ⟨hk3, hkp, hi3⟩ := hp
      obtain ⟨h3, hr⟩ := fin none W3 hk3
      exact ⟨_, _, hr, .inl ⟨rfl, ⟨hI' _ _ _ _ _ (by omega) h3.1 rfl hi3, hPut .ready none h3⟩, hKt (hKt hK3 hkp) (hKb _ _ _ _ (by omega) h3.1 rfl)⟩⟩
    | ret =>
      obtain ⟨hk3, hi3⟩ := hp
      obtain ⟨h3, hr⟩ := fin (some .ret) W3 hk3
      exact ⟨_, _, hr, .inr ⟨rfl, .ret, hIx' _ _ _ _ _ _ (by omega) h3.1 rfl hi3, hPut .done _ h3⟩⟩
    | exit id =>
      obtain ⟨hk3, hi3⟩ := hp
      obtain ⟨h3, hr⟩ := fin (some (.exit id)) W3 hk3
      exact ⟨_, _, hr, .inr ⟨rfl, .exit id, hIx' _ _ _ _ _ _ (by omega) h3.1 rfl hi3, hPut .done _ h3⟩⟩
    | goto t =>
      obtain ⟨hk3, hi3⟩ := hp
      obtain ⟨h3, hr⟩ := fin (some (.goto t)) W3 hk3
      exact ⟨_, _, hr, .inr ⟨rfl, .goto t, hIx' _ _ _ _ _ _ (by omega) h3.1 rfl hi3, hPut .done _ h3⟩⟩
    | panic _ => exact hp.elim
    | outgrown => exact hp.elim
  · have leave : ∀ {st pe W2}, At st pe W2 → st ≠ .busy → (Instr.endLoop (S + 1)).run P W2 = .ok pe (W2.putObj (S + 1) (.loop (rc .exhausted pe))) ∧ (W2.putObj (S + 1) (.loop (rc .exhausted pe))).heap[S]? = some (.deferred (some [])) := fun {st pe W2} h hb => by
      have := run_endLoop (P := P) h.1 (by rw [(hstate _ _).1]; exact hb)
      rw [hend, (hstate _ _).2] at this
      exact ⟨this, (World.putObj_heap_other (by omega)).trans h.2⟩
    rintro e W2 ⟨⟨v, rfl⟩, ⟨hi, hat⟩ | ⟨k, hk, c, hi, hat⟩⟩
    · obtain ⟨hr, hd⟩ := leave hat (by simp)
      exact ⟨none, _, hr, hdone S _ (Nat.le_refl _) (hI' _ _ _ _ _ (by omega) hat.1 rfl hi) hd⟩
    · obtain ⟨hr, hd⟩ := leave hat (by simp)
      exact ⟨some c, _, hr, wpIn_wide.2 (hstop S k c _ (Nat.le_refl _) hk (hIx' _ _ _ _ _ _ (by omega) hat.1 rfl hi) hd)⟩
end
end Go.Proofs.YtibihjcpkdfgeaaGreatDoor
namespace Go.Proofs.YtibihjcpkdfgeaaGreatDoor
open Go.ChangeShapes Go.WideShapes Go.ChangeAt Go.RowKit Go.Shelf
attribute [local go_sem] Oper.semAt_some

/-- What the function of All reads: the box with the copies, the copies, the rows' bytes, the table of widths. -/
structure Src2 (Bx : Nat) (u : Value) (ps : List Pg) (W : World) : Prop where
  sp : Spans W
  box : W.heap[Bx]? = some (.cells #[u] 182 (0, 0))
  own : W.ownsRow 0 175 17 u ps.length (flatP ps)
  pg : ∀ p ∈ ps, p.vs.length = p.rows.length ∧ p.rows.length ≤ 16 ∧ (∀ (i : Nat) (v : Value) (r : PRow), p.vs[i]? = some v → p.rows[i]? = some r → HasB W 0 v (putL r.1 r.2)) ∧ ∀ r ∈ p.rows, mayL r.2 = true ∧ ∀ c ∈ r.2, -2147483648 ≤ c.1 ∧ c.1 ≤ 2147483647
namespace Src2
variable {Bx : Nat} {u : Value} {ps : List Pg} {W W' : World}
theorem turned {M : Nat → Prop} (h : Src2 Bx u ps W) (ht : Turned M W W') (hs : Spans W') (h1 : ∀ j, M j → ¬ Typed W 182 j) (h2 : ∀ j, M j → ¬ Typed W 175 j) (h3 : ∀ j, M j → ¬ Typed W 5 j) : Src2 Bx u ps W' := by
  refine ⟨hs, (ht.block Bx (Array.getElem?_eq_some_iff.1 h.box).1 (fun m => h1 _ m ⟨_, _, h.box⟩)).trans h.box, ⟨h.own.1, ?_⟩, fun p hp => ?_⟩
  · rcases h.own.2 with e | ⟨g, cap, cur, e, e2, e3, r⟩
    · exact .inl e
    · exact .inr ⟨g, cap, cur, e, e2, (ht.block g (Array.getElem?_eq_some_iff.1 e3).1 (fun m => h2 _ m ⟨_, _, e3⟩)).trans e3, r⟩
  · obtain ⟨a, b, c, d⟩ := h.pg p hp
    exact ⟨a, b, fun i v r hv hr => (c i v r hv hr).turned ht h3, d⟩
theorem laid (h : Src2 Bx u ps W) (hb : Laid W W') : Src2 Bx u ps W' := h.turned (M := fun _ => False) (Turned.ofBelow hb _) (h.sp.below hb h.sp.size) (fun _ h => h.elim) (fun _ h => h.elim) (fun _ h => h.elim)
end Src2
theorem flatP_get : ∀ (ps : List Pg) (k : Nat) (p : Pg), (∀ q ∈ ps, (pageCells q.vs).length = 17) → ps[k]? = some p → ∀ j, j < 17 → (flatP ps)[k * 17 + j]? = (pageCells p.vs)[j]?
  | [], k, p, _, h, _, _ => by simp at h
  | q :: ps, 0, p, hl, h, j, hj => by
    simp at h
    subst h
    unfold flatP
    rw [List.flatMap_cons, Nat.zero_mul, Nat.zero_add, List.getElem?_append_left (by rw [hl q (by simp)]; exact hj)]
  | q :: ps, k + 1, p, hl, h, j, hj => by
    have ih := flatP_get ps k p (fun q' hq => hl q' (by simp [hq])) (by simpa using h) j hj
    unfold flatP at ih ⊢
    rw [List.flatMap_cons, List.getElem?_append_right (by rw [hl q (by simp)]; omega), hl q (by simp), show (k + 1) * 17 + j - 17 = k * 17 + j by omega]
    exact ih
namespace Src2
variable {Bx : Nat} {u : Value} {ps : List Pg} {W W' : World}
/-- One of the copies. -/
theorem page (h : Src2 Bx u ps W) {k : Nat} {p : Pg} (hp : ps[k]? = some p) : ∃ b cap, u = .slice (some ⟨b, 0, none⟩) ps.length cap ∧ PageRd W 0 b (k * 17) p.vs p.rows := by
  have hk := (List.getElem?_eq_some_iff.1 hp).1
  have h17 : ∀ q ∈ ps, (pageCells q.vs).length = 17 := fun q hq => by
    obtain ⟨a, b, _⟩ := h.pg q hq
    exact pageCells_len (by omega)
  rcases h.own.2 with ⟨_, e⟩ | ⟨b, cap, cur, e, _, e3, hc, _, hsz, htake⟩
  · omega
  · obtain ⟨a1, a2, a3, a4⟩ := h.pg p (List.mem_of_getElem? hp)
    refine ⟨b, cap, e, fun j hj => ?_, (Array.getElem?_eq_some_iff.1 e3).1, a1, a2, a3, a4⟩
    rw [cell_of_row W b _ _ _ (0, 0) e3, ← flatP_get ps k p h17 hp j hj, ← htake, List.getElem?_take, if_pos (by
      have : k + 1 ≤ ps.length := hk
      have := Nat.mul_le_mul_right 17 this
      omega)]
    simp
/-- Out of what All leaves. -/
theorem of_all {base g : Nat} {v : Value} {lim many bytes gone : Int} {w w' : World} {B : Nat} {u : Value} (hs : Spans w) (h : StR w base g v ps lim many bytes gone) (hbox : w'.heap[B]? = some (.cells #[u] 182 (0, 0))) (ho : w'.ownsRow w.heap.size 175 17 u ps.length (flatP ps)) (hb : Below w.heap.size w w') : Src2 B u ps w' :=
  ⟨hs.below hb hs.size, hbox, ⟨ho.1, ho.2.imp id fun ⟨g, cap, cur, e, _, r⟩ => ⟨g, cap, cur, e, Nat.zero_le _, r⟩⟩, fun p hp => by
    have hp' := (h.page p hp).below hb
    exact ⟨hp'.many, hp'.few, fun i v r hv hr => (hp'.row i v r hv hr).1.mono' (Nat.zero_le _), hp'.may⟩⟩
end Src2
/-- What is told as the k-th: its number, and the row in memory of its own. -/
def FitR (S : Nat) (R : List PRow) (k : Nat) (x : Array Value) (W : World) : Prop := ∃ v r, x = #[.int .i64 (k : Int), .agg #[v, .bool r.1]] ∧ R[k]? = some r ∧ HasC W S v r.2
/-- Between two rounds, so many rows having been told. -/
structure ItAt (Bx : Nat) (u : Value) (ps : List Pg) (S : Nat) (J : Nat → World → Prop) (c : Nat) (W : World) : Prop where
  src : Src2 Bx u ps W
  inv : J c W
  big : S ≤ W.heap.size
theorem allRows_at {ps : List Pg} {k i : Nat} {p : Pg} {r : PRow} (hp : ps[k]? = some p) (hr : p.rows[i]? = some r) : (allRows ps)[(allRows (ps.take k)).length + i]? = some r := by
  have h1 := (List.getElem?_eq_some_iff.1 hp).1
  have h2 : ps = ps.take k ++ p :: ps.drop (k + 1) := by
    conv => lhs; rw [← List.take_append_drop k ps]
    rw [List.drop_eq_getElem_cons h1, (List.getElem?_eq_some_iff.1 hp).2]
  have h3 : allRows ps = allRows (ps.take k) ++ (p.rows ++ allRows (ps.drop (k + 1))) := by
    conv => lhs; rw [h2]
    rw [allRows_append, allRows_cons]
  rw [h3, List.getElem?_append_right (by omega), Nat.add_sub_cancel_left, List.getElem?_append_left (List.getElem?_eq_some_iff.1 hr).1]
  exact hr
theorem allRows_take_next {ps : List Pg} {k : Nat} {p : Pg} (hp : ps[k]? = some p) : (allRows (ps.take (k + 1))).length = (allRows (ps.take k)).length + p.rows.length := by
  obtain ⟨h1, h2⟩ := List.getElem?_eq_some_iff.1 hp
  rw [List.take_succ_eq_append_getElem h1, h2, allRows_append, allRows_cons, allRows_nil, List.append_nil, List.length_append]
set_option maxRecDepth 100000 in
theorem yield_not_nil (l : Nat) (w : World) : (binOp .eql 184 (.func (.yield l) #[] #[]) .nilFunc).run Tryz.prog w = .ok (.bool false) w := by first | rfl | kernel_rfl
set_option maxRecDepth 100000 in
set_option maxHeartbeats 6400000 in
theorem all1_tells {Bx : Nat} {u : Value} {ps : List Pg} {Kp : World → World → Prop} {S : Nat} {w : World} (h : Src2 Bx u ps w) (hS : S ≤ w.heap.size) (hKp : ∀ A B, Kp A B → Src2 Bx u ps A → Src2 Bx u ps B ∧ A.heap.size ≤ B.heap.size) (hn : ps.length ≤ 1000001) (hN : (allRows ps).length ≤ 1000001) :
    Tells Tryz.prog 157 #[.pointer (some ⟨Bx, 0, none⟩)] (allRows ps).length (FitR S (allRows ps)) Kp w := by
  intro l J Jx W hL hJ hJx hY h0
  obtain ⟨n, hnn⟩ : ∃ n, ps.length = n := ⟨_, rfl⟩
  obtain ⟨A, c, hu⟩ : ∃ A c, u = .slice A n c := by
    rcases h.own.2 with ⟨e, e2⟩ | ⟨b, cap, cur, e, _⟩
    · exact ⟨_, _, by rw [e, ← hnn, e2]⟩
    · exact ⟨_, _, by rw [e, ← hnn]⟩
  have I0 := Lib.hid (ItAt.mk (J := J) (c := 0) (h.laid hL) h0 (Nat.le_trans hS hL.size))
  have c0 : W.cell? ⟨Bx, 0, none⟩ = some (.slice A n c) := by rw [← hu]; exact cell_of_row _ _ 0 _ _ (0, 0) (h.laid hL).box
  have YH := Lib.hid hY
  have JH := Lib.hid (And.intro hJ hJx)
  have UH := Lib.hid hu
  have NH := Lib.hid hnn
  have KH := Lib.hid hKp
  have TH := Lib.hid hN
  rw [hnn] at hn
  clear hY hJ hJx hu hnn hKp hN h hL h0
  refine callsIn_of_wp Tryz.func157 rfl trivial ?_ rfl
  simp only [Tryz.ntmps157, List.size_toArray, List.length_cons, List.length_nil, Nat.reduceAdd, Nat.reduceSub, Array.replicate_succ, Array.replicate_zero, List.push_toArray, List.append_toArray, List.nil_append, List.cons_append]
  have yn := yield_not_nil l
  gi_wp2
  gi_loopw [3, 12] (fun t i wr => ∃ k c : Nat, t = .int .i64 c ∧ i = .int .i64 k ∧ k ≤ n ∧ Hid (c = (allRows (ps.take k)).length) ∧ Hid (ItAt Bx u ps S J c wr)) (fun _ i _ => n - (intOf i).toNat)
  case atStart => exact ⟨0, 0, rfl, rfl, Nat.zero_le _, Lib.hid rfl, I0⟩
  case round =>
    obtain ⟨k, c1, rfl, rfl, hk, C, I⟩ := hrel
    clear I0 c0
    have c0 : wr.cell? ⟨Bx, 0, none⟩ = some (.slice A n c) := by rw [← UH.out]; exact cell_of_row _ _ 0 _ _ (0, 0) I.out.src.box
    by_cases hlt : k < n
    · obtain ⟨p, hp⟩ : ∃ p, ps[k]? = some p := ⟨_, List.getElem?_eq_getElem (by rw [NH.out]; exact hlt)⟩
      obtain ⟨b, cap, e', hrd⟩ := I.out.src.page hp
      rw [UH.out] at e'
      injection e' with e1 e3 e4
      subst e1
      clear e3 e4
      obtain ⟨m, hm⟩ : ∃ m, p.rows.length = m := ⟨_, rfl⟩
      have LW := Lib.hid (pageLen_rd hrd)
      rw [hm] at LW
      have hm16 : m ≤ 16 := by rw [← hm]; exact hrd.few
      have PH := Lib.hid hp
      have MH := Lib.hid hm
      have CT := Lib.hid (show c1 + m ≤ (allRows ps).length by
        rw [C.out, ← hm, ← allRows_take_next hp]
        have h1 := congrArg List.length (allRows_append (ps.take (k + 1)) (ps.drop (k + 1)))
        rw [List.take_append_drop, List.length_append] at h1
        omega)
      have hcm : c1 + m ≤ 1000001 := Nat.le_trans CT.out TH.out
      clear hp hm hrd
      gi_wp2_with (refine ⟨trivial, ?_⟩; gi_at_call 153; refine (callsIn_wide.2 LW.out).mono ?_; rintro e w2 ⟨rfl, rfl⟩)
      gi_loopw [3, 19] (fun t i wx => ∃ j : Nat, t = .int .i64 (c1 + j : Nat) ∧ i = .int .i64 j ∧ j ≤ m ∧ Hid (ItAt Bx u ps S J (c1 + j) wx)) (fun _ i _ => m - (intOf i).toNat)
      case atStart => exact ⟨0, rfl, rfl, Nat.zero_le _, I⟩
      case round =>
        obtain ⟨j, rfl, rfl, hj, I2⟩ := hrel
        clear LW I c0
        have c0 : wr.cell? ⟨Bx, 0, none⟩ = some (.slice (some ⟨b, 0, none⟩) n c) := by rw [← UH.out]; exact cell_of_row _ _ 0 _ _ (0, 0) I2.out.src.box
        by_cases hjm : j < m
        · obtain ⟨r, hr⟩ : ∃ r, p.rows[j]? = some r := ⟨_, List.getElem?_eq_getElem (by rw [MH.out]; exact hjm)⟩
          obtain ⟨b', cap', e', hrd⟩ := I2.out.src.page PH.out
          rw [UH.out] at e'
          injection e' with e1 e3 e4
          injection e1 with e1
          injection e1 with e1 _ _
          subst e1
          clear e3 e4
          have AW := Lib.hid (pageAt_rd 0 b (k * 17) p.vs p.rows j r wr I2.out.src.sp hrd hr)
          have RH := Lib.hid (show (allRows ps)[c1 + j]? = some r by rw [C.out]; exact allRows_at PH.out hr)
          have LT := Lib.hid (show c1 + j < (allRows ps).length by have := CT.out; omega)
          have GO := Lib.hid (show ∀ w3 v3, HasC w3 wr.heap.size v3 r.2 → Below wr.heap.size wr w3 → ItAt Bx u ps S J (c1 + j) (w3.alloc (.cells #[v3, .bool r.1] 53)) ∧ FitR S (allRows ps) (c1 + j) #[.int .i64 ((c1 : Int) + (j : Int)), .agg #[v3, .bool r.1]] (w3.alloc (.cells #[v3, .bool r.1] 53)) from fun w3 v3 h3 b3 => by
            have bb : Laid wr (w3.alloc (.cells #[v3, .bool r.1] 53)) := b3.alloc b3.size _
            exact ⟨⟨I2.out.src.laid bb, JH.out.1 _ _ _ I2.out.inv bb, Nat.le_trans I2.out.big bb.size⟩, v3, r, by rw [Int.natCast_add], RH.out, World.ownsRow.alloc (HasC.mono h3 I2.out.big) _⟩)
          clear hr hrd I2
          gi_wp2_with (refine ⟨trivial, ?_⟩; gi_at_call 129; refine (callsIn_wide.2 AW.out).mono ?_; rintro e w3 ⟨v3, rfl, h3, b3⟩; simp only [Option.elim_some, Option.isSome_some] at h3 ⊢; obtain ⟨g4, f4⟩ := GO.out w3 v3 h3 b3; (obtain ⟨A3, d3, rfl, _⟩ := HasC.shape h3); (obtain ⟨fn, tmps, assign, body, hy, hR⟩ := YH.out _ _ _ LT.out g4.inv f4); (have G4 := Lib.hid g4); (have R4 := Lib.hid hR); clear h3 b3 g4 f4 hR AW GO)
          refine R4.out.mono ?_
          rintro e W5 (⟨rfl, hJ5, hk5⟩ | ⟨rfl, hJx5⟩)
          · have I5 := Lib.hid (ItAt.mk (S := S) (KH.out _ _ hk5 G4.out.src).1 hJ5 (Nat.le_trans G4.out.big (KH.out _ _ hk5 G4.out.src).2))
            clear hJ5 hk5 hy R4 G4
            gi_wp2
            go_roundw
            case rel => exact ⟨j + 1, by go_num, by go_num, by omega, I5⟩
            case measure => simp [intOf]; omega
          · have DX := Lib.hid hJx5
            clear hJx5 hy R4 G4
            gi_wp2
            refine bodyPost_ret (results_none rfl _ _ _) rfl ?_
            exact ⟨⟨_, rfl⟩, .inr ⟨_, LT.out, DX.out⟩⟩
        · obtain rfl : j = m := by omega
          have CN := Lib.hid (show c1 + j = (allRows (ps.take (k + 1))).length by rw [C.out, allRows_take_next PH.out, MH.out])
          gi_wp2
          go_roundw
          case rel => exact ⟨k + 1, c1 + j, by go_num, by go_num, by omega, CN, I2⟩
          case measure => simp [intOf]; omega
    · obtain rfl : k = n := by omega
      have DN := Lib.hid (show J (allRows ps).length wr by
        have h := I.out.inv
        rw [C.out, List.take_of_length_le (by rw [NH.out]; exact Nat.le_refl _)] at h
        exact h)
      gi_wp2
      go_end0
      exact ⟨⟨_, rfl⟩, .inl DN.out⟩
end Go.Proofs.YtibihjcpkdfgeaaGreatDoor
