import Derived.Test.YtgcfpfhmjhkgnaaGreatDoorQBase4
import Derived.Laws.CopyOwn
import Derived.Lib.SliceRun
set_option maxRecDepth 100000
set_option maxHeartbeats 3200000
namespace Go.Proofs.YtgcfpfhmjhkgnaaGreatDoor
open Go.ChangeShapes Go.WideShapes Go.ChangeAt Go.RowKit
def ClonePost (xs : List Int) (w : World) (e : Ending) (w' : World) : Prop := ∃ v, e = .returned v ∧ HasB w' w.heap.size v xs ∧ Below w.heap.size w w'
theorem byte_all (l : List Int) : ∀ u ∈ l.map (Value.int .u8), u.oneCell' = true := by
 intro u hu
 obtain ⟨x, _, rfl⟩ := List.mem_map.1 hu
 rfl
theorem clone_walk (A : Option Addr) (n c : Nat) (xs : List Int) (w : World) {B : Nat} (hq : Sq w B 1 n A (xs.map (Value.int .u8))) (hB : B ≤ w.heap.size) (hn : n ≤ 1000000) :
  Calls Tryz.prog 120 #[.slice A n c] w fun e w' => ClonePost xs w e w' := by
 obtain ⟨i0, hi, hz0, hz1, hz2⟩ := info_parts infoByte
 have hl := hq.size_ints
 have q22 : ∀ (w : World) (a : Option Addr) (n c n' c' : Nat), (binOp .eql 60 (.slice a n c) (.slice none n' c')).run Tryz.prog w = .ok (.bool a.isNone) w := fun w a n c n' c' => Lib.run_eql_slice_nil w _ _ a n c n' c' Tryz.underlying60
 rcases A with _ | ad
 ·have h0 : n = 0 := by
   rcases Nat.eq_zero_or_pos n with h0 | h0
   ·exact h0
   ·obtain ⟨_, _, e, _⟩ := hq.spot h0
    cases e
  have e : xs = [] := List.eq_nil_of_length_eq_zero (by omega)
  subst e
  clear hl hq
  go_enter Tryz.func120, Tryz.ntmps120
  go_wp2
  go_ret
  exact ⟨_, rfl, HasB.nothing _ _, Below.refl _ _⟩
 ·have QQ := Lib.hid (hq.alloc hB (.cells #[] 5))
  have LH := Lib.hid hl
  clear hq hl
  go_enter Tryz.func120, Tryz.ntmps120
  go_wp2_with (
   at_builtin
   refine wpl_app rfl _ _ 60 rfl w.heap.size 5 i0 (.int .u8 0) 1 1 Tryz.underlying60 hi hz0 hz1 hz2 rfl (by decide) (.slice (some ⟨w.heap.size, 0, none⟩) 0 0) 0 [] rfl (World.ownsRow_made w #[] 0 (Nat.le_refl _) (Nat.zero_le _) rfl) (some ad) n c (xs.map (Value.int .u8)) rfl B QQ.out (byte_all _) (by unfold maxLen; omega) (by omega) (by simp) ?_
   intro v1 w1 hown hg _
   have HO := Lib.hid (show HasB w1 w.heap.size v1 xs by unfold HasB; rw [LH.out]; simpa using hown)
   have HB := Lib.hid (((Below.refl w.heap.size w).alloc (Nat.le_refl _) (.cells #[] 5)).grown hg (by simp) (fun k e => by simp [Value.ownBlock] at e; omega))
   clear hown hg)
  go_ret
  exact ⟨_, rfl, HO.out, HB.out⟩
abbrev PRow := Bool × List Cel
def pageCells (vs : List Value) : List Value := vs ++ (List.replicate (16 - vs.length) (.slice none 0 0) ++ [.int .i64 (vs.length : Int)])
structure PageAt (w : World) (base g : Nat) (vs : List Value) (rows : List PRow) : Prop where
 cells : w.heap[g]? = some (.cells (pageCells vs).toArray 141 (0, 0))
 from' : base ≤ g
 many : vs.length = rows.length
 few : rows.length ≤ 16
 row : ∀ (i : Nat) (v : Value) (r : PRow), vs[i]? = some v → rows[i]? = some r → HasB w base v (putL r.1 r.2) ∧ v.ownBlock ≠ some g
 may : ∀ r ∈ rows, mayL r.2 = true ∧ ∀ c ∈ r.2, -2147483648 ≤ c.1 ∧ c.1 ≤ 2147483647
theorem pageCells_many (vs : List Value) (h : vs.length ≤ 16) : (pageCells vs)[16]? = some (.int .i64 (vs.length : Int)) := by
 unfold pageCells
 rw [List.getElem?_append_right h, List.getElem?_append_right (by simp), List.length_replicate]
 simp
theorem pageCells_row (vs : List Value) {i : Nat} {v : Value} (h : vs[i]? = some v) : (pageCells vs)[i]? = some v := by
 unfold pageCells
 rw [List.getElem?_append_left (List.getElem?_eq_some_iff.1 h).1]
 exact h
theorem PageAt.get {w : World} {base g : Nat} {vs : List Value} {rows : List PRow} (h : PageAt w base g vs rows) (j : Nat) : w.cell? ⟨g, j, none⟩ = (pageCells vs)[j]? := by
 rw [cell_of_row w g j _ _ (0, 0) h.cells]
 simp
theorem PageAt.lt {w : World} {base g : Nat} {vs : List Value} {rows : List PRow} (h : PageAt w base g vs rows) : g < w.heap.size := (Array.getElem?_eq_some_iff.1 h.cells).1
theorem pageLen_walk (base g : Nat) (vs : List Value) (rows : List PRow) (w : World) (h : PageAt w base g vs rows) :
  Calls Tryz.prog 121 #[.pointer (some ⟨g, 0, none⟩)] w fun e w' => e = .returned (.int .i64 (rows.length : Int)) ∧ w = w' := by
 have hm : w.cell? ⟨g, 16, none⟩ = some (.int .i64 (rows.length : Int)) := by rw [h.get, pageCells_many _ (by rw [h.many]; exact h.few), h.many]
 clear h
 go_enter Tryz.func121, Tryz.ntmps121
 go_wp2
 go_ret
 exact ⟨rfl, rfl⟩
def NewPost (w : World) (e : Ending) (w' : World) : Prop := e = .returned (.pointer (some ⟨w.heap.size, 0, none⟩)) ∧ PageAt w' w.heap.size w.heap.size [] [] ∧ Below w.heap.size w w' ∧ w'.heap.size = w.heap.size + 1
theorem pageNew_walk (w : World) : Calls Tryz.prog 91 #[] w fun e w' => NewPost w e w' := by
 go_enter Tryz.func91, Tryz.ntmps91
 go_wp2
 go_ret
 refine ⟨rfl, ⟨heap_alloc_new w _, Nat.le_refl _, rfl, Nat.zero_le _, (fun i v r h => by simp at h), (fun r h => by cases h)⟩, (Below.refl _ _).alloc (Nat.le_refl _) _, by simp⟩
def bytesN (rows : List PRow) : Nat := (rows.map fun r => (putL r.1 r.2).length).sum
theorem bytesN_next {rows : List PRow} {k : Nat} {r : PRow} (h : rows[k]? = some r) : bytesN (rows.take (k + 1)) = bytesN (rows.take k) + (putL r.1 r.2).length := by
 obtain ⟨h1, h2⟩ := List.getElem?_eq_some_iff.1 h
 unfold bytesN
 rw [List.take_succ_eq_append_getElem h1, h2]
 simp
theorem bytesN_le : ∀ (rows : List PRow), (∀ r ∈ rows, (putL r.1 r.2).length ≤ 12010) → bytesN rows ≤ 12010 * rows.length
 | [], _ => by simp [bytesN]
 | r :: rows, h => by
  have h1 := h r (by simp)
  have h2 := bytesN_le rows (fun x hx => h x (by simp [hx]))
  unfold bytesN at h2 ⊢
  simp only [List.map_cons, List.sum_cons, List.length_cons]
  omega
theorem PageAt.len_row {w : World} {base g : Nat} {vs : List Value} {rows : List PRow} (h : PageAt w base g vs rows) : ∀ r ∈ rows, (putL r.1 r.2).length ≤ 12010 := fun r hr => by
 obtain ⟨h1, h2⟩ := mayL_small (fun c hc => ((h.may r hr).2 c hc).2) (h.may r hr).1
 exact putL_len h1 h2
theorem pageBytes_walk (base g : Nat) (vs : List Value) (rows : List PRow) (w : World) (h : PageAt w base g vs rows) :
  Calls Tryz.prog 100 #[.pointer (some ⟨g, 0, none⟩)] w fun e w' => e = .returned (.int .i64 (bytesN rows : Int)) ∧ w = w' := by
 have LW := Lib.hid (pageLen_walk base g vs rows w h)
 have H := Lib.hid h
 have hn := h.few
 obtain ⟨n, hnn⟩ : ∃ n, rows.length = n := ⟨_, rfl⟩
 rw [hnn] at LW hn
 have NH := Lib.hid hnn
 have BL := Lib.hid (fun (k : Nat) => (show bytesN (rows.take k) ≤ 200000 by
  have h1 := bytesN_le (rows.take k) (fun r hr => H.out.len_row r (List.mem_of_mem_take hr))
  have h2 := List.length_take_le k rows
  have h3 := H.out.few
  have h4 : (rows.take k).length ≤ 16 := by rw [List.length_take]; omega
  omega))
 clear h hnn
 go_enter Tryz.func100, Tryz.ntmps100
 go_wp2_with fail
 refine LW.out.mono ?_
 rintro e w' ⟨rfl, rfl⟩
 go_wp2_with fail
 go_loop [3, 7] (fun t i => ∃ k : Nat, t = .int .i64 (bytesN (rows.take k) : Int) ∧ i = .int .i64 k ∧ k ≤ n) (fun _ i => n - (intOf i).toNat)
 case atStart => exact ⟨0, rfl, rfl, Nat.zero_le _⟩
 case round =>
  obtain ⟨k, rfl, rfl, hk⟩ := hrel
  have hbk := BL.out k
  obtain ⟨t, ht⟩ : ∃ t, bytesN (rows.take k) = t := ⟨_, rfl⟩
  rw [ht] at hbk ⊢
  have TH := Lib.hid ht
  clear ht
  by_cases hlt : k < n
  ·obtain ⟨r, hr⟩ : ∃ r, rows[k]? = some r := ⟨_, List.getElem?_eq_getElem (by have := NH.out; omega)⟩
   obtain ⟨v, hv⟩ : ∃ v, vs[k]? = some v := ⟨_, List.getElem?_eq_getElem (by have := NH.out; have := H.out.many; omega)⟩
   have hrow := (H.out.row k v r hv hr).1
   obtain ⟨A, c, rfl⟩ := hrow.shape
   obtain ⟨m, hm⟩ : ∃ m, (putL r.1 r.2).length = m := ⟨_, rfl⟩
   have hm6 := H.out.len_row r (List.mem_of_getElem? hr)
   have hc : w.cell? ⟨g, k, none⟩ = some (.slice A m c) := by rw [H.out.get, pageCells_row vs hv, hm]
   have NX := Lib.hid (show bytesN (rows.take (k + 1)) = t + m by rw [bytesN_next hr, TH.out, hm])
   rw [hm] at hm6
   clear hrow hr hv hm
   go_wp2
   go_round
   case rel => exact ⟨k + 1, by rw [NX.out]; go_num, by go_num, by omega⟩
   case measure => simp [intOf]; omega
  ·have E := Lib.hid (show t = bytesN rows by rw [← TH.out, List.take_of_length_le (by have := NH.out; omega)])
   go_wp2
   go_ret
   exact ⟨ret_int (congrArg Int.ofNat E.out), rfl⟩
theorem HasB.full {w : World} {base : Nat} {v : Value} {xs : List Int} (h : HasB w base v xs) : ∃ A c, v = .slice A xs.length c ∧ xs.length ≤ c := by
 rcases h.2 with ⟨rfl, h0⟩ | ⟨g, cap, cur, rfl, _, _, hc, _⟩
 ·rw [h0]; exact ⟨_, _, rfl, Nat.le_refl _⟩
 ·exact ⟨_, _, rfl, hc⟩
theorem putL_bytes {wrap : Bool} {l : List Cel} : ∀ x ∈ putL wrap l, 0 ≤ x ∧ x ≤ 255 := by
 intro x hx
 unfold putL at hx
 rcases List.mem_append.1 hx with h | h
 ·exact uintL_bytes _ x h
 ·obtain ⟨y, _, h⟩ := List.mem_flatMap.1 h
  unfold runBytes at h
  simp only [List.mem_append] at h
  rcases h with h | h | h | h <;> exact uintL_bytes _ x h
theorem gotR_put {wrap : Bool} {l : List Cel} (hm : mayL l = true) (hl : ∀ c ∈ l, -2147483648 ≤ c.1 ∧ c.1 ≤ 2147483647) : gotR (putL wrap l) = (wrap, l, (putL wrap l).length, 0) := by
 obtain ⟨h1, h2⟩ := mayL_small (fun c hc => (hl c hc).2) hm
 have := getR_put (may := mayL) (wrap := wrap) [] hm h2 h1
 rw [List.append_nil] at this
 exact gotR_some this
def AtPost (o : Option PRow) (w : World) (e : Ending) (w' : World) : Prop :=
 ∃ v, e = .returned (.tuple #[.agg #[v, .bool (o.elim false (·.1))], .bool o.isSome]) ∧ HasC w' w.heap.size v (o.elim [] (·.2)) ∧ Below w.heap.size w w'
theorem pageAt_some (base g : Nat) (vs : List Value) (rows : List PRow) (k : Nat) (r : PRow) (w : World) (hs : Spans w) (h : PageAt w base g vs rows) (hr : rows[k]? = some r) :
  Calls Tryz.prog 94 #[.pointer (some ⟨g, 0, none⟩), .int .i64 (k : Int)] w fun e w' => AtPost (some r) w e w' := by
 have w1 : PageAt (w.alloc (.cells #[.slice none 0 0, .bool false] 24)) base g vs rows := ⟨(Below.heap_alloc w _ g h.lt).trans h.cells, h.from', h.many, h.few, fun i v r hv hr => ⟨World.ownsRow.alloc (h.row i v r hv hr).1 _, (h.row i v r hv hr).2⟩, h.may⟩
 have LW := Lib.hid (pageLen_walk base g vs rows _ w1)
 have RN := Lib.hid (show RowAt (w.alloc (.cells #[.slice none 0 0, .bool false] 24)) w.heap.size (.slice none 0 0) false from heap_alloc_new w _)
 have B1 := Lib.hid ((Below.refl w.heap.size w).alloc (Nat.le_refl _) (.cells #[.slice none 0 0, .bool false] 24))
 have hkl := (List.getElem?_eq_some_iff.1 hr).1
 have hf := h.few
 obtain ⟨v, hv⟩ : ∃ v, vs[k]? = some v := ⟨_, List.getElem?_eq_getElem (by have := h.many; omega)⟩
 have hrow := (h.row k v r hv hr).1
 obtain ⟨A, c, rfl, hc⟩ := hrow.full
 have hgl := h.lt
 have hm := h.may r (List.mem_of_getElem? hr)
 have hlen := h.len_row r (List.mem_of_getElem? hr)
 have GOT := Lib.hid (gotR_put (wrap := r.1) hm.1 hm.2)
 have GW := Lib.hid (get_walk A (putL r.1 r.2).length c (putL r.1 r.2) (w.alloc (.cells #[.slice none 0 0, .bool false] 24)) (hs.below B1.out hs.size) ((hrow.sq.below B1.out).up (by simp)) hc (by omega) putL_bytes)
 obtain ⟨m, hmm⟩ : ∃ m, (putL r.1 r.2).length = m := ⟨_, rfl⟩
 have hcell : (w.alloc (.cells #[.slice none 0 0, .bool false] 24)).cell? ⟨g, k, none⟩ = some (.slice A m c) := by rw [w1.get, pageCells_row vs hv, hmm]
 obtain ⟨n, hn⟩ : ∃ n, rows.length = n := ⟨_, rfl⟩
 rw [hn] at LW hf hkl
 rw [hmm] at GW hlen hc
 have h0 : ¬ ((k : Int) < 0) := by omega
 clear w1 h hn hrow hm hs hv hr hmm
 go_enter Tryz.func94, Tryz.ntmps94
 go_wp2_with fail
 refine LW.out.mono ?_
 rintro e w' ⟨rfl, rfl⟩
 clear LW
 go_wp2_with fail
 refine GW.out.mono ?_
 rintro e w3 ⟨v3, rfl, h3, b3⟩
 rw [GOT.out] at h3 ⊢
 simp only at h3 ⊢
 obtain ⟨A3, c3, rfl, _⟩ := HasC.shape h3
 have R3 := Lib.hid (show RowAt w3 w.heap.size (.slice none 0 0) false from (b3.block w.heap.size (by simp)).trans RN.out)
 have B3 := Lib.hid (B1.out.trans (b3.mono (by simp)))
 have H3 := Lib.hid h3
 have Z3 : w.heap.size < w3.heap.size := by have := b3.size; simp at this; omega
 obtain ⟨ln, hln⟩ : ∃ ln, r.2.length = ln := ⟨_, rfl⟩
 rw [hln] at H3 ⊢
 have z0 : w3.cell? ⟨w.heap.size, 0, none⟩ = some (.slice none 0 0) := R3.out.get 0
 have z1 : w3.cell? ⟨w.heap.size, 1, none⟩ = some (.bool false) := R3.out.get 1
 have zf0 := R3.out.free 0
 have zf1 := R3.out.free 1
 clear h3 b3 hln
 have RF : RowAt (((w3.setCell ⟨w.heap.size, 0, none⟩ (.slice A3 ln c3)).setCell ⟨w.heap.size, 1, none⟩ (.bool r.1)).alloc (.cells #[.slice A3 ln c3, .bool r.1] 24)) w.heap.size (.slice A3 ln c3) r.1 := (Below.heap_alloc _ _ w.heap.size (by simp; omega)).trans (RowAt.put2 R3.out (.slice A3 ln c3) r.1)
 have BF := ((B3.out.setCell (p := ⟨w.heap.size, 0, none⟩) (Nat.le_refl _) (.slice A3 ln c3)).setCell (p := ⟨w.heap.size, 1, none⟩) (Nat.le_refl _) (.bool r.1)).alloc (by simp; omega) (.cells #[.slice A3 ln c3, .bool r.1] 24)
 have OF : HasC (((w3.setCell ⟨w.heap.size, 0, none⟩ (.slice A3 ln c3)).setCell ⟨w.heap.size, 1, none⟩ (.bool r.1)).alloc (.cells #[.slice A3 ln c3, .bool r.1] 24)) (w.heap.size + 1) (.slice A3 ln c3) r.2 := HasC.keep (HasC.mono H3.out (by simp)) (fun j e => by
  have h := HasC.lt H3.out j e
  simp at h
  rw [Below.heap_alloc _ _ _ (by simp; omega), Below.heap_setCell _ _ _ _ (by show j ≠ w.heap.size; omega), Below.heap_setCell _ _ _ _ (by show j ≠ w.heap.size; omega)])
 have RFH := Lib.hid RF
 have BFH := Lib.hid BF
 have OFH := Lib.hid OF
 clear RF BF OF
 go_wp2
 generalize ((w3.setCell ⟨w.heap.size, 0, none⟩ (.slice A3 ln c3)).setCell ⟨w.heap.size, 1, none⟩ (.bool r.1)).alloc (.cells #[.slice A3 ln c3, .bool r.1] 24) = wz at RFH BFH OFH ⊢
 have e0 := RFH.out.get 0
 have e1 := RFH.out.get 1
 exact bodyPost_ret (v := .tuple #[.agg #[.slice A3 ln c3, .bool r.1], .bool true]) (by simp [results, Tryz.results94, go_sem, e0, e1]) rfl ⟨_, rfl, HasC.mono OFH.out (by omega), BFH.out⟩
structure PageRd (w : World) (base b o : Nat) (vs : List Value) (rows : List PRow) : Prop where
 get : ∀ j, j < 17 → w.cell? ⟨b, o + j, none⟩ = (pageCells vs)[j]?
 here : b < w.heap.size
 many : vs.length = rows.length
 few : rows.length ≤ 16
 row : ∀ (i : Nat) (v : Value) (r : PRow), vs[i]? = some v → rows[i]? = some r → HasB w base v (putL r.1 r.2)
 may : ∀ r ∈ rows, mayL r.2 = true ∧ ∀ c ∈ r.2, -2147483648 ≤ c.1 ∧ c.1 ≤ 2147483647
namespace PageRd
variable {w w' : World} {base b o : Nat} {vs : List Value} {rows : List PRow}
theorem below (h : PageRd w base b o vs rows) (hb : Below w.heap.size w w') : PageRd w' base b o vs rows :=
 ⟨fun j hj => (hb.cell (p := ⟨b, o + j, none⟩) h.here).trans (h.get j hj), Nat.lt_of_lt_of_le h.here hb.size, h.many, h.few, fun i v r hv hr => (h.row i v r hv hr).below hb (h.row i v r hv hr).lt, h.may⟩
theorem len_row (h : PageRd w base b o vs rows) : ∀ r ∈ rows, (putL r.1 r.2).length ≤ 12010 := fun r hr => by
 obtain ⟨h1, h2⟩ := mayL_small (fun c hc => ((h.may r hr).2 c hc).2) (h.may r hr).1
 exact putL_len h1 h2
end PageRd
theorem pageLen_rd {w : World} {base b o : Nat} {vs : List Value} {rows : List PRow} (h : PageRd w base b o vs rows) :
  Calls Tryz.prog 121 #[.pointer (some ⟨b, o, none⟩)] w fun e w' => e = .returned (.int .i64 (rows.length : Int)) ∧ w = w' := by
 have hm : w.cell? ⟨b, o + 16, none⟩ = some (.int .i64 (rows.length : Int)) := by rw [h.get 16 (by omega), pageCells_many _ (by rw [h.many]; exact h.few), h.many]
 clear h
 go_enter Tryz.func121, Tryz.ntmps121
 go_wp2
 go_ret
 exact ⟨rfl, rfl⟩
theorem pageAt_rd (base b o : Nat) (vs : List Value) (rows : List PRow) (k : Nat) (r : PRow) (w : World) (hs : Spans w) (h : PageRd w base b o vs rows) (hr : rows[k]? = some r) :
  Calls Tryz.prog 94 #[.pointer (some ⟨b, o, none⟩), .int .i64 (k : Int)] w fun e w' => AtPost (some r) w e w' := by
 have w1 : PageRd (w.alloc (.cells #[.slice none 0 0, .bool false] 24)) base b o vs rows := h.below ((Below.refl _ _).alloc (Nat.le_refl _) _)
 have LW := Lib.hid (pageLen_rd w1)
 have RN := Lib.hid (show RowAt (w.alloc (.cells #[.slice none 0 0, .bool false] 24)) w.heap.size (.slice none 0 0) false from heap_alloc_new w _)
 have B1 := Lib.hid ((Below.refl w.heap.size w).alloc (Nat.le_refl _) (.cells #[.slice none 0 0, .bool false] 24))
 have hkl := (List.getElem?_eq_some_iff.1 hr).1
 have hf := h.few
 obtain ⟨v, hv⟩ : ∃ v, vs[k]? = some v := ⟨_, List.getElem?_eq_getElem (by have := h.many; omega)⟩
 have hrow := h.row k v r hv hr
 obtain ⟨A, c, rfl, hc⟩ := hrow.full
 have hm := h.may r (List.mem_of_getElem? hr)
 have hlen := h.len_row r (List.mem_of_getElem? hr)
 have GOT := Lib.hid (gotR_put (wrap := r.1) hm.1 hm.2)
 have GW := Lib.hid (get_walk A (putL r.1 r.2).length c (putL r.1 r.2) (w.alloc (.cells #[.slice none 0 0, .bool false] 24)) (hs.below B1.out hs.size) ((hrow.sq.below B1.out).up (by simp)) hc (by omega) putL_bytes)
 obtain ⟨m, hmm⟩ : ∃ m, (putL r.1 r.2).length = m := ⟨_, rfl⟩
 have hcell : (w.alloc (.cells #[.slice none 0 0, .bool false] 24)).cell? ⟨b, o + k, none⟩ = some (.slice A m c) := by rw [w1.get k (by omega), pageCells_row vs hv, hmm]
 obtain ⟨n, hn⟩ : ∃ n, rows.length = n := ⟨_, rfl⟩
 rw [hn] at LW hf hkl
 rw [hmm] at GW hlen hc
 have h0 : ¬ ((k : Int) < 0) := by omega
 clear w1 h hn hrow hm hs hv hr hmm
 go_enter Tryz.func94, Tryz.ntmps94
 go_wp2_with fail
 refine LW.out.mono ?_
 rintro e w' ⟨rfl, rfl⟩
 clear LW
 go_wp2_with fail
 refine GW.out.mono ?_
 rintro e w3 ⟨v3, rfl, h3, b3⟩
 rw [GOT.out] at h3 ⊢
 simp only at h3 ⊢
 obtain ⟨A3, c3, rfl, _⟩ := HasC.shape h3
 have R3 := Lib.hid (show RowAt w3 w.heap.size (.slice none 0 0) false from (b3.block w.heap.size (by simp)).trans RN.out)
 have B3 := Lib.hid (B1.out.trans (b3.mono (by simp)))
 have H3 := Lib.hid h3
 have Z3 : w.heap.size < w3.heap.size := by have := b3.size; simp at this; omega
 obtain ⟨ln, hln⟩ : ∃ ln, r.2.length = ln := ⟨_, rfl⟩
 rw [hln] at H3 ⊢
 have z0 : w3.cell? ⟨w.heap.size, 0, none⟩ = some (.slice none 0 0) := R3.out.get 0
 have z1 : w3.cell? ⟨w.heap.size, 1, none⟩ = some (.bool false) := R3.out.get 1
 have zf0 := R3.out.free 0
 have zf1 := R3.out.free 1
 clear h3 b3 hln
 have RF : RowAt (((w3.setCell ⟨w.heap.size, 0, none⟩ (.slice A3 ln c3)).setCell ⟨w.heap.size, 1, none⟩ (.bool r.1)).alloc (.cells #[.slice A3 ln c3, .bool r.1] 24)) w.heap.size (.slice A3 ln c3) r.1 := (Below.heap_alloc _ _ w.heap.size (by simp; omega)).trans (RowAt.put2 R3.out (.slice A3 ln c3) r.1)
 have BF := ((B3.out.setCell (p := ⟨w.heap.size, 0, none⟩) (Nat.le_refl _) (.slice A3 ln c3)).setCell (p := ⟨w.heap.size, 1, none⟩) (Nat.le_refl _) (.bool r.1)).alloc (by simp; omega) (.cells #[.slice A3 ln c3, .bool r.1] 24)
 have OF : HasC (((w3.setCell ⟨w.heap.size, 0, none⟩ (.slice A3 ln c3)).setCell ⟨w.heap.size, 1, none⟩ (.bool r.1)).alloc (.cells #[.slice A3 ln c3, .bool r.1] 24)) (w.heap.size + 1) (.slice A3 ln c3) r.2 := HasC.keep (HasC.mono H3.out (by simp)) (fun j e => by
  have h := HasC.lt H3.out j e
  simp at h
  rw [Below.heap_alloc _ _ _ (by simp; omega), Below.heap_setCell _ _ _ _ (by show j ≠ w.heap.size; omega), Below.heap_setCell _ _ _ _ (by show j ≠ w.heap.size; omega)])
 have RFH := Lib.hid RF
 have BFH := Lib.hid BF
 have OFH := Lib.hid OF
 clear RF BF OF
 go_wp2
 generalize ((w3.setCell ⟨w.heap.size, 0, none⟩ (.slice A3 ln c3)).setCell ⟨w.heap.size, 1, none⟩ (.bool r.1)).alloc (.cells #[.slice A3 ln c3, .bool r.1] 24) = wz at RFH BFH OFH ⊢
 have e0 := RFH.out.get 0
 have e1 := RFH.out.get 1
 exact bodyPost_ret (v := .tuple #[.agg #[.slice A3 ln c3, .bool r.1], .bool true]) (by simp [results, Tryz.results94, go_sem, e0, e1]) rfl ⟨_, rfl, HasC.mono OFH.out (by omega), BFH.out⟩
theorem pageCells_set {vs : List Value} (h : vs.length < 16) (v : Value) : ((pageCells vs).set vs.length v).set 16 (.int .i64 ((vs.length + 1 : Nat) : Int)) = pageCells (vs ++ [v]) := by
 obtain ⟨m, hm⟩ : ∃ m, 16 - vs.length = m + 1 := ⟨15 - vs.length, by omega⟩
 unfold pageCells
 rw [List.length_append, List.length_singleton, show 16 - (vs.length + 1) = m by omega, hm, List.replicate_succ, List.cons_append, List.set_append_right _ _ (Nat.le_refl _), Nat.sub_self]
 simp only [List.set_cons_zero]
 rw [List.set_append_right _ _ (by omega), List.append_assoc]
 congr 1
 rw [show 16 - vs.length = m + 1 by omega]
 simp only [List.set_cons_succ, List.singleton_append, List.cons.injEq, true_and]
 rw [List.set_append_right _ _ (by simp)]
 simp
theorem pageCells_free {vs : List Value} (h : vs.length < 16) : (pageCells vs)[vs.length]? = some (.slice none 0 0) := by
 unfold pageCells
 rw [List.getElem?_append_right (Nat.le_refl _), Nat.sub_self, List.getElem?_append_left (by simp; omega), List.getElem?_replicate, if_pos (by omega)]
theorem PageAt.free {w : World} {base g : Nat} {vs : List Value} {rows : List PRow} (h : PageAt w base g vs rows) (j : Nat) : w.frozen? ⟨g, j, none⟩ = false := frozen_of_row w g j _ _ h.cells
theorem pageCells_len {vs : List Value} (h : vs.length ≤ 16) : (pageCells vs).length = 17 := by unfold pageCells; simp; omega
theorem PageAt.add {w : World} {base g : Nat} {vs : List Value} {rows : List PRow} (h : PageAt w base g vs rows) (hf : rows.length < 16) {v : Value} {r : PRow} (hv : HasB w base v (putL r.1 r.2)) (hne : v.ownBlock ≠ some g) (hm : mayL r.2 = true ∧ ∀ c ∈ r.2, -2147483648 ≤ c.1 ∧ c.1 ≤ 2147483647) :
  PageAt ((w.setCell ⟨g, rows.length, none⟩ v).setCell ⟨g, 16, none⟩ (.int .i64 ((rows.length + 1 : Nat) : Int))) base g (vs ++ [v]) (rows ++ [r]) := by
 have hl := h.many
 have keep : ∀ {u : Value} {xs : List Int}, HasB w base u xs → u.ownBlock ≠ some g → HasB ((w.setCell ⟨g, rows.length, none⟩ v).setCell ⟨g, 16, none⟩ (.int .i64 ((rows.length + 1 : Nat) : Int))) base u xs := by
  intro u xs hu hne'
  refine ⟨hu.1, ?_⟩
  rcases hu.2 with e | ⟨b, cap, cur, rfl, e2, e3, rr⟩
  ·exact .inl e
  ·refine .inr ⟨b, cap, cur, rfl, e2, ?_, rr⟩
   have hb : b ≠ g := fun e => hne' (by rw [e]; rfl)
   rw [Below.heap_setCell _ _ _ _ hb, Below.heap_setCell _ _ _ _ hb]
   exact e3
 refine ⟨?_, h.from', by simp [hl], by simp; omega, fun i u r' hu hr' => ?_, fun x hx => ?_⟩
 ·have h1 := heap_setCell_same w g rows.length _ _ v h.cells
  have h2 := heap_setCell_same _ g 16 _ _ (.int .i64 ((rows.length + 1 : Nat) : Int)) h1
  rw [h2]
  congr 2
  rw [← pageCells_set (vs := vs) (by omega) v, hl]
  simp
 ·by_cases hi : i < vs.length
  ·rw [List.getElem?_append_left hi] at hu
   rw [List.getElem?_append_left (by omega)] at hr'
   obtain ⟨a, b⟩ := h.row i u r' hu hr'
   exact ⟨keep a b, b⟩
  ·rw [List.getElem?_append_right (by omega)] at hu
   rw [List.getElem?_append_right (by omega)] at hr'
   have hi0 : i - vs.length = 0 := by
    have := (List.getElem?_eq_some_iff.1 hu).1
    simp at this
    omega
   rw [hi0] at hu
   rw [show i - rows.length = 0 by omega] at hr'
   simp at hu hr'
   subst hu hr'
   exact ⟨keep hv hne, hne⟩
 ·rcases List.mem_append.1 hx with h' | h'
  ·exact h.may x h'
  ·simp at h'
   subst h'
   exact hm
theorem PageAt.below {w w' : World} {base g : Nat} {vs : List Value} {rows : List PRow} (h : PageAt w base g vs rows) (hb : Below w.heap.size w w') : PageAt w' base g vs rows :=
 ⟨(hb.block g h.lt).trans h.cells, h.from', h.many, h.few, fun i v r hv hr => ⟨(h.row i v r hv hr).1.below hb (h.row i v r hv hr).1.lt, (h.row i v r hv hr).2⟩, h.may⟩
def AddPost (base g : Nat) (vs : List Value) (rows : List PRow) (r : PRow) (w : World) (e : Ending) (w' : World) : Prop :=
 ∃ ok vs', ok = (mayL r.2 && decide (rows.length < 16)) ∧ e = .returned (.bool ok) ∧ PageAt w' base g vs' (if ok then rows ++ [r] else rows) ∧ w.grownBy w' (some g) ∧
  ∀ v ∈ vs', v ∈ vs ∨ ∀ k, v.ownBlock = some k → w.heap.size ≤ k
theorem pageAdd_full (base g : Nat) (vs : List Value) (rows : List PRow) (r : PRow) (A : Option Addr) (n c : Nat) (w : World) (h : PageAt w base g vs rows) (hf : rows.length = 16) :
  Calls Tryz.prog 93 #[.pointer (some ⟨g, 0, none⟩), rowV A n c r.1] w fun e w' => AddPost base g vs rows r w e w' := by
 have hm : w.cell? ⟨g, 16, none⟩ = some (.int .i64 16) := by rw [h.get, pageCells_many _ (by rw [h.many]; exact h.few), h.many, hf]; rfl
 have hgl := h.lt
 have H := Lib.hid h
 have F := Lib.hid hf
 have BB := Lib.hid ((Below.refl w.heap.size w).alloc (Nat.le_refl _) (.cells #[.slice A n c, .bool r.1] 24))
 clear h hf
 go_enter Tryz.func93, Tryz.ntmps93
 go_wp2
 go_ret
 exact ⟨false, vs, by rw [F.out]; simp, rfl, by simpa using H.out.below BB.out, ⟨BB.out.os, BB.out.tape, BB.out.output, BB.out.size, fun k hk _ => BB.out.block k hk⟩, fun v hv => .inl hv⟩
theorem pageAdd_walk (base g : Nat) (vs : List Value) (rows : List PRow) (A : Option Addr) (n c : Nat) (wrap : Bool) (l : List Cel) (w : World) (hs : Spans w) (h : PageAt w base g vs rows) (hb0 : base ≤ w.heap.size) (hl : ∀ c ∈ l, -2147483648 ≤ c.1 ∧ c.1 ≤ 2147483647) (hq : Sq w w.heap.size 3 n A (flat l)) (hc : n ≤ c) (hn : n ≤ 1000000) :
  Calls Tryz.prog 93 #[.pointer (some ⟨g, 0, none⟩), rowV A n c wrap] w fun e w' => AddPost base g vs rows (wrap, l) w e w' := by
 by_cases hf : rows.length = 16
 ·exact pageAdd_full base g vs rows (wrap, l) A n c w h hf
 ·have hf' : rows.length < 16 := by have := h.few; omega
  have hm : w.cell? ⟨g, 16, none⟩ = some (.int .i64 (rows.length : Int)) := by rw [h.get, pageCells_many _ (by rw [h.many]; exact h.few), h.many]
  have hgl := h.lt
  have bb := (Below.refl w.heap.size w).alloc (Nat.le_refl _) (.cells #[.slice A n c, .bool wrap] 24)
  have PW := Lib.hid (put_walk A n c wrap l _ (hs.below bb hs.size) hl ((hq.below bb).up (by simp)) hc hn)
  have H := Lib.hid h
  have HL := Lib.hid hl
  have BB := Lib.hid bb
  have FH := Lib.hid hf'
  obtain ⟨p, hp⟩ : ∃ p, rows.length = p := ⟨_, rfl⟩
  rw [hp] at hm hf'
  have PL := Lib.hid hp
  have d1 : ((p : Int) == 16) = false := by simp; omega
  obtain ⟨B, hB⟩ : ∃ B, mayL l = B := ⟨_, rfl⟩
  have BH := Lib.hid hB
  clear h hf hl hq bb hs hp hB
  cases B
  ·go_enter Tryz.func93, Tryz.ntmps93
   go_wp2_with fail
   refine PW.out.mono ?_
   rintro e w2 ⟨v2, rfl, h2, b2⟩
   have MF := BH.out
   rw [MF]
   have B2 := Lib.hid (BB.out.trans (b2.mono (by simp)))
   clear h2 b2 MF
   go_wp2
   go_ret
   exact ⟨false, vs, by rw [BH.out]; rfl, rfl, by simpa using H.out.below B2.out, ⟨B2.out.os, B2.out.tape, B2.out.output, B2.out.size, fun k hk _ => B2.out.block k hk⟩, fun v hv => .inl hv⟩
  ·go_enter Tryz.func93, Tryz.ntmps93
   go_wp2_with fail
   refine PW.out.mono ?_
   rintro e w2 ⟨v2, rfl, h2, b2⟩
   have MF := BH.out
   rw [show putV wrap l = putL wrap l by unfold putV; rw [MF]; rfl] at h2
   rw [MF]
   obtain ⟨A2, c2, rfl⟩ := h2.shape
   have SM := mayL_small (fun x hx => (HL.out x hx).2) MF
   have LP := putL_len (wrap := wrap) SM.1 SM.2
   have B2 := Lib.hid (BB.out.trans (b2.mono (by simp)))
   have hsz := B2.out.size
   have H2 := Lib.hid (H.out.below B2.out)
   have CW := Lib.hid (fun w' (hx : Below w2.heap.size w2 w') => clone_walk A2 (putL wrap l).length c2 (putL wrap l) w' (h2.sq.below hx) hx.size (by omega))
   have m2 : w2.cell? ⟨g, 16, none⟩ = some (.int .i64 (p : Int)) := (B2.out.cell (p := ⟨g, 16, none⟩) hgl).trans hm
   have hgl2 := H2.out.lt
   have P2 := Lib.hid (show w2.cell? ⟨g, p, none⟩ = some (.slice none 0 0) by rw [H2.out.get, ← PL.out, ← H2.out.many]; exact pageCells_free (by rw [H2.out.many]; exact FH.out))
   obtain ⟨m, hmm⟩ : ∃ m, (putL wrap l).length = m := ⟨_, rfl⟩
   rw [hmm] at CW ⊢
   clear h2 b2 MF SM LP hmm
   go_wp2_with fail
   go_region_with (go_at_call 120; refine (CW.out _ (by first | exact Below.refl _ _ | exact (Below.refl _ _).drew)).mono ?_; rintro e w3 ⟨v3, rfl, h3, b3⟩; obtain ⟨A3, c3, rfl⟩ := h3.shape; (have m3 : w3.cell? ⟨g, 16, none⟩ = some (.int .i64 (p : Int)) := (b3.cell (p := ⟨g, 16, none⟩) hgl2).trans m2); (have mp : w3.cell? ⟨g, p, none⟩ = some (.slice none 0 0) := (b3.cell (p := ⟨g, p, none⟩) hgl2).trans P2.out); (have fp : w3.frozen? ⟨g, p, none⟩ = false := (b3.frozen (p := ⟨g, p, none⟩) hgl2).trans (H2.out.free p)); (have f16 : w3.frozen? ⟨g, 16, none⟩ = false := (b3.frozen (p := ⟨g, 16, none⟩) hgl2).trans (H2.out.free 16)))
   all_goals
    have b3' : Below w2.heap.size w2 w3 := by first | exact b3 | exact (Below.refl w2.heap.size w2).drew.trans b3
    have hv3 : HasB w3 w2.heap.size (.slice A3 (putL wrap l).length c3) (putL wrap l) := h3
    have B3 := Lib.hid (B2.out.trans (b3'.mono hsz))
    have H3 := Lib.hid (H2.out.below b3')
    have L3 := Lib.hid (fun k e => (World.ownsRow.lt hv3 k e).1)
    have hbase : base ≤ w2.heap.size := Nat.le_trans hb0 hsz
    have PA := Lib.hid (PageAt.add (r := (wrap, l)) H3.out FH.out (hv3.mono' hbase) (fun e => by have := L3.out g e; omega) ⟨BH.out, HL.out⟩)
    have m4 : (w3.setCell ⟨g, p, none⟩ (.slice A3 (putL wrap l).length c3)).cell? ⟨g, 16, none⟩ = some (.int .i64 (p : Int)) := by
     rw [World.cell?_setCell_other (a := ⟨g, p, none⟩) (b := ⟨g, 16, none⟩) (h := fun e => by injection e with _ e; omega)]
     exact m3
    have f4 : (w3.setCell ⟨g, p, none⟩ (.slice A3 (putL wrap l).length c3)).frozen? ⟨g, 16, none⟩ = false := by rw [World.frozen?_setCell]; exact f16
    have GB := Lib.hid (show w.grownBy ((w3.setCell ⟨g, p, none⟩ (.slice A3 (putL wrap l).length c3)).setCell ⟨g, 16, none⟩ (.int .i64 ((p + 1 : Nat) : Int))) (some g) from
     ⟨B3.out.os, B3.out.tape, B3.out.output, by simpa using B3.out.size, fun k hk hne => by
      have hkg : k ≠ g := fun e => hne (by rw [e])
      rw [Below.heap_setCell _ _ _ _ hkg, Below.heap_setCell _ _ _ _ hkg]
      exact B3.out.block k hk⟩)
    have EC : ((p + 1 : Nat) : Int) = (p : Int) + 1 := by omega
    rw [PL.out, EC] at PA
    rw [EC] at GB
    clear EC
    generalize w3.setCell ⟨g, p, none⟩ (.slice A3 (putL wrap l).length c3) = w4 at m4 f4 PA GB ⊢
    clear b3 b3' h3 hv3 m3 mp fp f16 d1
    go_wp2
    go_ret
    exact ⟨true, vs ++ [.slice A3 (putL wrap l).length c3], by rw [BH.out]; simp [FH.out], rfl, PA.out, GB.out, fun v hv => by
     rcases List.mem_append.1 hv with h | h
     ·exact .inl h
     ·right
      simp at h
      subst h
      intro k e
      exact Nat.le_trans hsz (L3.out k e)⟩
theorem OnlyRow.row (g : Nat) (w : World) (cs : Array Value) : OnlyRow g w (w.setRow g cs) := ⟨rfl, rfl, rfl, by simp [World.setRow], fun k hk => setRow_other w g k cs hk⟩
theorem PageAt.cut {w w' : World} {base g : Nat} {vs : List Value} {rows : List PRow} (h : PageAt w base g vs rows) (ho : OnlyRow g w w') (k : Nat) (hg : w'.heap[g]? = some (.cells (pageCells (vs.drop k)).toArray 141 (0, 0))) : PageAt w' base g (vs.drop k) (rows.drop k) := by
  refine ⟨hg, h.from', by rw [List.length_drop, List.length_drop, h.many], by rw [List.length_drop]; have := h.few; omega, fun i u r hu hr => ?_, fun r hr => h.may r (List.mem_of_mem_drop hr)⟩
  rw [List.getElem?_drop] at hu hr
  obtain ⟨hb, hne⟩ := h.row (k + i) u r hu hr
  refine ⟨⟨hb.1, ?_⟩, hne⟩
  rcases hb.2 with e | ⟨b, cap, cur, rfl, e2, e3, rr⟩
  · exact .inl e
  · refine .inr ⟨b, cap, cur, rfl, e2, ?_, rr⟩
    rw [ho.block b (fun e => hne (by rw [e]; rfl))]
    exact e3
theorem step_copy_only {P : Program} {ops : Array Oper} {o : Oper} {a : Act} {w : World} {K : Act → World → Prop} {Q : Exit → Act → World → Prop} {E : Prop} (hgd : o.guard = none) (d s : Operand) (dT sT : TypeId)
    (ho : o.op = .call { callee := .builtin .copy, args := #[d, s], argTypes := #[dT, sT] }) (elem : TypeId) (hu : P.underlying dT = some (.slice elem)) (hsz : (P.info? elem).map (·.size) = some 1)
    (ad : Addr) (dLen dCap sLen sCap : Nat) (g off : Nat) (hd : a.eval d = .slice (some ⟨g, off, none⟩) dLen dCap) (hs : a.eval s = .slice (some ad) sLen sCap)
    (cur : List Value) (t : TypeId) (hg : w.heap[g]? = some (.cells cur.toArray t (0, 0))) (cs : List Value) (q : Nat) (hq : cs.length = q) (hn : q = Nat.min sLen dLen)
    (hsrc : ∀ j v, cs[j]? = some v → w.cell? (ad.add j) = some v) (hfit : off + cs.length ≤ cur.length) (h1 : ∀ v ∈ cs, v.oneCell' = true)
    (h : ∀ w', Hid (w'.heap[g]? = some (.cells (splice cur off cs).toArray t (0, 0))) → Hid (OnlyRow g w w') → K (a.put o.dst (.int .i64 (q : Int))) w') :
    if Region.wanted o (yielded ops a.tmps) = true then Oper.wp P o a w K Q else E := by
  have hw : Region.wanted o (yielded ops a.tmps) = true := by simp [Region.wanted, hgd]
  rw [if_pos hw]
  have hrun := run_copy_row (P := P) w dT sT o.type elem g off dLen dCap ad sLen sCap cur.toArray t cs hu hsz hg (hq.trans hn) hsrc (by simpa using hfit) h1
  unfold Oper.wp
  simp [execOp, ho, resolve, invoke, builtin, hd, hs, hrun, Result.andThen]
  subst hq
  exact h _ (show _ = _ by simpa [splice] using setRow_heap w g _ _ t _ hg) (OnlyRow.row g w _)
theorem step_clear_only {P : Program} {ops : Array Oper} {o : Oper} {a : Act} {w : World} {K : Act → World → Prop} {Q : Exit → Act → World → Prop} {E : Prop} (hgd : o.guard = none) (d : Operand) (dT : TypeId)
    (ho : o.op = .call { callee := .builtin .clear, args := #[d], argTypes := #[dT] }) (elem : TypeId) (hu : P.underlying dT = some (.slice elem)) (z : Value) (hv : ∀ w, (zeroValue elem).run P w = .ok z w) (hz : z.cells = #[z]) (h1 : z.oneCell' = true)
    (n c : Nat) (g off : Nat) (hd : a.eval d = .slice (some ⟨g, off, none⟩) n c)
    (cur : List Value) (t : TypeId) (hg : w.heap[g]? = some (.cells cur.toArray t (0, 0))) (hfit : off + n ≤ cur.length)
    (h : ∀ w', Hid (w'.heap[g]? = some (.cells (splice cur off (List.replicate n z)).toArray t (0, 0))) → Hid (OnlyRow g w w') → K (a.put o.dst (.tuple #[])) w') :
    if Region.wanted o (yielded ops a.tmps) = true then Oper.wp P o a w K Q else E := by
  have hw : Region.wanted o (yielded ops a.tmps) = true := by simp [Region.wanted, hgd]
  rw [if_pos hw]
  cases n with
  | zero =>
    have hrun : (Builtin.clear_ #[dT] o.type #[.slice (some ⟨g, off, none⟩) 0 c]).run P w = .ok (.tuple #[]) w := by simp [Builtin.clear_, run_underlying hu]
    unfold Oper.wp
    simp [execOp, ho, resolve, invoke, builtin, hd, hrun, Result.andThen]
    exact h _ (show _ = _ by simpa [splice] using hg) (OnlyRow.refl g w)
  | succ m =>
    have hzc : (Builtin.zeroCells z.cells (m + 1)).toList = List.replicate (m + 1) z := by
      rw [hz]
      simp [Builtin.zeroCells]
      apply List.ext_getElem
      · simp
      · intro i h1 h2
        simp [Nat.mod_one]
    have hst := run_storeCells_at P g off t (List.replicate (m + 1) z) 0 cur.toArray w hg (by simpa using hfit) (by intro v hv'; rw [List.eq_of_mem_replicate hv']; exact h1)
    simp only [Nat.add_zero] at hst
    have hrun : (Builtin.clear_ #[dT] o.type #[.slice (some ⟨g, off, none⟩) (m + 1) c]).run P w = .ok (.tuple #[]) (w.setRow g (cur.toArray.toList.take off ++ List.replicate (m + 1) z ++ cur.toArray.toList.drop (off + (List.replicate (m + 1) z).length)).toArray) := by
      simp [Builtin.clear_, run_underlying hu, hv, hzc, hst]
    unfold Oper.wp
    simp [execOp, ho, resolve, invoke, builtin, hd, hrun, Result.andThen]
    exact h _ (show _ = _ by simpa [splice] using setRow_heap w g _ _ t _ hg) (OnlyRow.row g w _)
theorem pageCells_cut (vs : List Value) (k q : Nat) (h : vs.length = q + k) (h16 : q + k ≤ 16) :
    ((splice (splice (pageCells vs) 0 (vs.drop k)) q (List.replicate k (.slice none 0 0))).set 16 (.int .i64 (q : Int))) = pageCells (vs.drop k) := by
  have hl : (vs.drop k).length = q := by rw [List.length_drop]; omega
  have e1 : splice (pageCells vs) 0 (vs.drop k) = vs.drop k ++ (pageCells vs).drop q := by simp [splice, hl]
  have e2 : (vs.drop k ++ (pageCells vs).drop q).take q = vs.drop k := by rw [← hl]; exact List.take_left
  have e3 : (vs.drop k ++ (pageCells vs).drop q).drop (q + k) = List.replicate (16 - (q + k)) (.slice none 0 0) ++ [.int .i64 ((q + k : Nat) : Int)] := by
    rw [List.drop_append, hl, List.drop_of_length_le (by omega), List.nil_append, List.drop_drop, show q + (q + k - q) = vs.length by omega]
    unfold pageCells
    rw [List.drop_left, h]
  rw [e1]
  unfold splice
  rw [e2, List.length_replicate, e3]
  unfold pageCells
  rw [hl, ← List.append_assoc (List.replicate k _), List.replicate_append_replicate, show k + (16 - (q + k)) = 16 - q by omega, List.set_append_right _ _ (by omega), hl, List.set_append_right _ _ (by simp), List.length_replicate, Nat.sub_self]
  rfl
theorem pageCut_main (base g : Nat) (vs : List Value) (rows : List PRow) (k : Nat) (w : World) (h : PageAt w base g vs rows) (hk : k ≤ rows.length) (hk16 : ¬ 16 = k) (hq16 : ¬ (k = 0 ∧ rows.length = 16)) :
    Calls Tryz.prog 133 #[.pointer (some ⟨g, 0, none⟩), .int .i64 (k : Int)] w fun e w' => e = .returned (.bool true) ∧ PageAt w' base g (vs.drop k) (rows.drop k) ∧ OnlyRow g w w' := by
  obtain ⟨q, hq⟩ : ∃ q, rows.length = q + k := ⟨rows.length - k, by omega⟩
  have h16 : q + k ≤ 16 := by have := h.few; omega
  have hl : vs.length = q + k := by rw [h.many, hq]
  have h1 := PageAt.below h (Below.refl w.heap.size w).drew
  have m1 : w.cell? ⟨g, 16, none⟩ = some (.int .i64 ((q : Int) + (k : Int))) := by rw [h.get, pageCells_many _ (by omega), hl]; rfl
  have m2 : w.drew.cell? ⟨g, 16, none⟩ = some (.int .i64 ((q : Int) + (k : Int))) := m1
  have d0 : ¬ ((k : Int) < 0) := by omega
  have d1 : ¬ ((q : Int) + (k : Int) < (k : Int)) := by omega
  have d2 : (k : Int) ≤ (q : Int) + (k : Int) := by omega
  have d3 : (q : Int) + (k : Int) ≤ 16 := by omega
  have n1 : ((q : Int) + (k : Int)).toNat = q + k := by omega
  have HG := Lib.hid h1.cells
  have HS := Lib.hid (show ∀ j v, (vs.drop k)[j]? = some v → w.drew.cell? ((⟨g, k, none⟩ : Addr).add j) = some v from fun j v hj => by
    have hj2 := (List.getElem?_eq_some_iff.1 hj).1
    rw [List.length_drop] at hj2
    rw [List.getElem?_drop] at hj
    have e : (⟨g, k, none⟩ : Addr).add j = ⟨g, k + j, none⟩ := by
      unfold Addr.add
      split
      · subst j; rfl
      · rfl
    rw [e]
    exact (h1.get (k + j)).trans (pageCells_row vs hj))
  have HO := Lib.hid (show ∀ v ∈ vs.drop k, v.oneCell' = true from fun v hv => by
    obtain ⟨i, hi⟩ := List.mem_iff_getElem?.1 (List.mem_of_mem_drop hv)
    obtain ⟨A, c, e⟩ := (h.row i v (rows[i]'(by have := (List.getElem?_eq_some_iff.1 hi).1; rw [h.many] at this; exact this)) hi (List.getElem?_eq_getElem _)).1.shape
    rw [e]
    rfl)
  have H := Lib.hid h
  have LQ := Lib.hid (show (vs.drop k).length = q by rw [List.length_drop]; omega)
  have LP := Lib.hid (pageCells_len (vs := vs) (by omega))
  have HV := Lib.hid hl
  have HR := Lib.hid hq
  have q16 : ¬ 16 = q := by omega
  clear h h1 hl hq hk hq16
  go_enter Tryz.func133, Tryz.ntmps133
  go_wp2_with fail
  go_region_law (refine step_copy_only rfl (.tmp 23) (.tmp 32) 167 167 rfl 60 rfl rfl ⟨g, k, none⟩ 16 16 q (16 - k) g 0 (by simp [Act.eval, Act.put]) (by simp [Act.eval, Act.put]) (pageCells vs) 141 HG.out (vs.drop k) q LQ.out (Nat.min_eq_left (by omega)).symm HS.out (by rw [LQ.out, LP.out]; omega) HO.out ?_; intro w2 hg2 ho2)
  have G2 := Lib.hid (show w2.drew.heap[g]? = some (.cells (splice (pageCells vs) 0 (vs.drop k)).toArray 141 (0, 0)) from hg2.out)
  have L2 := Lib.hid (show (splice (pageCells vs) 0 (vs.drop k)).length = 17 by rw [length_splice _ _ _ (by rw [LQ.out, LP.out]; omega), LP.out])
  have c16 : (splice (pageCells vs) 0 (vs.drop k))[16]? = some (.int .i64 ((q : Int) + (k : Int))) := by
    unfold splice
    rw [List.take_zero, List.nil_append, List.getElem?_append_right (by rw [LQ.out]; omega), LQ.out, List.getElem?_drop, show 0 + q + (16 - q) = 16 by omega, pageCells_many _ (by rw [HV.out]; exact h16), HV.out]
    rfl
  have m3 : w2.drew.cell? ⟨g, 16, none⟩ = some (.int .i64 ((q : Int) + (k : Int))) := by
    rw [cell_of_row _ g 16 _ _ (0, 0) G2.out]
    simpa using c16
  have d4 : ¬ ((q : Int) < 0) := by omega
  have d5 : (q : Int) ≤ (q : Int) + (k : Int) := by omega
  clear c16 hg2
  have O2 := Lib.hid ho2.out
  clear ho2
  go_wp2_with fail
  go_region_law (refine step_clear_only rfl (.tmp 42) 167 rfl 60 rfl (.slice none 0 0) (fun _ => rfl) rfl rfl k (16 - q) g q (by simp [Act.eval, Act.put]) (splice (pageCells vs) 0 (vs.drop k)) 141 G2.out (by rw [L2.out]; omega) ?_; intro w3 hg3 ho3)
  have G3 := Lib.hid (show w3.heap[g]? = some (.cells (splice (splice (pageCells vs) 0 (vs.drop k)) q (List.replicate k (.slice none 0 0))).toArray 141 (0, 0)) from hg3.out)
  have f3 : w3.frozen? ⟨g, 16, none⟩ = false := frozen_of_row w3 g 16 _ _ G3.out
  have m4 : ∃ v, w3.cell? ⟨g, 16, none⟩ = some v := by
    rw [cell_of_row _ g 16 _ _ (0, 0) G3.out]
    exact ⟨_, Array.getElem?_eq_getElem (by
      have e := length_splice (splice (pageCells vs) 0 (vs.drop k)) q (List.replicate k (.slice none 0 0)) (by rw [L2.out, List.length_replicate]; omega)
      rw [L2.out] at e
      rw [List.size_toArray, e]
      omega)⟩
  obtain ⟨v16, m4⟩ := m4
  have O3 := Lib.hid (show OnlyRow g w w3 from (OnlyRow.ofDrew O2.out).trans (OnlyRow.ofDrew ho3.out))
  clear hg3 ho3 m3
  go_wp2
  have O4 := O3.out.trans (OnlyRow.cell g 16 w3 (.int .i64 (q : Int)))
  have G4 : (w3.setCell ⟨g, 16, none⟩ (.int .i64 (q : Int))).heap[g]? = some (.cells (pageCells (vs.drop k)).toArray 141 (0, 0)) := by
    rw [heap_setCell_same w3 g 16 _ _ (.int .i64 (q : Int)) G3.out, ← pageCells_cut vs k q HV.out h16]
    congr 2
    simp
  go_ret
  exact ⟨rfl, H.out.cut O4 k G4, O4⟩
theorem pageCut_allSixteen (base g : Nat) (vs : List Value) (rows : List PRow) (w : World) (h : PageAt w base g vs rows) (hk : rows.length = 16) :
    Calls Tryz.prog 133 #[.pointer (some ⟨g, 0, none⟩), .int .i64 16] w fun e w' => e = .returned (.bool true) ∧ PageAt w' base g (vs.drop 16) (rows.drop 16) ∧ OnlyRow g w w' := by
  have hl : vs.length = 16 := h.many.trans hk
  have h1 := PageAt.below h (Below.refl w.heap.size w).drew
  have m1 : w.cell? ⟨g, 16, none⟩ = some (.int .i64 16) := by rw [h.get, pageCells_many _ (by omega), hl]; rfl
  have m2 : w.drew.cell? ⟨g, 16, none⟩ = some (.int .i64 16) := m1
  have HG := Lib.hid h1.cells
  have HS := Lib.hid (show ∀ j v, (vs.drop 16)[j]? = some v → w.drew.cell? ((⟨g, 0, none⟩ : Addr).add j) = some v from fun j v hj => by
    have hj2 := (List.getElem?_eq_some_iff.1 hj).1
    rw [List.length_drop] at hj2
    rw [List.getElem?_drop] at hj
    first
      | (exfalso; omega)
      | (have e : (⟨g, 0, none⟩ : Addr).add j = ⟨g, 0 + j, none⟩ := by
          unfold Addr.add
          split
          · subst j; rfl
          · rfl
         rw [e]
         exact (h1.get (0 + j)).trans (pageCells_row vs hj)))
  have HO := Lib.hid (show ∀ v ∈ vs.drop 16, v.oneCell' = true from fun v hv => by
    obtain ⟨i, hi⟩ := List.mem_iff_getElem?.1 (List.mem_of_mem_drop hv)
    obtain ⟨A, c, e⟩ := (h.row i v (rows[i]'(by have := (List.getElem?_eq_some_iff.1 hi).1; rw [h.many] at this; exact this)) hi (List.getElem?_eq_getElem _)).1.shape
    rw [e]
    rfl)
  have H := Lib.hid h
  have LQ := Lib.hid (show (vs.drop 16).length = 0 by rw [List.length_drop, hl])
  have LP := Lib.hid (pageCells_len (vs := vs) (by omega))
  have HV := Lib.hid hl
  clear h h1 hl hk
  go_enter Tryz.func133, Tryz.ntmps133
  go_wp2_with fail
  go_region_law (refine step_copy_only rfl (.tmp 23) (.tmp 32) 167 167 rfl 60 rfl rfl ⟨g, 0, none⟩ 16 16 0 0 g 0 (by simp [Act.eval, Act.put]) (by simp [Act.eval, Act.put]) (pageCells vs) 141 HG.out (vs.drop 16) 0 LQ.out rfl HS.out (by rw [LQ.out, LP.out]; omega) HO.out ?_; intro w2 hg2 ho2)
  have G2 := Lib.hid (show w2.drew.heap[g]? = some (.cells (splice (pageCells vs) 0 (vs.drop 16)).toArray 141 (0, 0)) from hg2.out)
  have L2 := Lib.hid (show (splice (pageCells vs) 0 (vs.drop 16)).length = 17 by rw [length_splice _ _ _ (by rw [LQ.out, LP.out]; omega), LP.out])
  have c16 : (splice (pageCells vs) 0 (vs.drop 16))[16]? = some (.int .i64 16) := by
    unfold splice
    rw [List.take_zero, List.nil_append, List.getElem?_append_right (by rw [LQ.out]; omega), LQ.out, List.getElem?_drop, show 0 + 0 + (16 - 0) = 16 by omega, pageCells_many _ (by rw [HV.out]; omega), HV.out]
    rfl
  have m3 : w2.drew.cell? ⟨g, 16, none⟩ = some (.int .i64 16) := by
    rw [cell_of_row _ g 16 _ _ (0, 0) G2.out]
    simpa using c16
  clear c16 hg2
  have O2 := Lib.hid ho2.out
  clear ho2
  go_wp2_with fail
  go_region_law (refine step_clear_only rfl (.tmp 42) 167 rfl 60 rfl (.slice none 0 0) (fun _ => rfl) rfl rfl 16 16 g 0 (by simp [Act.eval, Act.put]) (splice (pageCells vs) 0 (vs.drop 16)) 141 G2.out (by rw [L2.out]; omega) ?_; intro w3 hg3 ho3)
  have ES : splice (splice (pageCells vs) 0 (vs.drop 16)) 0 (List.replicate 16 (.slice none 0 0)) = splice (splice (pageCells vs) 0 (vs.drop 16)) 0 (List.replicate 16 (.slice none 0 0)) := by first | rfl | simp [splice]
  have G3 := Lib.hid (show w3.heap[g]? = some (.cells (splice (splice (pageCells vs) 0 (vs.drop 16)) 0 (List.replicate 16 (.slice none 0 0))).toArray 141 (0, 0)) by rw [← ES]; exact hg3.out)
  clear ES
  have f3 : w3.frozen? ⟨g, 16, none⟩ = false := frozen_of_row w3 g 16 _ _ G3.out
  have m4 : ∃ v, w3.cell? ⟨g, 16, none⟩ = some v := by
    rw [cell_of_row _ g 16 _ _ (0, 0) G3.out]
    exact ⟨_, Array.getElem?_eq_getElem (by
      have e := length_splice (splice (pageCells vs) 0 (vs.drop 16)) 0 (List.replicate 16 (.slice none 0 0)) (by rw [L2.out, List.length_replicate]; omega)
      rw [L2.out] at e
      rw [List.size_toArray, e]
      omega)⟩
  obtain ⟨v16, m4⟩ := m4
  have O3 := Lib.hid (show OnlyRow g w w3 from (OnlyRow.ofDrew O2.out).trans (OnlyRow.ofDrew ho3.out))
  clear hg3 ho3 m3
  go_wp2
  have O4 := O3.out.trans (OnlyRow.cell g 16 w3 (.int .i64 0))
  have G4 : (w3.setCell ⟨g, 16, none⟩ (.int .i64 0)).heap[g]? = some (.cells (pageCells (vs.drop 16)).toArray 141 (0, 0)) := by
    rw [heap_setCell_same w3 g 16 _ _ (.int .i64 0) G3.out, ← pageCells_cut vs 16 0 HV.out (by omega)]
    congr 2
    simp
  go_ret
  exact ⟨rfl, H.out.cut O4 16 G4, O4⟩
theorem pageCut_noneOfSixteen (base g : Nat) (vs : List Value) (rows : List PRow) (w : World) (h : PageAt w base g vs rows) (hk : rows.length = 16) :
    Calls Tryz.prog 133 #[.pointer (some ⟨g, 0, none⟩), .int .i64 0] w fun e w' => e = .returned (.bool true) ∧ PageAt w' base g (vs.drop 0) (rows.drop 0) ∧ OnlyRow g w w' := by
  have hl : vs.length = 16 := h.many.trans hk
  have h1 := PageAt.below h (Below.refl w.heap.size w).drew
  have m1 : w.cell? ⟨g, 16, none⟩ = some (.int .i64 16) := by rw [h.get, pageCells_many _ (by omega), hl]; rfl
  have m2 : w.drew.cell? ⟨g, 16, none⟩ = some (.int .i64 16) := m1
  have HG := Lib.hid h1.cells
  have HS := Lib.hid (show ∀ j v, (vs.drop 0)[j]? = some v → w.drew.cell? ((⟨g, 0, none⟩ : Addr).add j) = some v from fun j v hj => by
    have hj2 := (List.getElem?_eq_some_iff.1 hj).1
    rw [List.length_drop] at hj2
    rw [List.getElem?_drop] at hj
    first
      | (exfalso; omega)
      | (have e : (⟨g, 0, none⟩ : Addr).add j = ⟨g, 0 + j, none⟩ := by
          unfold Addr.add
          split
          · subst j; rfl
          · rfl
         rw [e]
         exact (h1.get (0 + j)).trans (pageCells_row vs hj)))
  have HO := Lib.hid (show ∀ v ∈ vs.drop 0, v.oneCell' = true from fun v hv => by
    obtain ⟨i, hi⟩ := List.mem_iff_getElem?.1 (List.mem_of_mem_drop hv)
    obtain ⟨A, c, e⟩ := (h.row i v (rows[i]'(by have := (List.getElem?_eq_some_iff.1 hi).1; rw [h.many] at this; exact this)) hi (List.getElem?_eq_getElem _)).1.shape
    rw [e]
    rfl)
  have H := Lib.hid h
  have LQ := Lib.hid (show (vs.drop 0).length = 16 by rw [List.length_drop, hl])
  have LP := Lib.hid (pageCells_len (vs := vs) (by omega))
  have HV := Lib.hid hl
  clear h h1 hl hk
  go_enter Tryz.func133, Tryz.ntmps133
  go_wp2_with fail
  go_region_law (refine step_copy_only rfl (.tmp 23) (.tmp 32) 167 167 rfl 60 rfl rfl ⟨g, 0, none⟩ 16 16 16 16 g 0 (by simp [Act.eval, Act.put]) (by simp [Act.eval, Act.put]) (pageCells vs) 141 HG.out (vs.drop 0) 16 LQ.out rfl HS.out (by rw [LQ.out, LP.out]; omega) HO.out ?_; intro w2 hg2 ho2)
  have G2 := Lib.hid (show w2.drew.heap[g]? = some (.cells (splice (pageCells vs) 0 (vs.drop 0)).toArray 141 (0, 0)) from hg2.out)
  have L2 := Lib.hid (show (splice (pageCells vs) 0 (vs.drop 0)).length = 17 by rw [length_splice _ _ _ (by rw [LQ.out, LP.out]; omega), LP.out])
  have c16 : (splice (pageCells vs) 0 (vs.drop 0))[16]? = some (.int .i64 16) := by
    unfold splice
    rw [List.take_zero, List.nil_append, List.getElem?_append_right (by rw [LQ.out]; omega), LQ.out, List.getElem?_drop, show 0 + 16 + (16 - 16) = 16 by omega, pageCells_many _ (by rw [HV.out]; omega), HV.out]
    rfl
  have m3 : w2.drew.cell? ⟨g, 16, none⟩ = some (.int .i64 16) := by
    rw [cell_of_row _ g 16 _ _ (0, 0) G2.out]
    simpa using c16
  clear c16 hg2
  have O2 := Lib.hid ho2.out
  clear ho2
  go_wp2_with fail
  go_region_law (refine step_clear_only rfl (.tmp 42) 167 rfl 60 rfl (.slice none 0 0) (fun _ => rfl) rfl rfl 0 0 g 0 (by simp [Act.eval, Act.put]) (splice (pageCells vs) 0 (vs.drop 0)) 141 G2.out (by rw [L2.out]; omega) ?_; intro w3 hg3 ho3)
  have ES : splice (splice (pageCells vs) 0 (vs.drop 0)) 0 (List.replicate 0 (.slice none 0 0)) = splice (splice (pageCells vs) 0 (vs.drop 0)) 16 (List.replicate 0 (.slice none 0 0)) := by first | rfl | simp [splice]
  have G3 := Lib.hid (show w3.heap[g]? = some (.cells (splice (splice (pageCells vs) 0 (vs.drop 0)) 16 (List.replicate 0 (.slice none 0 0))).toArray 141 (0, 0)) by rw [← ES]; exact hg3.out)
  clear ES
  have f3 : w3.frozen? ⟨g, 16, none⟩ = false := frozen_of_row w3 g 16 _ _ G3.out
  have m4 : ∃ v, w3.cell? ⟨g, 16, none⟩ = some v := by
    rw [cell_of_row _ g 16 _ _ (0, 0) G3.out]
    exact ⟨_, Array.getElem?_eq_getElem (by
      have e := length_splice (splice (pageCells vs) 0 (vs.drop 0)) 16 (List.replicate 0 (.slice none 0 0)) (by rw [L2.out, List.length_replicate]; omega)
      rw [L2.out] at e
      rw [List.size_toArray, e]
      omega)⟩
  obtain ⟨v16, m4⟩ := m4
  have O3 := Lib.hid (show OnlyRow g w w3 from (OnlyRow.ofDrew O2.out).trans (OnlyRow.ofDrew ho3.out))
  clear hg3 ho3 m3
  go_wp2
  have O4 := O3.out.trans (OnlyRow.cell g 16 w3 (.int .i64 16))
  have G4 : (w3.setCell ⟨g, 16, none⟩ (.int .i64 16)).heap[g]? = some (.cells (pageCells (vs.drop 0)).toArray 141 (0, 0)) := by
    rw [heap_setCell_same w3 g 16 _ _ (.int .i64 16) G3.out, ← pageCells_cut vs 0 16 HV.out (by omega)]
    congr 2
    simp
  go_ret
  exact ⟨rfl, H.out.cut O4 0 G4, O4⟩
theorem pageCut_walk (base g : Nat) (vs : List Value) (rows : List PRow) (k : Nat) (w : World) (h : PageAt w base g vs rows) (hk : k ≤ rows.length) :
    Calls Tryz.prog 133 #[.pointer (some ⟨g, 0, none⟩), .int .i64 (k : Int)] w fun e w' => e = .returned (.bool true) ∧ PageAt w' base g (vs.drop k) (rows.drop k) ∧ OnlyRow g w w' := by
  by_cases h1 : k = 16
  · subst h1
    exact pageCut_allSixteen base g vs rows w h (by have := h.few; omega)
  · by_cases h2 : k = 0 ∧ rows.length = 16
    · obtain ⟨rfl, e⟩ := h2
      exact pageCut_noneOfSixteen base g vs rows w h e
    · exact pageCut_main base g vs rows k w h hk (fun e => h1 e.symm) h2
