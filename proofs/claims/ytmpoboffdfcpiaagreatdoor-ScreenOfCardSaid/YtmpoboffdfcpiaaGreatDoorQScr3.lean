import Derived.Test.YtmpoboffdfcpiaaGreatDoorQScr2
import Derived.Lib.OthersKept
import Derived.Lib.IndexLaws
import Derived.WalkMore
set_option maxRecDepth 100000
set_option maxHeartbeats 6400000
namespace Go.Proofs.YtmpoboffdfcpiaaGreatDoor
open Go.ChangeShapes Go.WideShapes Go.ChangeAt Go.RowKit
namespace Sc
open Rw
theorem cursor_walk {p g : Nat} {s : Scr} {xs : List RowIn} (w : World) (h : ScAt w p g s xs) : Calls Tryz.prog 52 #[ptrS p] w fun e w' => e = .returned (.agg #[.int .i64 (s.r : Int), .int .i64 (s.c : Int)]) ∧ Below w.heap.size w w' := by
 have b1 := (Below.refl w.heap.size w).alloc (Nat.le_refl _) (.cells #[.int .i64 0, .int .i64 0] 24)
 have h1 := h.laid b1
 have k2 : (w.alloc (.cells #[.int .i64 0, .int .i64 0] 24)).cell? ⟨p, 2, none⟩ = some (.int .i64 (s.r : Int)) := h1.get 2
 have k3 : (w.alloc (.cells #[.int .i64 0, .int .i64 0] 24)).cell? ⟨p, 3, none⟩ = some (.int .i64 (s.c : Int)) := h1.get 3
 have B1 := Lib.hid (show ∀ u v, Below w.heap.size w (w.alloc (.cells #[u, v] 24)) from fun u v => (Below.refl w.heap.size w).alloc (Nat.le_refl _) _)
 clear h h1 b1
 go_enter Tryz.func52, Tryz.ntmps52
 go_wp2
 exact bodyPost_ret (v := .agg #[.int .i64 (s.r : Int), .int .i64 (s.c : Int)]) (by simp [results, Tryz.results52, go_sem]) rfl ⟨rfl, B1.out _ _⟩
def lastB : ByteArray := ⟨#[65, 66, 67, 68, 72, 74, 75, 109]⟩
theorem contains_walk (r : Int) (b : Bool) (hr : 0 ≤ r ∧ r < 128) (hb : decide (0 ≤ Lib.indexByte lastB.data.toList r.toNat.toUInt8) = b) (w : World) : Calls Tryz.prog 116 #[.string { data := #[65, 66, 67, 68, 72, 74, 75, 109] }, .int .i32 r] w fun e w' => e = .returned (.bool b) ∧ w' = w := by
 refine (Tryz.strings_ContainsRune_ascii lastB r w hr.1 hr.2).mono ?_
 rintro e w' ⟨rfl, rfl⟩
 rw [hb]
 exact ⟨rfl, rfl⟩
theorem Done.told {p g : Nat} {s' : Scr} {wd : Nat} {xs : List RowIn} {w w1 : World} (hw : Below w.heap.size w w1) {e : Ending} {w' : World} (h : Done p g s' xs w1 e w') : Told p g s' [] wd xs w (.returned (.slice none 0 0)) w' := by
 obtain ⟨_, xs', h1, h2⟩ := h
 exact told_none h1 ((Went.laid hw).trans h2)
theorem do_walk {p g : Nat} {s : Scr} {xs : List RowIn} (k r : Int) (A : Option Addr) (n c : Nat) (str : ByteArray) (l : List Int) (w : World) (h : ScAt w p g s xs)
  (CP : k = 1 → ∀ W, Below w.heap.size w W → Calls Tryz.prog 65 #[ptrS p, .int .i32 r] W fun e w' => Told p g (printS s r) (printO s r) s.w xs W e w')
  (CT : k = 2 → ∀ W, Below w.heap.size w W → Calls Tryz.prog 66 #[ptrS p, .int .i32 r] W fun e w' => Told p g (ctrlS s r) (ctrlO s r) s.w xs W e w')
  (CS : k = 3 → ∀ W, Below w.heap.size w W → Calls Tryz.prog 67 #[ptrS p, .int .i32 r, .slice A n c] W fun e w' => Done p g (csiS s r l) xs W e w') :
  Calls Tryz.prog 19 #[ptrS p, .agg #[.int .i64 k, .int .i32 r, .slice A n c, .string str]] w fun e w' => Told p g (doS s k r l) (doO s k r) s.w xs w e w' := by
 have B1 := Lib.hid (show Below w.heap.size w (w.alloc (.cells #[.int .i64 k, .int .i32 r, .slice A n c, .string str] 27)) from (Below.refl _ _).alloc (Nat.le_refl _) _)
 have k1 : (w.alloc (.cells #[.int .i64 k, .int .i32 r, .slice A n c, .string str] 27)).cell? ⟨p, 1, none⟩ = some (.slice (some ⟨g, 0, none⟩) s.rows.length s.rows.length) := (h.laid B1.out).get 1
 have hl1 : s.rows.length ≠ 0 := by have := h.ok.h1; omega
 have hl0 : ((s.rows.length : Int) == 0) = false := by simp; exact fun e => hl1 (by rw [e]; rfl)
 have hl2 : s.rows ≠ [] := fun e => hl1 (by rw [e]; rfl)
 have TN := Lib.hid (told_none (wd := s.w) (h.laid B1.out) (Went.laid B1.out))
 clear h
 by_cases e1 : k = 1
 ·subst e1
  have P := Lib.hid (CP rfl (w.alloc (.cells #[.int .i64 1, .int .i32 r, .slice A n c, .string str] 27)) B1.out)
  have eS : doS s 1 r l = printS s r := rfl
  have eO : doO s 1 r = printO s r := rfl
  rw [eS, eO]
  clear CP CT CS eS eO
  go_enter Tryz.func19, Tryz.ntmps19
  go_wp2_with fail
  refine P.out.mono ?_
  rintro e w2 ⟨v, ys, xs', rfl, t⟩
  have T := Lib.hid (Told.behind ⟨v, ys, xs', rfl, t⟩ (Went.laid B1.out))
  clear t P
  go_wp2
  go_ret
  exact T.out
 by_cases e2 : k = 2
 ·subst e2
  have P := Lib.hid (CT rfl (w.alloc (.cells #[.int .i64 2, .int .i32 r, .slice A n c, .string str] 27)) B1.out)
  have eS : doS s 2 r l = ctrlS s r := rfl
  have eO : doO s 2 r = ctrlO s r := rfl
  rw [eS, eO]
  clear CP CT CS eS eO
  go_enter Tryz.func19, Tryz.ntmps19
  go_wp2_with fail
  refine P.out.mono ?_
  rintro e w2 ⟨v, ys, xs', rfl, t⟩
  have T := Lib.hid (Told.behind ⟨v, ys, xs', rfl, t⟩ (Went.laid B1.out))
  clear t P
  go_wp2
  go_ret
  exact T.out
 by_cases e3 : k = 3
 ·subst e3
  have P := Lib.hid (CS rfl (w.alloc (.cells #[.int .i64 3, .int .i32 r, .slice A n c, .string str] 27)) B1.out)
  have eS : doS s 3 r l = csiS s r l := rfl
  have eO : doO s 3 r = [] := rfl
  rw [eS, eO]
  clear CP CT CS eS eO
  go_enter Tryz.func19, Tryz.ntmps19
  go_wp2_with fail
  refine P.out.mono ?_
  rintro e w2 ⟨⟨_, rfl⟩, t⟩
  have T := Lib.hid (Done.told (wd := s.w) B1.out (show Done p g (csiS s r l) xs _ (.returned (.tuple #[])) w2 from ⟨⟨_, rfl⟩, t⟩))
  clear t P
  go_wp2
  go_ret
  exact T.out
 have eS : doS s k r l = s := by unfold doS; rw [if_neg e1, if_neg e2, if_neg e3]
 have eO : doO s k r = [] := by unfold doO; rw [if_neg e1, if_neg e2]
 rw [eS, eO]
 have b1 : (k == 1) = false := by simpa using e1
 have b2 : (k == 2) = false := by simpa using e2
 have b3 : (k == 3) = false := by simpa using e3
 clear CP CT CS eS eO e1 e2 e3
 go_enter Tryz.func19, Tryz.ntmps19
 go_wp2
 go_ret
 exact TN.out
end Sc
namespace Sc
open Rw
def nils (k : Nat) : List Value := (List.replicate k [Value.slice none 0 0, Value.bool false]).flatten
theorem nils_length (k : Nat) : (nils k).length = k * 2 := by
 unfold nils
 rw [List.length_flatten]
 simp
theorem nils_succ (k : Nat) : nils (k + 1) = Value.slice none 0 0 :: Value.bool false :: nils k := by unfold nils; rw [List.replicate_succ, List.flatten_cons]; rfl
theorem nils_get : ∀ (k i : Nat), i < k * 2 → (nils k)[i]? = some (if i % 2 = 0 then .slice none 0 0 else .bool false)
 | 0, i, h => by omega
 | k + 1, i, h => by
  rw [nils_succ]
  match i with
  | 0 => rfl
  | 1 => rfl
  | i + 2 =>
   have := nils_get k i (by omega)
   rw [List.getElem?_cons_succ, List.getElem?_cons_succ, this, show (i + 2) % 2 = i % 2 by omega]
theorem made_nils (k : Nat) : madeCells (Value.agg #[.slice none 0 0, .bool false]).cells (k * 2) = (nils k).toArray := by
 apply Array.ext'
 refine List.ext_getElem? fun i => ?_
 rw [Array.getElem?_toList]
 by_cases h : i < k * 2
 ·rw [show (nils k).toArray.toList = nils k from rfl, nils_get k i h]
  unfold madeCells
  rw [Array.getElem?_map, Array.getElem?_range, if_pos h]
  have h2 : i % 2 = 0 ∨ i % 2 = 1 := by omega
  have hs : (Value.agg #[.slice none 0 0, .bool false]).cells = #[.slice none 0 0, .bool false] := rfl
  rw [hs]
  rcases h2 with e | e
  ·simp [e]
  ·simp [e]
 ·rw [show (nils k).toArray.toList = nils k from rfl, List.getElem?_eq_none (by rw [nils_length]; omega), Array.getElem?_eq_none (by rw [size_madeCells]; omega)]
def mcells (wd : Nat) (a : Int) (g n : Nat) : Array Value := #[.int .i64 (wd : Int), .slice (some ⟨g, 0, none⟩) n n, .int .i64 0, .int .i64 0, .int .i64 a]
structure Made (W : World) (B p g wd : Nat) (a : Int) (T : List SR) (i : Nat) (xs : List RowIn) : Prop where
 scr : W.heap[p]? = some (.cells (mcells wd a g T.length) 93 (0, 0))
 rows : W.heap[g]? = some (.cells (xs.flatMap RowIn.vals ++ nils (T.length - i)).toArray 58 (0, 0))
 len : xs.length = i
 same : xs.map sr = T.take i
 each : ∀ x ∈ xs, HasC W 0 (.slice x.A x.n x.c) x.l ∧ x.n = wd
 apart : (xs.map RowIn.A).Nodup
 new' : ∀ x ∈ xs, ∃ k, x.A = some ⟨k, 0, none⟩ ∧ B ≤ k
namespace Made
variable {W W' : World} {B p g wd i : Nat} {a : Int} {T : List SR} {xs : List RowIn}
theorem typ (h : Made W B p g wd a T i xs) : Typed W 93 p := ⟨_, _, h.scr⟩
theorem tyg (h : Made W B p g wd a T i xs) : Typed W 58 g := ⟨_, _, h.rows⟩
theorem ne (h : Made W B p g wd a T i xs) : p ≠ g := h.typ.apart h.tyg (by decide)
theorem ltp (h : Made W B p g wd a T i xs) : p < W.heap.size := (Array.getElem?_eq_some_iff.1 h.scr).1
theorem ltg (h : Made W B p g wd a T i xs) : g < W.heap.size := (Array.getElem?_eq_some_iff.1 h.rows).1
theorem laid (h : Made W B p g wd a T i xs) (hb : Below W.heap.size W W') : Made W' B p g wd a T i xs :=
 ⟨(hb.block p h.ltp).trans h.scr, (hb.block g h.ltg).trans h.rows, h.len, h.same, fun x hx => ⟨hasC_turned (M := fun _ => False) (h.each x hx).1 (Turned.ofBelow hb _) (fun _ f => f.elim), (h.each x hx).2⟩, h.apart, h.new'⟩
theorem cell (h : Made W B p g wd a T i xs) (hi : i < T.length) : W.cell? ⟨g, i * 2, none⟩ = some (.slice none 0 0) ∧ W.cell? ⟨g, i * 2 + 1, none⟩ = some (.bool false) ∧ W.frozen? ⟨g, i * 2, none⟩ = false ∧ W.frozen? ⟨g, i * 2 + 1, none⟩ = false := by
 have hl := vals_length xs
 rw [h.len] at hl
 obtain ⟨m, hm⟩ : ∃ m, T.length - i = m + 1 := ⟨T.length - i - 1, by omega⟩
 have hr := h.rows
 rw [hm, nils_succ] at hr
 refine ⟨?_, ?_, frozen_of_row W g _ _ _ hr, frozen_of_row W g _ _ _ hr⟩
 ·rw [cell_of_row W g _ _ _ (0, 0) hr, List.getElem?_toArray, List.getElem?_append_right (by omega), hl, Nat.sub_self]; rfl
 ·rw [cell_of_row W g _ _ _ (0, 0) hr, List.getElem?_toArray, List.getElem?_append_right (by omega), hl, show i * 2 + 1 - i * 2 = 1 by omega]; rfl
theorem step (h : Made W B p g wd a T i xs) (hw : 2 ≤ wd) (hB : B ≤ W.heap.size) {A : Option Addr} {n c : Nat} {l : List Cel} {wr : Bool} (hT : T[i]? = some (l, wr)) (hl : l.length = wd) (hb : Below W.heap.size W W') (hc : HasC W' W.heap.size (.slice A n c) l) :
  ∃ xs', Made ((W'.setCell ⟨g, i * 2, none⟩ (.slice A n c)).setCell ⟨g, i * 2 + 1, none⟩ (.bool wr)) B p g wd a T (i + 1) xs' := by
 have hi := (List.getElem?_eq_some_iff.1 hT).1
 have hn : n = wd := by
  obtain ⟨_, _, e, _⟩ := HasC.shape hc
  injection e with _ e _
  rw [e, hl]
 obtain ⟨k, hk, hk1, hk2⟩ := fresh_row hc (by omega)
 have h' := h.laid hb
 have ht : Turned (· = g) W' ((W'.setCell ⟨g, i * 2, none⟩ (.slice A n c)).setCell ⟨g, i * 2 + 1, none⟩ (.bool wr)) := Turned.ofOnly ((OnlyRow.cell g _ W' _).trans (OnlyRow.cell g _ _ _))
 have hno : ∀ j, j = g → ¬ Typed W' 62 j := fun j e ty => by subst e; exact h'.tyg.apart ty (by decide) rfl
 refine ⟨xs ++ [⟨A, n, c, wr, l⟩], ?_, ?_, by rw [List.length_append, h.len]; rfl, ?_, fun z hz => ?_, ?_, fun z hz => ?_⟩
 ·exact (ht.block p h'.ltp h'.ne).trans h'.scr
 ·rw [heap_setCell_same _ g _ _ _ _ (heap_setCell_same W' g _ _ _ _ h'.rows)]
  have hvl := vals_length xs
  rw [h.len] at hvl
  obtain ⟨m, hm⟩ : ∃ m, T.length - i = m + 1 := ⟨T.length - i - 1, by omega⟩
  have hm' : T.length - (i + 1) = m := by omega
  rw [hm, hm', nils_succ]
  have e : (((xs.flatMap RowIn.vals ++ Value.slice none 0 0 :: Value.bool false :: nils m).set (i * 2) (.slice A n c)).set (i * 2 + 1) (.bool wr)) = (xs ++ [(⟨A, n, c, wr, l⟩ : RowIn)]).flatMap RowIn.vals ++ nils m := by
   rw [List.set_append_right _ _ (by omega), hvl, Nat.sub_self, List.set_append_right _ _ (by omega), hvl, show i * 2 + 1 - i * 2 = 1 by omega, List.flatMap_append, List.append_assoc]
   rfl
  rw [← e]
  simp only [List.setIfInBounds_toArray]
 ·rw [List.map_append, h.same, List.take_add_one, hT]
  rfl
 ·rcases List.mem_append.1 hz with hz | hz
  ·exact ⟨hasC_turned (h'.each z hz).1 ht hno, (h'.each z hz).2⟩
  ·rw [List.mem_singleton.1 hz]
   exact ⟨hasC_turned (HasC.mono hc (Nat.zero_le _)) ht hno, hn⟩
 ·rw [List.map_append, List.map_cons, List.map_nil]
  refine List.nodup_append.2 ⟨h.apart, by simp, fun x hx y hy => ?_⟩
  obtain ⟨z, hz, rfl⟩ := List.mem_map.1 hx
  rw [List.mem_singleton.1 hy]
  intro e
  obtain ⟨k', hk', _, hlt⟩ := fresh_row (h.each z hz).1 (by rw [(h.each z hz).2]; omega)
  rw [hk'] at e
  rw [hk] at e
  injection e with e
  injection e with e
  omega
 ·rcases List.mem_append.1 hz with hz | hz
  ·exact h.new' z hz
  ·rw [List.mem_singleton.1 hz]
   exact ⟨k, hk, by omega⟩
theorem full (h : Made W B p g wd a T T.length xs) (ho : Ok ⟨wd, T, 0, 0, a⟩) : ScAt W p g ⟨wd, T, 0, 0, a⟩ xs :=
 ⟨ho, by rw [h.same, List.take_length], h.scr, by have := h.rows; rw [Nat.sub_self] at this; simpa [nils] using this, h.each, h.apart⟩
end Made
def fitL (w : Nat) (l : List Cel) : List Cel :=
 let x := l.take w ++ blanksL (w - l.length)
 if (cAt x (w - 1)).2.1 = 2 then x.set (w - 1) (32, 1, 0) else x
def fitS (w : Nat) : Option SR → SR
 | none => (blanksL w, false)
 | some (l, wr) => if mayL l then (fitL w l, wr) else (blanksL w, false)
def clampN (x lo hi : Int) : Nat := (min (max x lo) hi).toNat
def rowsOfS (rows : List SR) (w h : Nat) : List SR := (List.range h).map fun i => fitS w rows[i]?
def ofS (rows : List SR) (w h ar ac a : Int) : Scr :=
 {w := clampN w 2 300, rows := rowsOfS rows (clampN w 2 300) (clampN h 1 100), r := clampN ar 0 ((clampN h 1 100 : Int) - 1), c := clampN ac 0 (clampN w 2 300), a := modA a }
theorem rowsOfS_length (rows : List SR) (w h : Nat) : (rowsOfS rows w h).length = h := by unfold rowsOfS; simp
theorem rowsOfS_get {rows : List SR} {w h i : Nat} (hi : i < h) : (rowsOfS rows w h)[i]? = some (fitS w rows[i]?) := by
 unfold rowsOfS
 rw [List.getElem?_map, List.getElem?_range hi]
 rfl
def OfPost (s : Scr) (W : World) (e : Ending) (W' : World) : Prop :=
 ∃ p g xs, e = .returned (ptrS p) ∧ ScAt W' p g s xs ∧ W.heap.size ≤ p ∧ W.heap.size ≤ g ∧ (∀ x ∈ xs, ∃ k, x.A = some ⟨k, 0, none⟩ ∧ W.heap.size ≤ k) ∧ Below W.heap.size W W'
end Sc
namespace Sc
open Rw
theorem cloneCells_walk {n c b o : Nat} {l : List Cel} (w : World) (hq : Sq w w.heap.size 3 n (some ⟨b, o, none⟩) (flat l)) (hn : n ≤ 1000000) :
  Calls Tryz.prog 90 #[.slice (some ⟨b, o, none⟩) n c] w fun e w' => ∃ A c', e = .returned (.slice A n c') ∧ HasC w' w.heap.size (.slice A n c') l ∧ Below w.heap.size w w' := by
 obtain ⟨i0, hi, hz0, hz1, hz2⟩ := info_parts infoCell
 have q22 : ∀ (w : World) (a : Option Addr) (n c n' c' : Nat), (binOp .eql 51 (.slice a n c) (.slice none n' c')).run Tryz.prog w = .ok (.bool a.isNone) w := fun w a n c n' c' => Lib.run_eql_slice_nil w _ _ a n c n' c' Tryz.underlying51
 have hln : l.length = n := by have := hq.len; rw [flat_length] at this; omega
 have LN := Lib.hid hln
 have QQ := Lib.hid (hq.alloc (Nat.le_refl _) (.cells #[] 62))
 clear hq hln
 go_enter Tryz.func90, Tryz.ntmps90
 go_wp2_with (
  at_builtin
  refine wpl_app rfl _ _ 51 rfl w.heap.size 62 i0 (.agg #[.int .i32 0, .int .i64 0, .int .i64 0]) 3 24 Tryz.underlying51 hi hz0 hz1 hz2 rfl (by decide) (.slice (some ⟨w.heap.size, 0, none⟩) 0 0) 0 [] rfl (World.ownsRow_made w #[] 0 (Nat.le_refl _) (Nat.zero_le _) rfl) (some ⟨b, o, none⟩) n c (flat l) rfl w.heap.size QQ.out (flat_one _) (by unfold maxLen; omega) (by omega) (by simp) ?_
  intro v1 w1 hown hg _
  have HO := Lib.hid (show HasC w1 w.heap.size v1 l by unfold HasC; rw [LN.out]; simpa using hown)
  have HB := Lib.hid (((Below.refl w.heap.size w).alloc (Nat.le_refl _) (.cells #[] 62)).grown hg (by simp) (fun k e => by simp [Value.ownBlock] at e; omega))
  clear hown hg)
 obtain ⟨A, c', e, _⟩ := HasC.shape HO.out
 rw [LN.out] at e
 subst e
 go_ret
 exact ⟨A, c', rfl, HO.out, HB.out⟩
structure Shown (w : World) (wd : Nat) (R : List SR) (v : Value) (ys : List RowIn) (W : World) : Prop where
 rows : RowsIn W w.heap.size v ys
 same : ys.map sr = R
 each : ∀ y ∈ ys, y.n = wd ∧ ∃ k, y.A = some ⟨k, 0, none⟩ ∧ w.heap.size ≤ k
 old : Below w.heap.size w W
theorem rows_walk {p g : Nat} {s : Scr} {xs : List RowIn} (w : World) (h : ScAt w p g s xs) : Calls Tryz.prog 49 #[ptrS p] w fun e w' => ∃ v ys, e = .returned v ∧ Shown w s.w s.rows v ys w' := by
 obtain ⟨i0, hi, hz0, hz1, hz2⟩ := info_parts infoRow'
 obtain ⟨hn, hhn⟩ : ∃ hn, s.rows.length = hn := ⟨_, rfl⟩
 have h1 := h.ok.h1
 have h2 := h.ok.h2
 rw [hhn] at h1 h2
 have k1 : w.cell? ⟨p, 1, none⟩ = some (.slice (some ⟨g, 0, none⟩) hn hn) := by rw [← hhn]; exact h.get 1
 have H := Lib.hid h
 have T0 := Lib.hid (show Shown w s.w (s.rows.take 0) (.slice none 0 0) [] w from ⟨RowsIn.nothing _ _, rfl, (fun _ h => by cases h), Below.refl _ _⟩)
 clear h
 go_enter Tryz.func49, Tryz.ntmps49
 go_wp2_with fail
 go_loopw [3, 5, 13] (fun v3 _ v13 wr => ∃ (i : Nat) (ys : List RowIn), v13 = .int .i64 i ∧ i ≤ hn ∧ ys.length = i ∧ Hid (Shown w s.w (s.rows.take i) v3 ys wr)) (fun _ _ v13 _ => hn - (intOf v13).toNat)
 case atStart => exact ⟨0, [], rfl, Nat.zero_le _, rfl, T0⟩
 case round =>
  obtain ⟨i, ys, rfl, hi', hyl, TR⟩ := hrel
  clear T0
  by_cases hlt : i < hn
  ·have hlt' : (i : Int) < (hn : Int) := by omega
   have hi0 : (0 : Int) ≤ (i : Int) := by omega
   have hR := H.out.laid TR.out.old
   obtain ⟨x, hx, hsr, hc, hxn, _, hxl, hxs⟩ := hR.at' (i := i) (by rw [hhn]; exact hlt)
   have g0 : wr.cell? ⟨g, i * 2, none⟩ = some (.slice x.A x.n x.c) := (hR.row hx).1
   have g1 : wr.cell? ⟨g, i * 2 + 1, none⟩ = some (.bool x.wrap) := (hR.row hx).2
   have hinc : IntKind.i64.wrap ((i : Int) + 1) = (i : Int) + 1 := IntWalk.i64_in _ (by omega)
   have HX := Lib.hid (show (∃ k, x.A = some ⟨k, 0, none⟩) ∧ x.n = s.w ∧ s.rows[i]? = some (sr x) ∧ x.l.length = s.w ∧ (∀ c ∈ x.l, -2147483648 ≤ c.1 ∧ c.1 ≤ 2147483647) ∧ Sq wr wr.heap.size 3 x.n x.A (flat x.l) from by
    obtain ⟨k, hk, _⟩ := fresh_row hc (by have := H.out.ok.w2; omega)
    exact ⟨⟨k, hk⟩, hxn, hsr, hxl, hxs, hR.sq hx⟩)
   clear hR hsr hc hxn hxl hxs k1
   go_wp2_with fail
   obtain ⟨w5, hw5⟩ : ∃ w5, wr.alloc (.cells #[.slice x.A x.n x.c, .bool x.wrap] 58) = w5 := ⟨_, rfl⟩
   obtain ⟨b5, hb5⟩ : ∃ b5, wr.heap.size = b5 := ⟨_, rfl⟩
   have bb5 : Below wr.heap.size wr w5 := by rw [← hw5]; exact (Below.refl _ _).alloc (Nat.le_refl _) _
   have q5 : w5.drew.heap[b5]? = some (.cells #[.slice x.A x.n x.c, .bool x.wrap] 58 (0, 0)) := by rw [← hb5, ← hw5]; exact heap_alloc_new wr _
   have z5 : w5.drew.heap.size = b5 + 1 := by rw [← hb5, ← hw5]; simp
   rw [hw5, hb5]
   obtain ⟨⟨kx, hkx⟩, hxn, hsr, hxl, hxs, hxq⟩ := HX.out
   have bd5 := bb5.drew
   have R5 := TR.out.rows.below bd5
   have o5 : Below w.heap.size w w5.drew := TR.out.old.trans (bd5.mono TR.out.old.size)
   have xn1 : x.n ≤ 1000000 := by rw [hxn]; have := H.out.ok.w3; omega
   have CC := cloneCells_walk (n := x.n) (c := x.c) (b := kx) (o := 0) (l := x.l) w5.drew (by rw [← hkx]; exact (hxq.below bd5).up bd5.size) xn1
   have hgt : ∀ W A c, (HasC W w5.drew.heap.size (.slice A x.n c) x.l ∧ Below w5.drew.heap.size w5.drew W) → W.heap[b5]? = w5.drew.heap[b5]? := fun W A c hK => hK.2.block b5 (by omega)
   have hga : ∀ W A7 c7, (HasC W w5.drew.heap.size (.slice A7 x.n c7) x.l ∧ Below w5.drew.heap.size w5.drew W) → Below w5.drew.heap.size w5.drew (W.alloc (.cells #[.slice A7 x.n c7, .bool x.wrap] 58)) := fun W A7 c7 hK => hK.2.alloc hK.2.size _
   have hu3 : ∀ j, u3.ownBlock = some j → j < wr.heap.size := fun j e => (TR.out.rows.lt j e).2
   refine Ord.start (S := fun W => W.heap[b5]? = w5.drew.heap[b5]?) (n := 10) (by kernel_rfl) (by kernel_rfl) rfl ?_
   apply rows_region (w1 := w5.drew) (b5 := b5) (xn := x.n) (xc := x.c) (n := i) (base := w.heap.size) (xA := x.A) (xw := x.wrap) (vo := u3) (xsv := ys.flatMap RowIn.vals) (p0 := ptrS p) (p1 := undef) (p2 := .slice none 0 0) (p4 := undef) (p6 := ptrS p) (p7 := .bool false) (p8 := ptrS p) (p9 := .pointer (some ⟨p, 0, none⟩)) (p10 := .pointer (some ⟨p, 1, none⟩)) (p11 := .slice (some ⟨g, 0, none⟩) hn hn) (p12 := .int .i64 (hn : Int)) (p13 := .int .i64 (i : Int)) (p14 := .bool true) (p15 := .pointer (some ⟨g, i * 2, none⟩)) (p16 := .agg #[.slice x.A x.n x.c, .bool x.wrap]) (p26 := u26) (p27 := undef) (K := fun W A c => HasC W w5.drew.heap.size (.slice A x.n c) x.l ∧ Below w5.drew.heap.size w5.drew W) (i0 := i0)
   case hi => exact hi
   case hz0 => exact hz0
   case hz1 => exact hz1
   case hz2 => exact hz2
   case R => exact ⟨by kernel_rfl, by kernel_rfl⟩
   case hQ => exact fun _ _ _ _ _ h => h
   case k0 => exact fun W e => cell_of_row W b5 0 _ _ (0, 0) (e.trans q5)
   case k1 => exact fun W e => cell_of_row W b5 1 _ _ (0, 0) (e.trans q5)
   case CL =>
    rw [hkx]
    refine CC.mono ?_
    rintro e w' ⟨A, c', rfl, h1, h2⟩
    exact ⟨A, c', rfl, h1, h2⟩
   case KS => exact hgt
   case KS2 => exact fun W A7 c7 hK => (hga W A7 c7 hK).block b5 (by omega)
   case KO => exact fun W A7 c7 hK => by have := (R5.below (hga W A7 c7 hK)).own; rw [hyl] at this; exact this
   case KB => exact fun W A7 c7 hK => Nat.le_trans o5.size (hga W A7 c7 hK).size
   case KQ =>
    intro W A7 c7 hK b hb
    have e := heap_alloc_new W (.cells #[.slice A7 x.n c7, .bool x.wrap] 58)
    refine ⟨rfl, fun _ => ⟨b, 0, rfl, by simp; omega, fun j u hu => ?_⟩⟩
    rw [Nat.zero_add, ← hb, cell_of_row _ _ j _ _ (0, 0) e]
    simpa using hu
   case KE =>
    intro W A7 c7 w8 hK hg
    have hlt5 : b5 < (W.alloc (.cells #[.slice A7 x.n c7, .bool x.wrap] 58)).heap.size := by have := (hga W A7 c7 hK).size; omega
    exact (hg.block b5 hlt5 (fun e => by have := hu3 b5 e.symm; omega)).trans ((hga W A7 c7 hK).block b5 (by omega))
   case fit1 => unfold maxLen; omega
   case fit2 => omega
   case F => exact ⟨rfl, rfl, rfl, rfl, rfl, rfl, rfl, rfl, rfl, rfl, rfl, rfl, rfl, rfl, rfl, rfl, rfl, rfl, rfl, rfl⟩
   case f3 => rfl
   intro a2 W A7 c7 w8 A8 c8 hK hg8 H8 F2 f3
   have NXT := Lib.hid (show Shown w s.w (s.rows.take (i + 1)) (.slice A8 (i + 1) c8) (ys ++ [⟨A7, x.n, c7, x.wrap, x.l⟩]) w8 from by
    have hba := hga W A7 c7 hK
    have hc7 : HasC (W.alloc (.cells #[.slice A7 x.n c7, .bool x.wrap] 58)) w5.drew.heap.size (.slice A7 x.n c7) x.l := HasC.keep hK.1 (fun j e => Below.heap_alloc _ _ _ (HasC.lt hK.1 j e).2)
    obtain ⟨k7, hk7, hk71, _⟩ := fresh_row hc7 (by rw [hxn]; have := H.out.ok.w2; omega)
    refine ⟨(R5.below hba).snoc (x := ⟨A7, x.n, c7, x.wrap, x.l⟩) hg8 (by rw [hyl]; exact H8) (HasC.mono hc7 (Nat.zero_le _)) hxs, ?_, fun y hy => ?_, ?_⟩
    ·rw [List.map_append, TR.out.same, List.take_add_one, hsr]; rfl
    ·rcases List.mem_append.1 hy with hy | hy
     ·exact TR.out.each y hy
     ·rw [List.mem_singleton.1 hy]
      exact ⟨hxn, k7, hk7, Nat.le_trans o5.size hk71⟩
    ·exact (o5.trans (hba.mono o5.size)).grown hg8 (Nat.le_trans o5.size hba.size) (fun k e => (TR.out.rows.lt k e).1))
   refine rows_frame F2.size F2.defers F2.s0 F2.s1 F2.s2 f3 F2.s4 F2.s5 F2.s6 F2.s7 F2.s8 F2.s9 F2.s10 F2.s11 F2.s12 F2.s13 F2.s14 F2.s15 F2.s16 F2.s26 F2.s27 ?_
   intros
   clear F2 f3 CC hgt hga hu3 hK hg8 H8 q5 z5 bb5 bd5 R5 o5 g0 g1
   try dsimp only
   go_wp2
   go_roundw
   case rel => exact ⟨i + 1, _, by first | rfl | (congr 1; done) | (congr 1; omega), hlt, by rw [List.length_append, hyl]; rfl, NXT⟩
   case measure => first | (simp [intOf]; done) | (simp [intOf]; omega)
  ·obtain rfl : i = hn := by omega
   have e : s.rows.take i = s.rows := by rw [← hhn]; exact List.take_length
   rw [e] at TR
   go_wp2
   go_ret
   exact ⟨_, ys, rfl, TR.out⟩
end Sc
namespace Sc
open Rw
theorem iter_posN {w : World} {k : Nat} {s : ByteArray} {p : Nat} (h : w.heap[k]? = some (.stringIter s p)) : w.iterPos k = p := by simp [World.iterPos, h]
abbrev lastV : ByteArray := ⟨#[65, 66, 67, 68, 72, 74, 75, 109]⟩
theorem indexRune_bad (r : Int) (w : World) (h : r < 0 ∨ 128 ≤ r) (h1 : Lib.validRune r = false) : Calls Tryz.prog 168 #[.string { data := #[65, 66, 67, 68, 72, 74, 75, 109] }, .int .i32 r] w fun e w' => e = .returned (.int .i64 (-1)) ∧ Below w.heap.size w w' := by
 have VR := Lib.hid (Tryz.utf8_ValidRune r w)
 rw [h1] at VR
 have hb : (r == 65533) = false := by
  simp only [beq_eq_false_iff_ne]
  rintro rfl
  simp [Lib.validRune] at h1
 clear h1
 by_cases h0 : r < 0
 ·have h2 : ¬ (0 : Int) ≤ r := by omega
  clear h
  go_enter Tryz.func168, Tryz.ntmps168
  go_wp2_with fail
  refine VR.out.mono ?_
  rintro e w' ⟨rfl, rfl⟩
  clear VR
  go_wp2
  go_ret
  exact ⟨rfl, Below.refl _ _⟩
 ·have h2 : (0 : Int) ≤ r := by omega
  have h3 : ¬ r < 128 := by omega
  clear h
  go_enter Tryz.func168, Tryz.ntmps168
  go_wp2_with fail
  refine VR.out.mono ?_
  rintro e w' ⟨rfl, rfl⟩
  clear VR
  go_wp2
  go_ret
  exact ⟨rfl, Below.refl _ _⟩
theorem lastV_size : lastV.size = 8 := rfl
theorem lastV_low : ∀ k : Nat, (hk : k < lastV.size) → (lastV[k]'hk).toNat < 128 := by
 intro k hk
 have : k < 8 := hk
 match k, this with
 | 0, _ => exact (show (65 : UInt8).toNat < 128 from by decide)
 | 1, _ => exact (show (66 : UInt8).toNat < 128 from by decide)
 | 2, _ => exact (show (67 : UInt8).toNat < 128 from by decide)
 | 3, _ => exact (show (68 : UInt8).toNat < 128 from by decide)
 | 4, _ => exact (show (72 : UInt8).toNat < 128 from by decide)
 | 5, _ => exact (show (74 : UInt8).toNat < 128 from by decide)
 | 6, _ => exact (show (75 : UInt8).toNat < 128 from by decide)
 | 7, _ => exact (show (109 : UInt8).toNat < 128 from by decide)
theorem indexRune_err (w : World) : Calls Tryz.prog 168 #[.string { data := #[65, 66, 67, 68, 72, 74, 75, 109] }, .int .i32 65533] w fun e w' => e = .returned (.int .i64 (-1)) ∧ Below w.heap.size w w' := by
 obtain ⟨it, hit⟩ : ∃ it, w.heap.size = it := ⟨_, rfl⟩
 obtain ⟨w2, hw2⟩ : ∃ w2, w.iter ⟨#[65, 66, 67, 68, 72, 74, 75, 109]⟩ 0 = w2 := ⟨_, rfl⟩
 have L0 := Lib.hid (show w2.heap[it]? = some (.stringIter lastV 0) ∧ Below w.heap.size w w2 from by
  have hh := World.iter_heap w lastV 0
  rw [show w.iter lastV 0 = w2 from hw2, hit] at hh
  exact ⟨hh, by rw [← hw2]; exact (Below.refl _ _).alloc (Nat.le_refl _) _⟩)
 have HIT := Lib.hid hit
 have HW := Lib.hid hw2
 clear hit hw2
 go_enter Tryz.func168, Tryz.ntmps168
 go_wp2_with fail
 rw [HIT.out]
 change Code.wp _ _ _ _ (w.iter ⟨#[65, 66, 67, 68, 72, 74, 75, 109]⟩ 0)
 rw [HW.out]
 clear HW
 go_loopw [5, 6] (fun _ _ wr => ∃ k : Nat, k ≤ 8 ∧ Hid (wr.heap[it]? = some (.stringIter lastV k) ∧ Below w.heap.size w wr)) (fun _ _ wr => 8 - wr.iterPos it)
 case atStart => exact ⟨0, Nat.zero_le _, L0⟩
 case round =>
  obtain ⟨k, hk, LR⟩ := hrel
  clear L0
  have hpos : wr.iterPos it = k := iter_posN LR.out.1
  by_cases hlt : k < 8
  ·have hks : k < lastV.size := hlt
   have hlow := lastV_low k hks
   have hnx0 := fun ty => Lib.run_next_ascii_at (P := Tryz.prog) wr it lastV k ty LR.out.1 hks hlow
   obtain ⟨r, hr⟩ : ∃ r, (lastV[k]'hks).toNat = r := ⟨_, rfl⟩
   rw [hr] at hnx0 hlow
   have hb : ((r : Int) == 65533) = false := by simp; omega
   have N1 := Lib.hid (show (wr.iterAt it lastV (k + 1)).heap[it]? = some (.stringIter lastV (k + 1)) ∧ Below w.heap.size w (wr.iterAt it lastV (k + 1)) from by
    have T1 : Turned (· = it) wr (wr.iterAt it lastV (k + 1)) := ⟨rfl, rfl, rfl, by rw [Lib.iterAt_size]; exact Nat.le_refl _, fun j _ hj => Lib.iterAt_other wr it j lastV (k + 1) hj⟩
    exact ⟨Lib.iterAt_heap wr it lastV k (k + 1) LR.out.1, LR.out.2.trans (T1.toBelow LR.out.2.size (fun j hj m => by have := HIT.out; omega))⟩)
   obtain ⟨w3, hw3⟩ : ∃ w3, wr.iterAt it lastV (k + 1) = w3 := ⟨_, rfl⟩
   rw [hw3] at hnx0 N1
   have hpos3 : w3.iterPos it = k + 1 := iter_posN N1.out.1
   clear LR hw3 hr hlow
   go_wp2
   go_roundw
   case rel => exact ⟨k + 1, by omega, N1⟩
   case measure => rw [hpos, hpos3]; omega
  ·obtain rfl : k = 8 := by omega
   have hnx0 := fun ty => Lib.run_next_end_at (P := Tryz.prog) wr it lastV 8 ty LR.out.1 (by rw [lastV_size]; omega)
   clear hpos
   go_wp2
   go_ret
   exact ⟨rfl, LR.out.2⟩
theorem encode_last (r : Int) (h : 128 ≤ r) (hv : Lib.validRune r = true) : ∃ (S : ByteArray) (m : Nat) (b : UInt8), Utf8.encode r = S ∧ S.size = m + 1 ∧ m ≤ 3 ∧ 1 ≤ m ∧ S.data[m]? = some b ∧ 128 ≤ b.toNat := by
 have hr : (0 ≤ r ∧ r < 0xD800) ∨ (0xDFFF < r ∧ r ≤ 0x10FFFF) := by simpa [Lib.validRune] using hv
 have last : ∀ x : Int, 128 ≤ x → x ≤ 191 → 128 ≤ (UInt8.ofNat x.toNat).toNat := by
  intro x h1 h2
  have e : (UInt8.ofNat x.toNat).toNat = x.toNat % 256 := UInt8.toNat_ofNat'
  omega
 rw [encode_model]
 unfold Lib.encodeRune
 by_cases h1 : r < 2048
 ·rw [Lib.encodeRuneZ_two (by omega) (by omega)]
  exact ⟨_, 1, _, rfl, rfl, by omega, by omega, rfl, last _ (by omega) (by omega)⟩
 ·by_cases h2 : r < 65536
  ·rw [Lib.encodeRuneZ_three (by omega)]
   exact ⟨_, 2, _, rfl, rfl, by omega, by omega, rfl, last _ (by omega) (by omega)⟩
  ·rw [Lib.encodeRuneZ_four (by omega) (by omega)]
   exact ⟨_, 3, _, rfl, rfl, by omega, by omega, rfl, last _ (by omega) (by omega)⟩
theorem indexByte_high : ∀ (l : List UInt8) (c : UInt8), (∀ b ∈ l, b.toNat < 128) → 128 ≤ c.toNat → Lib.indexByte l c = -1
 | [], _, _, _ => rfl
 | b :: l, c, h, hc => by
  have ih := indexByte_high l c (fun x hx => h x (List.mem_cons_of_mem _ hx)) hc
  have hb := h b (List.mem_cons_self ..)
  have hne : (b == c) = false := by
   simp only [beq_eq_false_iff_ne]
   rintro rfl
   omega
  rw [Lib.indexByte, hne, ih]
  rfl
theorem low_part (i j : Nat) : ∀ b ∈ (lastV.extract i j).data.toList, b.toNat < 128 := by
 intro b hb
 rw [ByteArray.data_extract, Array.toList_extract] at hb
 have h2 : b ∈ lastV.data.toList := List.mem_of_mem_drop (List.mem_of_mem_take hb)
 simp at h2
 rcases h2 with rfl | rfl | rfl | rfl | rfl | rfl | rfl | rfl <;> decide
theorem indexRune_high (r : Int) (w : World) (h : 128 ≤ r) (h1 : Lib.validRune r = true) (h2 : r ≠ 65533) : Calls Tryz.prog 168 #[.string { data := #[65, 66, 67, 68, 72, 74, 75, 109] }, .int .i32 r] w fun e w' => e = .returned (.int .i64 (-1)) ∧ Below w.heap.size w w' := by
 have VR := Lib.hid (Tryz.utf8_ValidRune r w)
 rw [h1] at VR
 obtain ⟨S, m, b, hS, hm, hm3, hm1, hb, hb8⟩ := encode_last r h h1
 have hb0 : (r == 65533) = false := by simpa using h2
 have hcv : ∀ w, (convert 21 9 (.int .i32 r)).run Tryz.prog w = .ok (.string S) w := fun w => by
  rw [← hS]
  go_simp
 have h3 : (0 : Int) ≤ r := by omega
 have h4 : ¬ r < 128 := by omega
 clear h h1 h2
 go_enter Tryz.func168, Tryz.ntmps168
 go_wp2_with fail
 refine VR.out.mono ?_
 rintro e w' ⟨rfl, rfl⟩
 clear VR
 have hms : IntKind.i64.wrap ((m : Int) + 1 - 1) = (m : Int) := by rw [IntWalk.i64_in _ (by omega)]; omega
 clear hS
 go_wp2_with fail
 go_step3
 go_wp2_with fail
 go_loopw [9] (fun v wr => v = .int .i64 (m : Int) ∧ Hid (wr = w')) (fun _ _ => 0)
 case atStart => exact ⟨rfl, Lib.hid rfl⟩
 case round =>
  obtain ⟨rfl, hw⟩ := hrel
  obtain rfl := hw.out
  clear hw
  have hm8 : (m : Int) < 8 := by omega
  have hm0 : (0 : Int) ≤ (m : Int) := by omega
  have hml : (m : Int) < (m : Int) + 1 := by omega
  have hSm : ∀ h : m < S.size, (S[m]'h).toNat = b.toNat := fun h => by
   have e : S.data[m]? = some (S.data[m]'h) := Array.getElem?_eq_getElem h
   rw [e] at hb
   injection hb with hb
   rw [← hb]
   rfl
  obtain ⟨bn, hbn⟩ : ∃ bn, b.toNat = bn := ⟨_, rfl⟩
  have BN := Lib.hid (show 128 ≤ ((bn : Int).toNat.toUInt8).toNat from by
   have := b.toNat_lt
   have e : ((bn : Int).toNat.toUInt8).toNat = bn % 256 := by simp
   rw [e]; omega)
  rw [hbn] at hSm hb8
  have hm7 : m < 8 := by omega
  obtain ⟨ln, hln⟩ : ∃ ln, ((⟨#[65, 66, 67, 68, 72, 74, 75, 109]⟩ : ByteArray)[m]'hm7).toNat = ln := ⟨_, rfl⟩
  have hlm : ∀ h : m < (⟨#[65, 66, 67, 68, 72, 74, 75, 109]⟩ : ByteArray).size, ((⟨#[65, 66, 67, 68, 72, 74, 75, 109]⟩ : ByteArray)[m]'h).toNat = ln := fun _ => hln
  have hl8 : ln < 128 := by rw [← hln]; exact lastV_low m hm7
  have hne : ((ln : Int) != (bn : Int)) = true := by simp; omega
  clear hb hln
  go_wp2_with fail
  go_step3
  go_wp2_with fail
  go_region
  go_wp2_with fail
  have hs1 : IntKind.i64.wrap ((m : Int) + 1) = (m : Int) + 1 := IntWalk.i64_in _ (by omega)
  have hml8 : (m : Int) + 1 ≤ 8 := by omega
  have hm10 : (0 : Int) ≤ (m : Int) + 1 := by omega
  have hm18 : m + 1 ≤ 8 := by omega
  have IB := Lib.hid (fun W : World => (show Calls Tryz.prog 191 #[.string ((⟨#[65, 66, 67, 68, 72, 74, 75, 109]⟩ : ByteArray).extract (m + 1) 8), .int .u8 (bn : Int)] W fun e w' => e = .returned (.int .i64 (-1)) ∧ w' = W from by
   refine (Tryz.strings_IndexByte _ (bn : Int) W).mono ?_
   rintro e w' ⟨rfl, rfl⟩
   rw [indexByte_high _ _ (low_part (m + 1) 8) BN.out]
   exact ⟨rfl, rfl⟩))
  go_region_with (go_at_call 191; refine (IB.out _).mono ?_; rintro e w7 ⟨rfl, hw7⟩; rw [hw7])
  all_goals
   go_wp2
   rw [Exit.noGoto_ret]
   go_wp2
   rw [Exit.noGoto_ret]
   go_ret
   exact ⟨rfl, (Below.refl _ _).drew.drew⟩
theorem contains_high (r : Int) (w : World) (h : r < 0 ∨ 128 ≤ r) : Calls Tryz.prog 116 #[.string { data := #[65, 66, 67, 68, 72, 74, 75, 109] }, .int .i32 r] w fun e w' => e = .returned (.bool false) ∧ Below w.heap.size w w' := by
 have IR := Lib.hid (show Calls Tryz.prog 168 #[.string { data := #[65, 66, 67, 68, 72, 74, 75, 109] }, .int .i32 r] w fun e w' => e = .returned (.int .i64 (-1)) ∧ Below w.heap.size w w' from by
  by_cases h1 : Lib.validRune r = true
  ·have h3 : 128 ≤ r := by
    have : (0 ≤ r ∧ r < 0xD800) ∨ (0xDFFF < r ∧ r ≤ 0x10FFFF) := by simpa [Lib.validRune] using h1
    omega
   by_cases h2 : r = 65533
   ·subst h2
    exact indexRune_err w
   ·exact indexRune_high r w h3 h1 h2
  ·exact indexRune_bad r w h (by simpa using h1))
 clear h
 go_enter Tryz.func116, Tryz.ntmps116
 go_wp2_with fail
 refine IR.out.mono ?_
 rintro e w' ⟨rfl, b⟩
 have B := Lib.hid b
 clear IR b
 go_wp2
 go_ret
 exact ⟨rfl, B.out⟩
end Sc
