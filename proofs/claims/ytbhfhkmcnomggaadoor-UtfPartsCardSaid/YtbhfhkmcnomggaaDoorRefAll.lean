/-
  The reference's All, walked: it tells what the machine of utf tells.
-/
import Derived.Test.YtbhfhkmcnomggaaDoorRefVal
import Derived.Test.YtbhfhkmcnomggaaDoorApp
namespace Go.Proofs.YtbhfhkmcnomggaaDoor
open Go.ChangeShapes Go.WideShapes Go.ChangeAt Go.RowKit

theorem octs_cut (t : ByteArray) (a b : Nat) : octs (t.extract a b) = ((octs t).take b).drop a := by
  unfold octs
  rw [ByteArray.data_extract, Array.toList_extract]
  simp [List.take_drop, List.map_take, List.map_drop]
  by_cases h : a ≤ b
  · rw [show a + (b - a) = b by omega]
  · rw [List.drop_eq_nil_of_le (by simp; omega), List.drop_eq_nil_of_le (by simp; omega)]
theorem octs_head (t : ByteArray) (n : Nat) : octs (t.extract 0 n) = (octs t).take n := by rw [octs_cut]; simp
theorem octs_tail (t : ByteArray) (n : Nat) : octs (t.extract n t.size) = (octs t).drop n := by rw [octs_cut, List.take_of_length_le (by rw [octs_length]; exact Nat.le_refl _)]
theorem octs_pos (t : ByteArray) : ∀ x ∈ octs t, 0 ≤ x := fun x h => (octs_range t x h).1
theorem octs_ne {t : ByteArray} (h : 0 < t.size) : octs t ≠ [] := fun e => by have := octs_length t; rw [e] at this; simp at this; omega
def strLen : Value → Nat
  | .string t => t.size
  | _ => 0
/-- How far the reference has come: what it has, what is left. -/
structure Came (s t : ByteArray) (got : List Int) : Prop where
  ho : runO st0 (octs s) = got ++ runO st0 (octs t)
  hs : runS st0 (octs s) = runS st0 (octs t)
  len : got.length + t.size ≤ s.size
theorem Came.whole {s t : ByteArray} {got : List Int} (h : Came s t got) {n : Nat} (e : oneL (octs t) = (n, true)) (ht : 0 < t.size) : 1 ≤ n ∧ n ≤ 4 ∧ n ≤ t.size ∧ Came s (t.extract n t.size) (got ++ [valL (octs (t.extract 0 n))]) := by
  obtain ⟨h1, h4, hl, hs, ho⟩ := one_whole (octs_pos t) e (octs_ne ht)
  rw [octs_length] at hl
  have cut : octs t = (octs t).take n ++ (octs t).drop n := (List.take_append_drop n _).symm
  refine ⟨h1, h4, hl, ?_, ?_, ?_⟩
  · rw [h.ho, octs_tail, octs_head]
    conv => lhs; rw [cut, runO_append, hs, ho]
    simp
  · rw [h.hs, octs_tail]
    conv => lhs; rw [cut, runS_append, hs]
  · have := h.len
    rw [List.length_append, ByteArray.size_extract]
    simp; omega
theorem Came.breaks {s t : ByteArray} {got : List Int} (h : Came s t got) {n : Nat} (e : oneL (octs t) = (n, false)) (hn : n ≠ t.size) : n ≤ 3 ∧ max 1 n ≤ t.size ∧ Came s (t.extract (max 1 n) t.size) (got ++ [65533]) := by
  obtain ⟨h3, hl, ho, hs⟩ := one_breaks (octs_pos t) e (by rw [octs_length]; exact hn)
  rw [octs_length] at hl
  refine ⟨h3, by omega, ?_, ?_, ?_⟩
  · rw [h.ho, octs_tail, ho]; simp
  · rw [h.hs, octs_tail, hs]
  · have := h.len
    rw [List.length_append, ByteArray.size_extract]
    simp; omega
theorem Came.waits {s t : ByteArray} {got : List Int} (h : Came s t got) (e : oneL (octs t) = (t.size, false)) (ht : 0 < t.size) : t.size ≤ 3 ∧ runO st0 (octs s) = got ∧ (runS st0 (octs s)).waits = t.size := by
  obtain ⟨h3, ho, hs⟩ := one_waits (octs_pos t) (by rw [octs_length]; exact e) (octs_ne ht)
  rw [octs_length] at h3 hs
  exact ⟨h3, by rw [h.ho, ho]; simp, by rw [h.hs, hs]⟩
theorem Came.done {s t : ByteArray} {got : List Int} (h : Came s t got) (ht : t.size = 0) : runO st0 (octs s) = got ∧ (runS st0 (octs s)).waits = 0 := by
  have e : octs t = [] := List.eq_nil_of_length_eq_zero (by rw [octs_length]; exact ht)
  exact ⟨by rw [h.ho, e]; simp [runO], by rw [h.hs, e]; rfl⟩

/-- What the reference's All answers. -/
def RefAllPost (s : ByteArray) (w : World) (e : Ending) (w' : World) : Prop := ∃ v, e = .returned (.tuple #[v, .int .i64 (runS st0 (octs s)).waits]) ∧ Has w' w.heap.size v (runO st0 (octs s)) ∧ Below w.heap.size w w'

set_option maxHeartbeats 4000000 in
theorem refAll_walk (s : ByteArray) (hs : s.size ≤ 274877906944) (w : World) :
    Calls Tryd.prog 17 #[.string s] w fun e w' => RefAllPost s w e w' := by
  obtain ⟨i0, hi, hz0, hz1, hz2⟩ := info_parts info21
  go_enter Tryd.func17, Tryd.ntmps17
  go_wp2_with fail
  go_loopw [0, 4] (fun x v wr => ∃ (t : ByteArray) (got : List Int), x = .string t ∧ Has wr w.heap.size v got ∧ Hid (Came s t got) ∧ Below w.heap.size w wr) (fun x _ _ => strLen x)
  case atStart => exact ⟨s, [], rfl, Has.nothing _ _, Lib.hid ⟨rfl, rfl, by simp⟩, Below.refl _ _⟩
  case round =>
    obtain ⟨t, got, rfl, hv, CM, hb⟩ := hrel
    have hlen := CM.out.len
    have htl : t.size ≤ 274877906944 := by omega
    have hgl : got.length ≤ 274877906944 := by omega
    have HV := Lib.hid hv
    have HB := Lib.hid hb
    have hsz := hb.size
    clear hv hb hlen
    by_cases ht : 0 < t.size
    · obtain ⟨p, hp⟩ : ∃ p, oneL (octs t) = p := ⟨_, rfl⟩
      have ONE := refOne_walk t htl wr
      rw [hp] at ONE
      obtain ⟨n, b⟩ := p
      have OH := Lib.hid ONE
      have HP := Lib.hid hp
      clear ONE hp
      simp only at OH
      cases b
      · by_cases hn : n = t.size
        · subst hn
          obtain ⟨h3, e1, e2⟩ := CM.out.waits HP.out ht
          have E1 := Lib.hid e1
          have E2 := Lib.hid e2
          clear e1 e2
          go_wp2_with (go_at_call 40; refine OH.out.mono ?_; rintro e w1 ⟨rfl, hb1⟩)
          go_ret2
          unfold RefAllPost
          rw [E1.out, E2.out]
          exact ⟨u4, rfl, HV.out.below hb1 HV.out.lt, HB.out.trans (hb1.mono hsz)⟩
        · obtain ⟨h3, hl, cm⟩ := CM.out.breaks HP.out hn
          have CN := Lib.hid cm
          clear cm
          have hn' : ((n : Int) == (t.size : Int)) = false := by simp; omega
          obtain ⟨m, hm⟩ : ∃ m, max 1 n = m := ⟨_, rfl⟩
          rw [hm] at hl CN
          by_cases h1n : 1 < n
          · obtain rfl : n = m := by omega
            clear hm
            go_wp2_with (first
              | (go_at_call 40; refine OH.out.mono ?_; rintro e w1 ⟨rfl, hb1⟩; (have hs1 := hb1.size); (have B1 := Lib.hid hb1); clear hb1)
              | (at_builtin; refine wpList_append_own_at _ rfl _ _ 24 rfl w.heap.size 21 i0 (.int .i32 0) 1 4 Tryd.underlying24 hi hz0 hz1 hz2 rfl (by decide) u4 got.length _ rfl ((HV.out.below B1.out HV.out.lt).alloc _) ⟨w1.heap.size, 0, none⟩ 1 1 [.int .i32 65533] rfl rfl (cell_new_at rfl _ _) (one_rune _) (fits1 (by omega)) (fits4 (by omega)) (by simp; omega) ?_; intro v' w4 hown' hgrow _ _))
            have N4 : Below w.heap.size w w4 := ((HB.out.trans (B1.out.mono hsz)).alloc (Nat.le_trans hsz hs1) _).grown hgrow (by simp; omega) (fun j e => (World.ownsRow.lt HV.out j e).1)
            have O4 : Has w4 w.heap.size v' (got ++ [65533]) := by
              unfold Has
              rw [List.length_append, List.map_append]
              simpa using hown'
            have NH := Lib.hid N4
            have OH4 := Lib.hid O4
            clear N4 O4 hown' hgrow
            go_wp2
            go_roundw
            case rel => exact ⟨_, _, rfl, OH4.out, CN, NH.out⟩
            case measure => simp [strLen]; omega
          · obtain rfl : m = 1 := by omega
            clear hm
            go_wp2_with (first
              | (go_at_call 40; refine OH.out.mono ?_; rintro e w1 ⟨rfl, hb1⟩; (have hs1 := hb1.size); (have B1 := Lib.hid hb1); clear hb1)
              | (at_builtin; refine wpList_append_own_at _ rfl _ _ 24 rfl w.heap.size 21 i0 (.int .i32 0) 1 4 Tryd.underlying24 hi hz0 hz1 hz2 rfl (by decide) u4 got.length _ rfl ((HV.out.below B1.out HV.out.lt).alloc _) ⟨w1.heap.size, 0, none⟩ 1 1 [.int .i32 65533] rfl rfl (cell_new_at rfl _ _) (one_rune _) (fits1 (by omega)) (fits4 (by omega)) (by simp; omega) ?_; intro v' w4 hown' hgrow _ _))
            have N4 : Below w.heap.size w w4 := ((HB.out.trans (B1.out.mono hsz)).alloc (Nat.le_trans hsz hs1) _).grown hgrow (by simp; omega) (fun j e => (World.ownsRow.lt HV.out j e).1)
            have O4 : Has w4 w.heap.size v' (got ++ [65533]) := by
              unfold Has
              rw [List.length_append, List.map_append]
              simpa using hown'
            have NH := Lib.hid N4
            have OH4 := Lib.hid O4
            clear N4 O4 hown' hgrow
            go_wp2
            go_roundw
            case rel => exact ⟨_, _, rfl, OH4.out, CN, NH.out⟩
            case measure => simp [strLen]; omega
      · obtain ⟨h1, h4, hl, cm⟩ := CM.out.whole HP.out ht
        have CN := Lib.hid cm
        clear cm
        have VW := Lib.hid (fun w => value_walk (t.extract 0 n) (by rw [ByteArray.size_extract]; omega) (by rw [ByteArray.size_extract]; omega) w)
        go_wp2_with (first
          | (go_at_call 40; refine OH.out.mono ?_; rintro e w1 ⟨rfl, hb1⟩; (have hs1 := hb1.size); (have B1 := Lib.hid hb1); clear hb1)
          | (go_at_call 41; refine (VW.out _).mono ?_; rintro e w2 ⟨rfl, rfl⟩)
          | (at_builtin; refine wpList_append_own_at _ rfl _ _ 24 rfl w.heap.size 21 i0 (.int .i32 0) 1 4 Tryd.underlying24 hi hz0 hz1 hz2 rfl (by decide) u4 got.length _ rfl ((HV.out.below B1.out HV.out.lt).alloc _) ⟨w1.heap.size, 0, none⟩ 1 1 [.int .i32 (valL (octs (t.extract 0 n)))] rfl rfl (cell_new_at rfl _ _) (one_rune _) (fits1 (by omega)) (fits4 (by omega)) (by simp; omega) ?_; intro v' w4 hown' hgrow _ _))
        have N4 : Below w.heap.size w w4 := ((HB.out.trans (B1.out.mono hsz)).alloc (Nat.le_trans hsz hs1) _).grown hgrow (by simp; omega) (fun j e => (World.ownsRow.lt HV.out j e).1)
        have O4 : Has w4 w.heap.size v' (got ++ [valL (octs (t.extract 0 n))]) := by
          unfold Has
          rw [List.length_append, List.map_append]
          simpa using hown'
        have NH := Lib.hid N4
        have OH4 := Lib.hid O4
        clear N4 O4 hown' hgrow
        go_wp2
        go_roundw
        case rel => exact ⟨_, _, rfl, OH4.out, CN, NH.out⟩
        case measure => simp [strLen]; omega
    · have hz : t.size = 0 := by omega
      obtain ⟨e1, e2⟩ := CM.out.done hz
      have E1 := Lib.hid e1
      have E2 := Lib.hid e2
      clear e1 e2
      go_wp2
      go_ret2
      unfold RefAllPost
      rw [E1.out, E2.out]
      exact ⟨u4, rfl, HV.out, HB.out⟩
end Go.Proofs.YtbhfhkmcnomggaaDoor
