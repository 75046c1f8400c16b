/-
  The statement NfaPlain: signs that are told as a pattern, with a \ ahead of each, match themselves, just there. For every two texts of at most 1048576 bytes together (of which the statement takes the first twelve and the first twenty signs); it holds where the table of widths is as its initialiser lays it, which the card ties to the program's text.
-/
import Derived.Test.YteemnmalikomgaaGreatDoorQNpEvZ0
import Derived.Test.YteemnmalikomgaaGreatDoorQNpBase0
import Derived.Test.YteemnmalikomgaaGreatDoorQNpBase1
import Derived.Test.YteemnmalikomgaaGreatDoorQNpBase12
import Derived.Test.YteemnmalikomgaaGreatDoorQNpBase7
import Derived.BigQuiet
namespace Go.Proofs.YteemnmalikomgaaGreatDoor.nfaPlain
open Go.ChangeShapes Go.WideShapes Go.ChangeAt Go.RowKit
open NF
set_option maxRecDepth 100000 in
theorem b2i_walk (b : Bool) (w : World) : Calls Tryz.prog 17 #[.bool b] w fun e w' => e = .returned (.int .i64 (if b then 1 else 0)) ∧ w' = w := by
 cases b
 ·go_enter Tryz.func17, Tryz.ntmps17
  go_wp2
  go_ret
  exact ⟨rfl, rfl⟩
 ·go_enter Tryz.func17, Tryz.ntmps17
  go_wp2
  go_ret
  exact ⟨rfl, rfl⟩
theorem below_drewN' (w : World) : ∀ n, Below w.heap.size w (w.drewN n)
 | 0 => Below.refl _ _
 | n + 1 => (below_drewN' w n).drew
theorem flat_le : ∀ l : List Int, (l.flatMap Lib.encodeRuneZ).length ≤ 4 * l.length
 | [] => by simp
 | x :: l => by
  have hx := (Lib.encodeRuneZ_length x).2
  have := flat_le l
  rw [List.flatMap_cons, List.length_append, List.length_cons]
  omega
theorem size_le {T : ByteArray} {l : List Int} (h : octs T = (escL l).flatMap Lib.encodeRuneZ) : T.size ≤ 8 * l.length := by
 have h1 := octs_length T
 have h2 := flat_le (escL l)
 rw [h] at h1
 rw [esc_len] at h2
 omega
theorem runesV_app (a b : List Int) : runesV (a ++ b) = runesV a ++ runesV b := by unfold runesV; rw [List.map_append]
theorem runes_one (l : List Int) : ∀ u ∈ runesV l, u.oneCell' = true := by
 intro u hu
 unfold runesV at hu
 obtain ⟨x, _, rfl⟩ := List.mem_map.1 hu
 rfl
theorem rune_at {w : World} {B n i : Nat} {A : Option Addr} {l : List Int} {r : Int} (h : Sq w B 1 n A (runesV l)) (hr : l[i]? = some r) (hi : i < n) : ∃ b off, A = some ⟨b, off, none⟩ ∧ b < B ∧ w.cell? ⟨b, off + i, none⟩ = some (.int .i32 r) := by
 obtain ⟨b, off, e, hb, hc⟩ := h.spot (by omega)
 exact ⟨b, off, e, hb, hc i _ (by unfold runesV; rw [List.getElem?_map, hr]; rfl)⟩
set_option maxRecDepth 100000 in
set_option maxHeartbeats 12800000 in
theorem walk (s0 : ByteArray) (hs0 : s0.size ≤ 1048576) (s1 : ByteArray) (hs1 : s1.size ≤ 1048576) (w : World) (hs : Spans w) :
  Calls Tryz.prog 3 #[.string s0, .string s1] w fun e w' => e = .returned (.bool true) ∧ Below w.heap.size w w' := by
 have S := Lib.hid hs
 have TX := Lib.hid (fun wx => text_walk s0 (by omega) 12 (by omega) wx)
 have TY := Lib.hid (fun wx => text_walk s1 (by omega) 20 (by omega) wx)
 have OK0 := Lib.hid (fun r (hr : r ∈ (runO st0 (octs s0)).take 12) => text_ok hr)
 unfold TextP at TX TY
 obtain ⟨al, hal⟩ : ∃ l, (runO st0 (octs s0)).take 12 = l := ⟨_, rfl⟩
 obtain ⟨ll, hll⟩ : ∃ l, (runO st0 (octs s1)).take 20 = l := ⟨_, rfl⟩
 rw [hal] at TX OK0
 rw [hll] at TY
 obtain ⟨i0, hi, hz0, hz1, hz2⟩ := info_parts info21
 clear hs hal hll
 go_enter Tryz.func3, Tryz.ntmps3
 go_wp2_with fail
 refine (Ev.Trues.at Ev.begun14 w S.out).mono ?_
 rintro e w1 ⟨rfl, b1⟩
 have B1 := Lib.hid b1
 clear b1 S
 go_wp2_with fail
 refine (TX.out w1).mono ?_
 rintro e w2 ⟨Aa, ca, na, rfl, hqa, hla, hna, hca, b2⟩
 have B2 := Lib.hid (B1.out.trans (b2.mono B1.out.size))
 have QA := Lib.hid hqa
 have LA := Lib.hid hla
 clear hqa hla b2 TX
 go_wp2_with fail
 refine (TY.out w2).mono ?_
 rintro e w3 ⟨Al, cl, nl, rfl, hql, hll, hnl, hcl, b3⟩
 have B3 := Lib.hid (B2.out.trans (b3.mono B2.out.size))
 have QA3 := Lib.hid ((QA.out.below b3).up b3.size)
 have QL3 := Lib.hid hql
 have LL := Lib.hid hll
 clear hql hll b3 TY QA
 go_wp2_with fail
 go_loopw [8, 9] (fun x y wr => ∃ (T : ByteArray) (i : Nat), x = .string T ∧ y = .int .i64 (i : Int) ∧ i ≤ na ∧ Hid (octs T = (escL (al.take i)).flatMap Lib.encodeRuneZ ∧ ∀ r ∈ al.take i, okSign r = true) ∧ Hid (Below w3.heap.size w3 wr)) (fun _ y _ => na - (intOf y).toNat)
 case atStart => exact ⟨_, 0, rfl, rfl, Nat.zero_le _, Lib.hid ⟨rfl, fun r hr => by simp at hr⟩, Lib.hid (Below.refl _ _)⟩
 case round =>
  obtain ⟨T, i, rfl, rfl, hin, HT, BR⟩ := hrel
  have hi0 : (0 : Int) ≤ (i : Int) := by omega
  by_cases hlt : i < na
  ·have h1 : (i : Int) < (na : Int) := by omega
   have hw : IntKind.i64.wrap ((i : Int) + 1) = (i : Int) + 1 := IntWalk.i64_in _ (by omega)
   obtain ⟨r, hr⟩ : ∃ r, al[i]? = some r := ⟨_, List.getElem?_eq_getElem (by rw [LA.out]; exact hlt)⟩
   obtain ⟨b, off, rfl, hb, c0⟩ := rune_at (QA3.out.below BR.out) hr hlt
   have hok := OK0.out r (List.mem_of_getElem? hr)
   have hrr : -2147483648 ≤ r ∧ r ≤ 2147483647 := by
    rcases hok with h | h
    ·unfold okSign at h
     simp at h
     omega
    ·omega
   have PUT := Lib.hid (refPut_any r hrr.1 hrr.2 wr)
   have TN := Lib.hid (show al.take (i + 1) = al.take i ++ [r] from by
    obtain ⟨h3, h4⟩ := List.getElem?_eq_some_iff.1 hr
    rw [List.take_succ_eq_append_getElem h3, h4])
   obtain ⟨E, hE⟩ : ∃ E, (⟨(Lib.encodeRune r).toArray⟩ : ByteArray) = E := ⟨_, rfl⟩
   have hE4 : E.size ≤ 4 := by rw [← hE, ← octs_length, octs_one]; exact (Lib.encodeRuneZ_length r).2
   have hT96 : T.size ≤ 96 := by
    have := size_le HT.out.1
    rw [List.length_take] at this
    omega
   have NX := Lib.hid (show octs (T ++ ({ data := #[92] } ++ E)) = (escL (al.take (i + 1))).flatMap Lib.encodeRuneZ from by rw [← hE, TN.out]; exact bytes_next HT.out.1)
   rw [hE] at PUT
   have HOK := Lib.hid hok
   have QB := Lib.hid hb
   clear hE hr hok hrr hb
   go_wp2_with fail
   refine PUT.out.mono ?_
   rintro e w4 ⟨rfl, b4⟩
   have BR4 := Lib.hid (BR.out.trans (b4.mono BR.out.size))
   have c1 : w4.cell? ⟨b, off + i, none⟩ = some (.int .i32 r) := (b4.cell (p := ⟨b, off + i, none⟩) (show b < wr.heap.size from Nat.lt_of_lt_of_le QB.out BR.out.size)).trans c0
   clear b4 PUT c0
   by_cases hbad : r = 65533
   ·subst hbad
    go_wp2_with fail
    go_ret
    exact ⟨rfl, B3.out.trans (BR4.out.mono B3.out.size)⟩
   ·have hb2 : (r == 65533) = false := by simp [hbad]
    have H2 := Lib.hid (show octs (T ++ ({ data := #[92] } ++ E)) = (escL (al.take (i + 1))).flatMap Lib.encodeRuneZ ∧ ∀ r ∈ al.take (i + 1), okSign r = true from ⟨NX.out, fun y hy => by
     rw [TN.out] at hy
     rcases List.mem_append.1 hy with h | h
     ·exact HT.out.2 y h
     ·rw [List.mem_singleton] at h
      subst h
      exact HOK.out.resolve_right hbad⟩)
    go_wp2_with fail
    go_roundw
    case rel => exact ⟨_, i + 1, rfl, by first | rfl | (congr 1; done) | (congr 1; omega), by omega, H2, BR4⟩
    case measure => first | (simp [intOf]; done) | (simp [intOf]; omega)
  ·obtain rfl : i = na := by omega
   have TA := Lib.hid (show al.take i = al from List.take_of_length_le (by rw [LA.out]; exact Nat.le_refl _))
   have HT2 := HT.out
   rw [TA.out] at HT2
   have PS := Lib.hid (parse_bytes HT2.1 HT2.2)
   have B4 := Lib.hid (B3.out.trans (BR.out.mono B3.out.size))
   have QA4 := Lib.hid ((QA3.out.below BR.out).up BR.out.size)
   have QL4 := Lib.hid ((QL3.out.below BR.out).up BR.out.size)
   have hTs : T.size ≤ 8 * i := by have := size_le HT2.1; rwa [LA.out] at this
   have PW := Lib.hid (parse_walk T (by omega) wr)
   clear HT2 HT BR QA3 QL3
   go_wp2_with fail
   refine PW.out.mono ?_
   intro e w5 hp
   have HP := Lib.hid hp
   clear hp PW
   by_cases hbig : i = 0 ∨ 60 < T.size
   ·have HN := Lib.hid (show parseS T = .none from by
     rw [PS.out]
     split
     ·rfl
     ·rcases hbig with h | h
      ·have : al = [] := List.eq_nil_of_length_eq_zero (by rw [LA.out, h])
       rw [this]
       exact parse_none
      ·exact absurd h (by assumption))
    have HZ := HP.out
    rw [HN.out] at HZ
    obtain ⟨rfl, b5⟩ := HZ
    have B5 := Lib.hid (B4.out.trans (b5.mono B4.out.size))
    clear b5 HP HN PS
    by_cases h0 : i = 0
    ·subst h0
     try dsimp only [Nv.v, zeroV]
     go_wp2_with fail
     go_ret
     exact ⟨rfl, B5.out.alloc B5.out.size _⟩
    ·have hi1 : ((i : Int) == 0) = false := by simp; omega
     have h60 : (60 : Int) < (T.size : Int) := by omega
     try dsimp only [Nv.v, zeroV]
     go_wp2_with fail
     go_ret
     exact ⟨rfl, B5.out.alloc B5.out.size _⟩
   ·have hi1 : ((i : Int) == 0) = false := by simp; omega
    have h60 : ¬ (60 : Int) < (T.size : Int) := by omega
    obtain ⟨s, a', rfl⟩ : ∃ s a', al = s :: a' := by
     cases al with
     | nil => have := LA.out; simp at this; omega
     | cons s a' => exact ⟨s, a', rfl⟩
    have PT := Lib.hid (show parseS T = .some (oneOrAll 3 (oneN s :: a'.map oneN)) from by rw [PS.out, if_neg (by omega), parse_esc])
    obtain ⟨k, A, nn, c, nt, A2, n2, c2, mn, mx, rfl, hx, b5⟩ := parsed HP.out PT.out
    have PZ := parseS_small PT.out
    have SM := plain_small s a' (by have := LA.out; simp at this; omega)
    obtain ⟨w6, hw6, k6, b6, z6⟩ := new_node w5 k A nn c nt A2 n2 c2 mn mx
    obtain ⟨NB, hNB⟩ : ∃ b, w5.heap.size = b := ⟨_, rfl⟩
    have K6 := Lib.hid (hNB ▸ k6 : nodeBk w6 NB ⟨k, A, nn, c, nt, A2, n2, c2, mn, mx⟩)
    have CW := Lib.hid (compile_ok _ ⟨k, A, nn, c, nt, A2, n2, c2, mn, mx⟩ _ w6 (ndO_in (fun b hb => hb) (ndO_below hx b6)) PZ.1 SM.1 (by omega) SM.2)
    have b56 := b5.trans (b6.mono b5.size)
    have B6 := Lib.hid (B4.out.trans (b56.mono B4.out.size))
    have QA6 := Lib.hid ((QA4.out.below b56).up b56.size)
    have QL6 := Lib.hid ((QL4.out.below b56).up b56.size)
    have HW6 := Lib.hid hw6
    have HNB := Lib.hid hNB
    obtain ⟨y0, y1, y2, y3, y4, y5⟩ := nv_bk K6.out
    try dsimp only [Nv.v] at CW ⊢
    clear hx b5 k6 b6 z6 hw6 hNB b56 HP PS PT PZ SM QA4 QL4 hbig
    go_upto_region 13 with fail
    rw [HNB.out]
    first
     | rw [HW6.out]
     | (change Code.wp _ _ _ _ (w5.alloc (.cells #[.int .i64 k, .slice A nn c, .bool nt, .slice A2 n2 c2, .int .i64 mn, .int .i64 mx] 29)); rw [HW6.out])
    go_wp2_with fail
    refine CW.out.mono ?_
    rintro e w7 ⟨p, rfl, hp7, b7⟩
    have B7 := Lib.hid (B6.out.trans (b7.mono B6.out.size))
    have PG := Lib.hid hp7
    have QA7 := Lib.hid ((QA6.out.below b7).up b7.size)
    have QL7 := Lib.hid ((QL6.out.below b7).up b7.size)
    clear hp7 b7 CW y0 y1 y2 y3 y4 y5 HW6 HNB K6 QA6 QL6
    have F1 := Lib.hid (show 0 + nl ≤ maxLen ∧ (0 + nl) * 4 ≤ 140737488355328 from by unfold maxLen; omega)
    have F2 := Lib.hid (show nl + i ≤ maxLen ∧ (nl + i) * 4 ≤ 140737488355328 from by unfold maxLen; omega)
    have F3 := Lib.hid (show nl + i + nl ≤ maxLen ∧ (nl + i + nl) * 4 ≤ 140737488355328 from by unfold maxLen; omega)
    go_upto_region 18 with fail
    go_wp2_with (first
     | (at_builtin; refine wpl_app rfl _ _ 23 rfl w7.heap.size 21 i0 (.int .i32 0) 1 4 Tryz.underlying23 hi hz0 hz1 hz2 rfl (by decide) (.slice none 0 0) 0 [] rfl (World.ownsRow_nil _ _ _ _) Al nl cl (runesV ll) rfl w7.heap.size QL7.out (runes_one _) F1.out.1 F1.out.2 (Nat.le_refl _) ?_; intro v8 w8 ho8 hg8 _; (rw [Nat.zero_add, List.nil_append] at ho8); (have O8 := Lib.hid ho8); (have C8 := Lib.hid (show Below w7.heap.size w7 w8 from (Trn.ofGrown hg8).toBelow (Nat.le_refl _) (fun j hj e => by cases e))); (have QA8 := Lib.hid ((QA7.out.below C8.out).up C8.out.size)); (have QL8 := Lib.hid ((QL7.out.below C8.out).up C8.out.size)); clear ho8 hg8)
     | (at_builtin; refine wpl_app rfl _ _ 23 rfl w7.heap.size 21 i0 (.int .i32 0) 1 4 Tryz.underlying23 hi hz0 hz1 hz2 rfl (by decide) v8 nl (runesV ll) rfl O8.out Aa i ca (runesV (s :: a')) rfl w8.heap.size QA8.out (runes_one _) F2.out.1 F2.out.2 C8.out.size ?_; intro v9 w9 ho9 hg9 _; (have O9 := Lib.hid ho9); (have C9 := Lib.hid (show Below w7.heap.size w7 w9 from C8.out.trans ((Trn.ofGrown hg9).toBelow C8.out.size (fun j hj e => by have := (World.ownsRow.lt O8.out j e).1; omega)))); (have QL9 := Lib.hid ((QL7.out.below C9.out).up C9.out.size)); clear ho9 hg9)
     | (at_builtin; refine wpl_app rfl _ _ 23 rfl w7.heap.size 21 i0 (.int .i32 0) 1 4 Tryz.underlying23 hi hz0 hz1 hz2 rfl (by decide) v9 (nl + i) (runesV ll ++ runesV (s :: a')) rfl O9.out Al nl cl (runesV ll) rfl w9.heap.size QL9.out (runes_one _) F3.out.1 F3.out.2 C9.out.size ?_; intro v10 w10 ho10 hg10 _; (have O10 := Lib.hid ho10); (have C10 := Lib.hid (show Below w7.heap.size w7 w10 from C9.out.trans ((Trn.ofGrown hg10).toBelow C9.out.size (fun j hj e => by have := (World.ownsRow.lt O9.out j e).1; omega)))); clear ho10 hg10))
    obtain ⟨AX, cX, rfl⟩ := own_len O10.out
    have QX0 := Sq.own O10.out
    rw [← runesV_app, ← runesV_app] at QX0
    have QA10 := Lib.hid ((QA7.out.below C10.out).up C10.out.size)
    have PG10 := Lib.hid ((PG.out.below C10.out).up C10.out.size)
    have B10 := Lib.hid (B7.out.trans (C10.out.mono B7.out.size))
    have LX0 : (ll ++ (s :: a') ++ ll).length = nl + i + nl := by rw [List.length_append, List.length_append, LL.out, LA.out]
    obtain ⟨L, hL⟩ : ∃ L, ll ++ (s :: a') ++ ll = L := ⟨_, rfl⟩
    obtain ⟨N, hN⟩ : ∃ N, nl + i + nl = N := ⟨_, rfl⟩
    rw [hL, hN] at QX0 LX0
    rw [hN]
    have QX := Lib.hid QX0
    have LX := Lib.hid LX0
    have hN60 : N ≤ 60 := by omega
    have EP := Lib.hid (show ∀ W, Below w10.heap.size w10 W → ∀ qq, qq ≤ N → Calls Tryz.prog 16 #[.pointer (some ⟨p, 0, none⟩), .slice AX N cX, .int .i64 (qq : Int)] W fun e w' => EndsPost (if qq + i ≤ N ∧ ∀ x, x < i → L[qq + x]? = (s :: a')[x]? then [qq + i] else []) W e w' from fun W hW qq hqq => by
     have h1 := prg_ends ((PG10.out.below hW).up hW.size) AX N cX qq L hqq (by omega) (Nat.le_refl _) LX.out ((QX.out.below hW).up hW.size)
     have h2 := ends_plain L s a' qq
     rw [LX.out, LA.out] at h2
     rwa [h2] at h1)
    clear QX0 LX0 hL hN O8 O9 O10 C8 C9 QA8 QL8 QL9 QA7 QL7 PG
    go_wp2_with fail
    go_loopw [14] (fun u wr => ∃ qq : Nat, u = .int .i64 (qq : Int) ∧ qq ≤ N + 1 ∧ Hid (Below w10.heap.size w10 wr)) (fun u _ => N + 1 - (intOf u).toNat)
    case atStart => exact ⟨0, rfl, Nat.zero_le _, Lib.hid (Below.refl _ _)⟩
    case round =>
     obtain ⟨qq, rfl, hq1, BR⟩ := hrel
     by_cases hqN : qq ≤ N
     ·have h1 : (qq : Int) ≤ (N : Int) := by omega
      have hwq : IntKind.i64.wrap ((qq : Int) + (i : Int)) = (qq : Int) + (i : Int) := IntWalk.i64_in _ (by omega)
      have hwq1 : IntKind.i64.wrap ((qq : Int) + 1) = (qq : Int) + 1 := IntWalk.i64_in _ (by omega)
      go_wp2_with fail
      go_loopw [15, 16] (fun x y wq => ∃ (b : Bool) (k : Nat), x = .bool b ∧ y = .int .i64 (k : Int) ∧ k ≤ i ∧ Hid (b = true ↔ (qq + i ≤ N ∧ ∀ x, x < k → L[qq + x]? = (s :: a')[x]?)) ∧ Hid (Below w10.heap.size w10 wq)) (fun _ y _ => i - (intOf y).toNat)
      case atStart => exact ⟨decide ((qq : Int) + (i : Int) ≤ (N : Int)), 0, rfl, rfl, Nat.zero_le _, Lib.hid ⟨fun h => ⟨by have := of_decide_eq_true h; omega, fun x hx => absurd hx (Nat.not_lt_zero _)⟩, fun h => decide_eq_true (by omega)⟩, BR⟩
      case round =>
       obtain ⟨b, k, rfl, rfl, hk, FB, BQ⟩ := hrel
       have hk0 : (0 : Int) ≤ (k : Int) := by omega
       have hkw : IntKind.i64.wrap ((k : Int) + 1) = (k : Int) + 1 := IntWalk.i64_in _ (by omega)
       by_cases hki : k < i
       ·have h2 : (k : Int) < (i : Int) := by omega
        cases b with
        | false =>
         have EW := Lib.hid (EP.out wr BQ.out qq (by omega))
         rw [if_neg (fun h => by have := FB.out.2 ⟨h.1, fun x hx => h.2 x (by omega)⟩; cases this)] at EW
         go_wp2_with fail
         refine EW.out.mono ?_
         intro e w11 h11
         obtain ⟨A11, c11, rfl, hq11, _, b11⟩ := ends_some h11
         have BQ11 := Lib.hid (BQ.out.trans (b11.mono BQ.out.size))
         clear h11 hq11 b11 EW
         simp only [List.length_nil]
         go_wp2_with fail
         refine (b2i_walk false w11).mono ?_
         rintro e w12 ⟨rfl, rfl⟩
         go_wp2_with fail
         go_roundw
         case rel => exact ⟨qq + 1, by first | rfl | (congr 1; done) | (congr 1; omega), by omega, BQ11⟩
         case measure => first | (simp [intOf]; done) | (simp [intOf]; omega)
        | true =>
         obtain ⟨hfit, hall⟩ := FB.out.1 rfl
         obtain ⟨r1, hr1⟩ : ∃ r, L[qq + k]? = some r := ⟨_, List.getElem?_eq_getElem (by rw [LX.out]; omega)⟩
         obtain ⟨r2, hr2⟩ : ∃ r, (s :: a')[k]? = some r := ⟨_, List.getElem?_eq_getElem (by rw [LA.out]; omega)⟩
         obtain ⟨b1, o1, rfl, hb1, d1⟩ := rune_at QX.out hr1 (by omega)
         obtain ⟨b2, o2, rfl, hb2, d2⟩ := rune_at QA10.out hr2 hki
         have e1 : ∀ r, (wr.drewN r).cell? ⟨b1, o1 + (qq + k), none⟩ = some (.int .i32 r1) := fun r => ((BQ.out.trans ((below_drewN' wr r).mono BQ.out.size)).cell (p := ⟨b1, o1 + (qq + k), none⟩) hb1).trans d1
         have e2 : ∀ r, (wr.drewN r).cell? ⟨b2, o2 + k, none⟩ = some (.int .i32 r2) := fun r => ((BQ.out.trans ((below_drewN' wr r).mono BQ.out.size)).cell (p := ⟨b2, o2 + k, none⟩) hb2).trans d2
         have FN := Lib.hid (show (r1 == r2) = true ↔ (qq + i ≤ N ∧ ∀ x, x < k + 1 → L[qq + x]? = (s :: a')[x]?) from by
          rw [beq_iff_eq]
          constructor
          ·intro h
           refine ⟨hfit, fun x hx => ?_⟩
           by_cases hxk : x = k
           ·subst hxk; rw [hr1, hr2, h]
           ·exact hall x (by omega)
          ·rintro ⟨_, h⟩
           have := h k (Nat.lt_succ_self _)
           rw [hr1, hr2] at this
           injection this)
         have hw3 : IntKind.i64.wrap ((qq : Int) + (k : Int)) = ((qq + k : Nat) : Int) := by rw [IntWalk.i64_in _ (by omega)]; omega
         have hw4 : (0 : Int) ≤ ((qq + k : Nat) : Int) := by omega
         have hw5 : ((qq + k : Nat) : Int) < (N : Int) := by omega
         obtain ⟨qk, hqk⟩ : ∃ qk, qq + k = qk := ⟨_, rfl⟩
         rw [hqk] at hw3 hw4 hw5 e1
         have KW := Lib.hid (fun r => below_drewN' wr r)
         clear hr1 hr2 hb1 hb2 d1 d2 hfit hall hqk FB
         go_upto_region 26 with fail
         go_quiet (fail)
         have BQ2 := Lib.hid (BQ.out.trans ((KW.out nq).mono BQ.out.size))
         clear e1 e2 KW
         generalize wr.drewN nq = wz at BQ2 ⊢
         go_wp2_with fail
         go_roundw
         case rel => exact ⟨(r1 == r2), k + 1, rfl, by first | rfl | (congr 1; done) | (congr 1; omega), by omega, FN, BQ2⟩
         case measure => first | (simp [intOf]; done) | (simp [intOf]; omega)
       ·obtain rfl : k = i := by omega
        have h2 : ¬ (k : Int) < (k : Int) := by omega
        cases b with
        | true =>
         have EW := Lib.hid (EP.out wr BQ.out qq (by omega))
         rw [if_pos (FB.out.1 rfl)] at EW
         go_wp2_with fail
         refine EW.out.mono ?_
         intro e w11 h11
         obtain ⟨A11, c11, rfl, hq11, _, b11⟩ := ends_some h11
         have BQ11 := Lib.hid (BQ.out.trans (b11.mono BQ.out.size))
         obtain ⟨bb, oo, rfl, _, hc11⟩ := hq11.spot (by simp)
         have c11 : w11.cell? ⟨bb, oo, none⟩ = some (.int .i64 ((qq : Int) + (k : Int))) := by
          have h := hc11 0 (.int .i64 ((qq + k : Nat) : Int)) (by simp [nums])
          rw [Nat.add_zero, Int.natCast_add] at h
          exact h
         clear h11 hq11 hc11 b11 EW
         simp only [List.length_cons, List.length_nil, Nat.zero_add]
         go_wp2_with fail
         refine (b2i_walk true w11).mono ?_
         rintro e w12 ⟨rfl, rfl⟩
         go_wp2_with fail
         go_roundw
         case rel => exact ⟨qq + 1, by first | rfl | (congr 1; done) | (congr 1; omega), by omega, BQ11⟩
         case measure => first | (simp [intOf]; done) | (simp [intOf]; omega)
        | false =>
         have EW := Lib.hid (EP.out wr BQ.out qq (by omega))
         rw [if_neg (fun h => by have := FB.out.2 h; cases this)] at EW
         go_wp2_with fail
         refine EW.out.mono ?_
         intro e w11 h11
         obtain ⟨A11, c11, rfl, hq11, _, b11⟩ := ends_some h11
         have BQ11 := Lib.hid (BQ.out.trans (b11.mono BQ.out.size))
         clear h11 hq11 b11 EW
         simp only [List.length_nil]
         go_wp2_with fail
         refine (b2i_walk false w11).mono ?_
         rintro e w12 ⟨rfl, rfl⟩
         go_wp2_with fail
         go_roundw
         case rel => exact ⟨qq + 1, by first | rfl | (congr 1; done) | (congr 1; omega), by omega, BQ11⟩
         case measure => first | (simp [intOf]; done) | (simp [intOf]; omega)
     ·have h1 : ¬ (qq : Int) ≤ (N : Int) := by omega
      go_wp2_with fail
      go_ret
      exact ⟨rfl, B10.out.trans (BR.out.mono B10.out.size)⟩
set_option maxRecDepth 100000 in
theorem contract (H : Type) (enc : TypeId × Value → H) (W : World) (base : Nat) (args : Array Value) (ds gs : List (DataW H)) (before : List MemPlace)
  (hval : ∀ (j : Nat) t v, Tryz.f3.params[j]? = some t → args[j]? = some v → Value.okWide Tryz.prog W .any base t v)
  (hW : DataW.Whole enc Tryz.prog Tryz.f3.params.toList Rows.nfaPlainSpec.vars false W args.toList ds gs before) (hL : laidMetH Tryz.prog Rows.nfaPlainUptoRow.laid W) (hk : Rows.uptoSmall H (ds ++ gs) = true) :
  Calls Tryz.prog 3 args W fun e W' => ∃ v, e = .returned v ∧ Rows.nfaPlainSpec.post enc Tryz.prog Tryz.f3 false true false false W args v W' := by
 have hW' := hW
 obtain ⟨p, q, hA0, hV, rfl, hfz, hnd⟩ := hW
 have hA : DataW.TrodAll enc Tryz.prog W 0 (fun _ => true) true Tryz.f3.params.toList args.toList ds p := hA0
 rw [Tryz.params3] at hA hval
 obtain ⟨v0, vs0, d0, ds0, p0, q0, hargs, rfl, rfl, h0, r0⟩ := trodAll_cons hA
 obtain ⟨v1, vs1, d1, ds1, p1, q1, rfl, rfl, rfl, h1, r1⟩ := trodAll_cons r0
 obtain ⟨rfl, rfl, rfl⟩ := trodAll_nil r1
 obtain rfl : args = #[v0, v1] := by cases args; simp_all
 obtain ⟨rfl, rfl⟩ := trodVars_none hV
 obtain ⟨x, rfl, rfl, rfl, wx⟩ := Go.ChangeMaps.open_string Tryz.underlying9 (hval 0 9 v0 rfl rfl) h0
 obtain ⟨y, rfl, rfl, rfl, wy⟩ := Go.ChangeMaps.open_string Tryz.underlying9 (hval 1 9 v1 rfl rfl) h1
 clear hA0
 simp only [List.append_nil] at hk
 have hB := NF.bulk_le hk
 simp only [Rows.uptoBulkAll, Rows.uptoBulk] at hB
 have zx : x.size ≤ 1048576 := by
  have h : x.data.toList.length = x.size := by rw [Array.length_toList]; rfl
  omega
 have zy : y.size ≤ 1048576 := by
  have h : y.data.toList.length = y.size := by rw [Array.length_toList]; rfl
  omega
 refine (walk x zx y zy W (spans_of hL) ).mono fun e W' ⟨he, hg⟩ => ?_
 subst he
 exact ⟨_, rfl, close rfl hW' ⟨rfl, rfl, rfl⟩ (by kernel_rfl) (by kernel_rfl) hg⟩
set_option maxRecDepth 100000 in
theorem laid_met (os : Os) : laidMet Tryz.prog Rows.nfaPlainUptoRow.laid ((laidWorld os).forCall (fun _ _ => 0) ⟨#[], #[.string .empty, .string .empty], []⟩).memory :=
 laidMet_of_run' 8 (by kernel_rfl) (by kernel_rfl)
set_option maxRecDepth 100000 in
theorem reads (os : Os) {H : Type} (enc : TypeId × Value → H) : ∃ places, DataW.whole enc Tryz.prog ((laidWorld os).forCall (fun _ _ => 0) ⟨#[], #[.string .empty, .string .empty], []⟩).memory Tryz.f3.params.toList Rows.nfaPlainSpec.vars false (#[.string .empty, .string .empty] : Array Value).toList 8 = some ([.lit (.string []), .lit (.string [])], [], places) :=
 ⟨[], by kernel_rfl⟩
set_option maxRecDepth 100000 in
theorem lifted (os : Os) (started : os.Started) (H : Type) (enc : TypeId × Value → H) (F : Stop.Interp) :
  ReturnsInHanded {} Tryz.checked os 3 .any ((Rows.OpenSpec.upto Rows.nfaPlainSpec).preRow enc Tryz.prog Tryz.f3 Rows.nfaPlainUptoRow.domain false Rows.nfaPlainUptoRow.laid) (((Rows.OpenSpec.upto Rows.nfaPlainSpec).at F).post enc Tryz.prog Tryz.f3 false true false false) := by
 obtain ⟨places, hx⟩ := reads os enc
 refine returnsInHanded_of_row (C := Tryz.checked) (s := Rows.OpenSpec.upto Rows.nfaPlainSpec) ownNone started (by kernel_rfl) Tryz.func3
  (witness_row_at (enc := enc) (C := Tryz.checked) false (laidWorld os) #[.string .empty, .string .empty] rfl (by kernel_rfl) (by kernel_rfl) (by kernel_rfl)
   (OpenSpec.preRow_of_cond 8 hx (by kernel_rfl) (fun k hk => by cases hk; kernel_rfl) (by kernel_rfl) (laid_met os))) ?_
 intro W base args ds gs before hval hW _ hcond _ hL _ _
 exact contract H enc W base args ds gs before hval hW hL (hcond _ rfl)
set_option maxRecDepth 100000 in
set_option maxHeartbeats 0 in
theorem facts : joinedFacts Tryz.checked.prog 3 Tryz.f3 (Rows.OpenSpec.upto Rows.nfaPlainSpec).bare Rows.nfaPlainUptoRow = true := by
 have h1 := Sum.tables.1
 have h2 := Sum.tables.2.1
 have h3 := Sum.tables.2.2
 have h4 := Sum.mayEnter
 have e1 : Rows.nfaPlainUptoRow.lifted = Rows.findAllRow.lifted := by kernel_rfl
 have e2 : Rows.nfaPlainUptoRow.make = Rows.findAllRow.make := by kernel_rfl
 have h5 : (Rows.nfaPlainUptoRow.lifted == Tryz.checked.prog.liftsFinal) = true := by rw [e1]; exact Sum.lifts
 have h6 : (Tryz.checked.prog.make == some Rows.nfaPlainUptoRow.make) = true := by rw [e2]; exact Sum.make
 unfold joinedFacts
 repeat' (with_reducible refine Sum.and_mk ?_ ?_)
 all_goals first
  | with_reducible exact h1
  | with_reducible exact h2
  | with_reducible exact h4
  | with_reducible exact h5
  | with_reducible exact h6
  | (rw [h3]; as_aux_lemma => kernel_rfl)
  | (clear h1 h2 h3 h4 h5 h6 e1 e2; as_aux_lemma => kernel_rfl)
set_option maxRecDepth 100000 in
theorem said : Rows.NfaPlainUptoSaid :=
 OpenClaim.holds_of_cond 3 Tryz.f3 rfl rfl rfl rfl rfl rfl rfl ⟨rfl, rfl, rfl, rfl, rfl⟩ rfl rfl rfl rfl rfl (by kernel_rfl) Tryz.func3 facts
  (of_decide_eq_true (by kernel_rfl)) (by unfold Func.isWrapper; first | (rw [if_pos (by decide +kernel)]; kernel_rfl) | (rw [if_neg (by decide +kernel)]; exact ⟨rfl, rfl⟩))
  (fun os started H enc _ F => by rw [OpenClaim.pre_eq_preRow]; exact lifted os started H enc F)
set_option maxRecDepth 100000 in
theorem plain (f : FuncId) (fn : Func) (hf : Tryz.pinned.checked.prog.funcNamed "rotulus/rotuluslaw14.NfaPlain" = some f) (hfn : Tryz.pinned.checked.prog.funcs[f]? = some fn) :
  false = Tryz.pinned.checked.prog.looks [] ∧ ∀ (j : Nat) t, fn.params[j]? = some t → Tryz.pinned.checked.prog.wantsStandIn t = false := by
 obtain rfl : f = 3 := Option.some.inj ((show Tryz.prog.funcNamed "rotulus/rotuluslaw14.NfaPlain" = some 3 by kernel_rfl).symm.trans hf) |>.symm
 obtain rfl : fn = Tryz.f3 := (Option.some.inj (Tryz.func3.symm.trans hfn)).symm
 refine ⟨by kernel_rfl, fun j t ht => ?_⟩
 rw [Tryz.params3] at ht
 have hm := Array.mem_of_getElem? ht
 simp at hm
 subst hm
 exact (show Tryz.prog.wantsStandIn 9 = false by kernel_rfl)
set_option maxRecDepth 100000 in
theorem card : Rows.NfaPlainUptoCardSaid :=
 Claim7.holds_tied_plain_at .later [] _ _ _ _ said (fun _ h => by cases h) (by kernel_rfl) (fun _ h => by cases h) nfaPlainUpto_row_tie rfl ⟨rfl, rfl⟩ (by kernel_rfl) rfl plain (by kernel_rfl)
end Go.Proofs.YteemnmalikomgaaGreatDoor.nfaPlain
