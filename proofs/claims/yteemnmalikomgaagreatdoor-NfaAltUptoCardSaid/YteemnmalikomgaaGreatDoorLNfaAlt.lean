/-
  The statement NfaAlt: an alternation matches where one of its parts does; a row where one does and the next one from there. For every three texts of at most 1048576 bytes together (of which the statement takes the first twelve bytes of two and the first twenty signs of the third) and every number; it holds where the table of widths is as its initialiser lays it, which the card ties to the program's text.
-/
import Derived.Test.YteemnmalikomgaaGreatDoorQNaEvZ0
import Derived.Test.YteemnmalikomgaaGreatDoorQNaBase0
import Derived.Test.YteemnmalikomgaaGreatDoorQNaBase1
import Derived.Test.YteemnmalikomgaaGreatDoorQNaBase12
import Derived.BigQuiet
namespace Go.Proofs.YteemnmalikomgaaGreatDoor.nfaAlt
open Go.ChangeShapes Go.WideShapes Go.ChangeAt Go.RowKit
open NF
theorem two_made (w : World) (N : Nat) : MkBk ((w.alloc (.cells (madeCells #[.bool false] N) 4)).alloc (.cells (madeCells #[.bool false] N) 4)) w.heap.size (List.replicate N false) ∧ MkBk ((w.alloc (.cells (madeCells #[.bool false] N) 4)).alloc (.cells (madeCells #[.bool false] N) 4)) (w.heap.size + 1) (List.replicate N false) ∧ Below w.heap.size w ((w.alloc (.cells (madeCells #[.bool false] N) 4)).alloc (.cells (madeCells #[.bool false] N) 4)) := by
 have b1 : Below w.heap.size w (w.alloc (.cells (madeCells #[.bool false] N) 4)) := (Below.refl _ _).alloc (Nat.le_refl _) _
 have k1 : MkBk (w.alloc (.cells (madeCells #[.bool false] N) 4)) w.heap.size (List.replicate N false) := by
  unfold MkBk
  rw [← made_bools]
  exact heap_alloc_new w _
 have z1 : (w.alloc (.cells (madeCells #[.bool false] N) 4)).heap.size = w.heap.size + 1 := by simp
 obtain ⟨w1, hw1⟩ : ∃ w1, w.alloc (.cells (madeCells #[.bool false] N) 4) = w1 := ⟨_, rfl⟩
 rw [hw1] at b1 k1 z1 ⊢
 have b2 : Below w1.heap.size w1 (w1.alloc (.cells (madeCells #[.bool false] N) 4)) := (Below.refl _ _).alloc (Nat.le_refl _) _
 have k2 : MkBk (w1.alloc (.cells (madeCells #[.bool false] N) 4)) w1.heap.size (List.replicate N false) := by
  unfold MkBk
  rw [← made_bools]
  exact heap_alloc_new w1 _
 rw [z1] at k2
 exact ⟨(b2.block _ (by omega)).trans k1, k2, b1.trans (b2.mono b1.size)⟩
theorem mk_set {K : List Bool} {k N : Nat} (hK : K.length = N) (hk : k < N) (j : Nat) : Mk (K.set k true) j ↔ j = k ∨ Mk K j := by
 unfold Mk
 rw [List.getElem?_set]
 by_cases h : k = j
 ·subst h
  rw [if_pos rfl, if_pos (by omega)]
  simp
 ·rw [if_neg h]
  constructor
  ·exact .inr
  ·rintro (h2 | h2)
   ·exact absurd h2.symm h
   ·exact h2
theorem ex_next {R : List Nat} {i k : Nat} (hk : R[i]? = some k) (j : Nat) : (∃ i', i' < i + 1 ∧ R[i']? = some j) ↔ j = k ∨ ∃ i', i' < i ∧ R[i']? = some j := by
 constructor
 ·rintro ⟨i', h1, h2⟩
  by_cases h : i' = i
  ·subst h
   rw [hk] at h2
   injection h2 with h2
   exact .inl h2.symm
  ·exact .inr ⟨i', by omega, h2⟩
 ·rintro (h | ⟨i', h1, h2⟩)
  ·subst h; exact ⟨i, by omega, hk⟩
  ·exact ⟨i', by omega, h2⟩
theorem ex_all {R : List Nat} (j : Nat) : (∃ i', i' < R.length ∧ R[i']? = some j) ↔ j ∈ R := by
 rw [List.mem_iff_getElem?]
 constructor
 ·rintro ⟨i, _, h⟩; exact ⟨i, h⟩
 ·rintro ⟨i, h⟩; exact ⟨i, (List.getElem?_eq_some_iff.1 h).1, h⟩
theorem no_marks {N j : Nat} : ¬ Mk (List.replicate N false) j := by
 unfold Mk
 rw [List.getElem?_replicate]
 split <;> simp
theorem num_cell {w : World} {B q i k : Nat} {A : Option Addr} {R : List Nat} (h : Sq w B 1 q A (nums R)) (hi : R[i]? = some k) (hq : i < q) : ∃ b off, A = some ⟨b, off, none⟩ ∧ w.cell? ⟨b, off + i, none⟩ = some (.int .i64 (k : Int)) := by
 obtain ⟨b, off, e, _, hc⟩ := h.spot (by omega)
 exact ⟨b, off, e, hc i _ (by unfold nums; rw [List.getElem?_map, hi]; rfl)⟩
theorem nums_one (R : List Nat) : ∀ u ∈ nums R, u.oneCell' = true := by
 intro u hu
 unfold nums at hu
 obtain ⟨x, _, rfl⟩ := List.mem_map.1 hu
 rfl
theorem wt_short {s : ByteArray} {t : Nd} (h : parseS s = .some t) (hs : s.size ≤ 12) : wt t ≤ 999999 := by
 have h1 := parse_wt (parseS_small h).2.2.2.2.2
 have h2 := all_short (octs s)
 rw [octs_length] at h2
 have h3 := Nat.pow_le_pow_right (show 0 < 3 by omega) (Nat.le_trans h2 hs)
 have h4 : (3 : Nat) ^ 12 = 531441 := by decide
 omega
theorem exact_iff {v u : Nat} (hu : u ≤ 999999) (h : min v 1000000 = min u 1000000) : v = u := by omega
theorem refWeight_exact (t : Nd) (x : Nv) (lo : Nat) (w : World) (hm : may t = true) (hw : wt t ≤ 999999) (hx : NdIn w lo w.heap.size t x) :
  Calls Tryz.prog 19 #[x.v] w fun e w' => e = .returned (.int .i64 (wt t : Int)) ∧ Below w.heap.size w w' := by
 refine (refWeight_walk (deep t) t x lo w.heap.size w (Nat.le_refl _) hm (Nat.le_refl _) hx).mono ?_
 rintro e w' ⟨v, rfl, h1, h2, h3⟩
 obtain rfl := exact_iff hw h2
 exact ⟨rfl, h3⟩
set_option maxRecDepth 100000 in
set_option maxHeartbeats 12800000 in
theorem walk (ra : ByteArray) (_ : ra.size ≤ 1048576) (rb : ByteArray) (_ : rb.size ≤ 1048576) (s0 : ByteArray) (hs0 : s0.size ≤ 1048576) (z : Int) (hzr : -9223372036854775808 ≤ z ∧ z ≤ 9223372036854775807) (w : World) (hs : Spans w) :
  Calls Tryz.prog 4 #[.string ra, .string rb, .string s0, .int .i64 z] w fun e w' => e = .returned (.bool true) ∧ Below w.heap.size w w' := by
 have S := Lib.hid hs
 have SA := Lib.hid (fun wx => shortT_walk ra 12 wx)
 have SB := Lib.hid (fun wx => shortT_walk rb 12 wx)
 obtain ⟨T, hT⟩ : ∃ T, shortT ra 12 = T := ⟨_, rfl⟩
 obtain ⟨U, hU⟩ : ∃ U, shortT rb 12 = U := ⟨_, rfl⟩
 have hT12 : T.size ≤ 12 := by rw [← hT]; exact shortT_size ra 12
 have hU12 : U.size ≤ 12 := by rw [← hU]; exact shortT_size rb 12
 rw [hT] at SA
 rw [hU] at SB
 clear hs hT hU
 go_enter Tryz.func4, Tryz.ntmps4
 go_wp2_with fail
 refine (Ev.Trues.at Ev.begun14 w S.out).mono ?_
 rintro e w1 ⟨rfl, b1⟩
 have B1 := Lib.hid b1
 clear b1 S
 go_wp2_with fail
 refine (SA.out w1).mono ?_
 rintro e w' ⟨rfl, rfl⟩
 go_wp2_with fail
 refine (SB.out w1).mono ?_
 rintro e w' ⟨rfl, rfl⟩
 clear SA SB
 have PW := Lib.hid (parse_walk T (by omega) w1)
 go_wp2_with fail
 refine PW.out.mono ?_
 intro e w2 hp
 obtain ⟨⟨k, A, nn, c, nt, A2, n2, c2, mn, mx⟩, e1, rfl, b2, HX⟩ : ∃ (x : Nv) (e1 : Int), e = .returned (.tuple #[x.v, .int .i64 e1]) ∧ Below w1.heap.size w1 w2 ∧ Hid ((e1 = 0 → ∃ t, parseS T = .some t ∧ NdIn w2 w1.heap.size w2.heap.size t x) ∧ (e1 = 0 ∨ e1 = 5)) := by
  cases hps : parseS T with
  | none =>
   rw [hps] at hp
   obtain ⟨rfl, b⟩ := hp
   exact ⟨zeroV, 5, rfl, b, Lib.hid ⟨fun h => by omega, .inr rfl⟩⟩
  | some t =>
   rw [hps] at hp
   obtain ⟨x, rfl, h1, h2⟩ := hp
   exact ⟨x, 0, rfl, h2, Lib.hid ⟨fun _ => ⟨t, rfl, ndO_in (fun b hb => hb) h1⟩, .inl rfl⟩⟩
 obtain ⟨w3, hw3, k3, b3, z3⟩ := new_node w2 k A nn c nt A2 n2 c2 mn mx
 obtain ⟨NA, hNA⟩ : ∃ b, w2.heap.size = b := ⟨_, rfl⟩
 have B3 := Lib.hid (B1.out.trans ((b2.trans (b3.mono b2.size)).mono B1.out.size))
 have KA3 := Lib.hid (hNA ▸ k3 : nodeBk w3 NA ⟨k, A, nn, c, nt, A2, n2, c2, mn, mx⟩)
 have HX3 := Lib.hid (show (e1 = 0 → ∃ t, parseS T = .some t ∧ NdIn w3 w1.heap.size w3.heap.size t ⟨k, A, nn, c, nt, A2, n2, c2, mn, mx⟩) from fun h => by
  obtain ⟨t, h1, h2⟩ := HX.out.1 h
  exact ⟨t, h1, ndIn_up (Nat.le_refl _) b3.size (h2.below b3)⟩)
 have E1 := Lib.hid HX.out.2
 have HW3 := Lib.hid hw3
 have HNA := Lib.hid hNA
 clear hp b2 k3 b3 z3 hw3 hNA PW HX
 try dsimp only [Nv.v]
 go_upto_region 6 with fail
 rw [HNA.out]
 first
  | rw [HW3.out]
  | (change Code.wp _ _ _ _ (w2.alloc (.cells #[.int .i64 k, .slice A nn c, .bool nt, .slice A2 n2 c2, .int .i64 mn, .int .i64 mx] 29)); rw [HW3.out])
 have PU := Lib.hid (parse_walk U (by omega) w3)
 go_wp2_with fail
 refine PU.out.mono ?_
 intro e w4 hp
 obtain ⟨⟨k', A', nn', c', nt', A2', n2', c2', mn', mx'⟩, e2, rfl, b4, HY⟩ : ∃ (x : Nv) (e1 : Int), e = .returned (.tuple #[x.v, .int .i64 e1]) ∧ Below w3.heap.size w3 w4 ∧ Hid ((e1 = 0 → ∃ t, parseS U = .some t ∧ NdIn w4 w3.heap.size w4.heap.size t x) ∧ (e1 = 0 ∨ e1 = 5)) := by
  cases hps : parseS U with
  | none =>
   rw [hps] at hp
   obtain ⟨rfl, b⟩ := hp
   exact ⟨zeroV, 5, rfl, b, Lib.hid ⟨fun h => by omega, .inr rfl⟩⟩
  | some t =>
   rw [hps] at hp
   obtain ⟨x, rfl, h1, h2⟩ := hp
   exact ⟨x, 0, rfl, h2, Lib.hid ⟨fun _ => ⟨t, rfl, ndO_in (fun b hb => hb) h1⟩, .inl rfl⟩⟩
 obtain ⟨w5, hw5, k5, b5, z5⟩ := new_node w4 k' A' nn' c' nt' A2' n2' c2' mn' mx'
 obtain ⟨NB, hNB⟩ : ∃ b, w4.heap.size = b := ⟨_, rfl⟩
 have b45 := b4.trans (b5.mono b4.size)
 have B5 := Lib.hid (B3.out.trans (b45.mono B3.out.size))
 have KA5 := Lib.hid (KA3.out.below b45 KA3.out.lt)
 have KB5 := Lib.hid (hNB ▸ k5 : nodeBk w5 NB ⟨k', A', nn', c', nt', A2', n2', c2', mn', mx'⟩)
 have HX5 := Lib.hid (show (e1 = 0 → ∃ t, parseS T = .some t ∧ NdIn w5 0 w5.heap.size t ⟨k, A, nn, c, nt, A2, n2, c2, mn, mx⟩) from fun h => by
  obtain ⟨t, h1, h2⟩ := HX3.out h
  exact ⟨t, h1, ndIn_up (Nat.zero_le _) b45.size (h2.below b45)⟩)
 have HY5 := Lib.hid (show (e2 = 0 → ∃ t, parseS U = .some t ∧ NdIn w5 0 w5.heap.size t ⟨k', A', nn', c', nt', A2', n2', c2', mn', mx'⟩) from fun h => by
  obtain ⟨t, h1, h2⟩ := HY.out.1 h
  exact ⟨t, h1, ndIn_up (Nat.zero_le _) b5.size (h2.below b5)⟩)
 have E2 := Lib.hid HY.out.2
 have HW5 := Lib.hid hw5
 have HNB := Lib.hid hNB
 clear hp b4 k5 b5 z5 hw5 hNB PU HY b45 KA3 HX3 HW3 HNA
 try dsimp only [Nv.v]
 go_upto_region 7 with fail
 rw [HNB.out]
 first
  | rw [HW5.out]
  | (change Code.wp _ _ _ _ (w4.alloc (.cells #[.int .i64 k', .slice A' nn' c', .bool nt', .slice A2' n2' c2', .int .i64 mn', .int .i64 mx'] 29)); rw [HW5.out])
 clear HW5 HNB
 go_cut [61] from 48 to 62 (fun s61 wx => ∃ b : Bool, s61 = .bool b ∧ Hid (b = false → e1 = 0 ∧ e2 = 0 ∧ ∀ t u, parseS T = .some t → parseS U = .some u → wt t ≤ 300 ∧ wt u ≤ 300) ∧ Hid (Below w5.heap.size w5 wx))
 case first =>
  rcases E1.out with rfl | rfl
  ·rcases E2.out with rfl | rfl
   ·obtain ⟨t, ht, hx⟩ := HX5.out rfl
    obtain ⟨u, hu, hy⟩ := HY5.out rfl
    have MT := Lib.hid (parseS_small ht)
    have MU := Lib.hid (parseS_small hu)
    have WX := Lib.hid (wt_short ht hT12)
    have WY := Lib.hid (wt_short hu hU12)
    have RX := Lib.hid (fun W (b : Below w5.heap.size w5 W) => refWeight_exact t ⟨k, A, nn, c, nt, A2, n2, c2, mn, mx⟩ 0 W MT.out.1 WX.out (ndIn_up (Nat.le_refl _) b.size (hx.below b)))
    have RY := Lib.hid (fun W (b : Below w5.heap.size w5 W) => refWeight_exact u ⟨k', A', nn', c', nt', A2', n2', c2', mn', mx'⟩ 0 W MU.out.1 WY.out (ndIn_up (Nat.le_refl _) b.size (hy.below b)))
    have HT := Lib.hid ht
    have HU := Lib.hid hu
    obtain ⟨v1, hv1⟩ : ∃ v, wt t = v := ⟨_, rfl⟩
    obtain ⟨v2, hv2⟩ : ∃ v, wt u = v := ⟨_, rfl⟩
    rw [hv1] at RX WX
    rw [hv2] at RY WY
    have HV1 := Lib.hid hv1
    have HV2 := Lib.hid hv2
    have hv1' := WX.out
    have hv2' := WY.out
    dsimp only [Nv.v] at RX RY
    clear ht hx hu hy MT MU HX5 HY5 E1 E2 B1 B3 B5 hv1 hv2 WX WY
    obtain ⟨Jx, hJx, F, h0, hBn, hN'⟩ := ClsB.below w5
    have H0 := Lib.hid h0
    have HBn := Lib.hid hBn
    have PN1 := Lib.hid (show ∀ n, Calls Tryz.prog 19 #[.agg #[.int .i64 k, .slice A nn c, .bool nt, .slice A2 n2 c2, .int .i64 mn, .int .i64 mx]] (F n) fun e w' => e = .returned (.int .i64 (v1 : Int)) ∧ ∃ m, w' = F m from fun n => (RX.out (F n) (hBn n)).mono fun e w' ⟨he, hb⟩ => ⟨he, hN' n w' hb⟩)
    have PN2 := Lib.hid (show ∀ n, Calls Tryz.prog 19 #[.agg #[.int .i64 k', .slice A' nn' c', .bool nt', .slice A2' n2' c2', .int .i64 mn', .int .i64 mx']] (F n) fun e w' => e = .returned (.int .i64 (v2 : Int)) ∧ ∃ m, w' = F m from fun n => (RY.out (F n) (hBn n)).mono fun e w' ⟨he, hb⟩ => ⟨he, hN' n w' hb⟩)
    have KA := Lib.hid (fun n => nv_bk (show nodeBk (F n) NA ⟨k, A, nn, c, nt, A2, n2, c2, mn, mx⟩ from KA5.out.below (hBn n) KA5.out.lt))
    have KB := Lib.hid (fun n => nv_bk (show nodeBk (F n) NB ⟨k', A', nn', c', nt', A2', n2', c2', mn', mx'⟩ from KB5.out.below (hBn n) KB5.out.lt))
    have y0 := fun n => (KA.out n).1
    have y1 := fun n => (KA.out n).2.1
    have y2 := fun n => (KA.out n).2.2.1
    have y3 := fun n => (KA.out n).2.2.2.1
    have y4 := fun n => (KA.out n).2.2.2.2.1
    have y5 := fun n => (KA.out n).2.2.2.2.2
    have x0 := fun n => (KB.out n).1
    have x1 := fun n => (KB.out n).2.1
    have x2 := fun n => (KB.out n).2.2.1
    have x3 := fun n => (KB.out n).2.2.2.1
    have x4 := fun n => (KB.out n).2.2.2.2.1
    have x5 := fun n => (KB.out n).2.2.2.2.2
    have hwv : IntKind.i64.wrap ((v1 : Int) + (v2 : Int)) = (v1 : Int) + (v2 : Int) := IntWalk.i64_in _ (by omega)
    clear h0 hBn hN'
    refine ClsB.region F H0.out (by kernel_rfl) (by kernel_rfl) ?_
    repeat (go_big_quiet_step (first | (go_at_call 19; with_reducible exact PN1.out _) | (go_at_call 19; with_reducible exact PN2.out _)))
    refine wpQuiet_nil ?_
    intro _ hw'
    obtain ⟨nq, hw''⟩ := hw'
    subst hw''
    have C7 := Lib.hid (HBn.out nq)
    clear y0 y1 y2 y3 y4 y5 x0 x1 x2 x3 x4 x5
    go_wp2_with fail
    go_meet
    case rel => exact ⟨_, rfl, Lib.hid fun h => ⟨(by first | rfl | trivial), (by first | rfl | trivial), fun t' u' h1 h2 => by
     rw [HT.out] at h1
     rw [HU.out] at h2
     cases h1
     cases h2
     rw [HV1.out, HV2.out]
     simp at h
     omega⟩, C7⟩
   ·have h0 : ((5 : Int) == 0) = false := rfl
    go_quiet (fail)
    go_wp2_with fail
    go_meet
    case rel => exact ⟨true, rfl, Lib.hid fun h => (by cases h), Lib.hid (below_drewN w5 _)⟩
  ·have h0 : ((5 : Int) == 0) = false := rfl
   go_quiet (fail)
   go_wp2_with fail
   go_meet
   case rel => exact ⟨true, rfl, Lib.hid fun h => (by cases h), Lib.hid (below_drewN w5 _)⟩
 case rest =>
  obtain ⟨hb, rfl, LG, CX⟩ := hcut
  have B7 := Lib.hid (B5.out.trans (CX.out.mono B5.out.size))
  have KA7 := Lib.hid (KA5.out.below CX.out KA5.out.lt)
  have KB7 := Lib.hid (KB5.out.below CX.out KB5.out.lt)
  cases hb with
  | true =>
   go_wp2_with fail
   go_ret
   exact ⟨rfl, B7.out⟩
  | false =>
   obtain ⟨h1, h2, hwt⟩ := LG.out rfl
   subst h1 h2
   obtain ⟨t, ht, hx⟩ := HX5.out rfl
   obtain ⟨u, hu, hy⟩ := HY5.out rfl
   obtain ⟨hwx, hwy⟩ := hwt t u ht hu
   obtain ⟨mx1, dx1, cx1, _⟩ := parseS_small ht
   obtain ⟨my1, dy1, cy1, _⟩ := parseS_small hu
   have X7 := Lib.hid (ndIn_up (Nat.le_refl _) CX.out.size (hx.below CX.out))
   have Y7 := Lib.hid (ndIn_up (Nat.le_refl _) CX.out.size (hy.below CX.out))
   have M2 := Lib.hid (may_two mx1 my1)
   have D2 := Lib.hid (deep_two t u)
   have N2 := Lib.hid (count_two t u)
   have W2 := Lib.hid (wt_two t u)
   have MX := Lib.hid mx1
   have MY := Lib.hid my1
   have TY := Lib.hid (text_walk s0 (by omega) 20 (by omega) wc)
   clear LG CX HX5 HY5 ht hu hx hy hwt mx1 my1 KA5 KB5 E1 E2
   go_wp2_with fail
   refine TY.out.mono ?_
   rintro e w8 ⟨Al, cl, nl, rfl, hql, hll, hnl, hcl, b8⟩
   obtain ⟨l, hl⟩ : ∃ l, (runO st0 (octs s0)).take 20 = l := ⟨_, rfl⟩
   rw [hl] at hql hll
   have C8 := Lib.hid b8
   have B8 := Lib.hid (B7.out.trans (b8.mono B7.out.size))
   have QL8 := Lib.hid hql
   have LL := Lib.hid hll
   have X8 := Lib.hid (ndIn_up (Nat.le_refl _) b8.size (X7.out.below b8))
   have Y8 := Lib.hid (ndIn_up (Nat.le_refl _) b8.size (Y7.out.below b8))
   clear hql hll hl b8 TY X7 Y7
   by_cases hz : z < 0
   ·go_wp2_with fail
    go_ret
    exact ⟨rfl, B8.out⟩
   ·have hwl : IntKind.i64.wrap ((nl : Int) + 1) = (nl : Int) + 1 := IntWalk.i64_in _ (by omega)
    have hne : ((nl : Int) + 1 == 0) = false := by simp; omega
    have hne2 : ¬ ((nl : Int) + 1 = 0) := by omega
    obtain ⟨a, hza⟩ : ∃ a : Nat, z.tmod ((nl : Int) + 1) = (a : Int) := ⟨(z.tmod ((nl : Int) + 1)).toNat, by have := Int.tmod_nonneg ((nl : Int) + 1) (show 0 ≤ z by omega); omega⟩
    have han : a ≤ nl := by have := Int.tmod_lt_of_pos z (show (0 : Int) < (nl : Int) + 1 by omega); omega
    have hza2 : IntKind.i64.wrap (a : Int) = (a : Int) := IntWalk.i64_in _ (by omega)
    obtain ⟨w9, hw9, b9, z9, hx9⟩ := two_nodes X8.out Y8.out 4
    obtain ⟨g9, hg9⟩ : ∃ g, w8.heap.size = g := ⟨_, rfl⟩
    rw [hg9] at hx9
    have CA := Lib.hid (compile_ok (altN t u) ⟨4, none, 0, 0, false, some ⟨g9, 0, none⟩, 2, 2, 0, 0⟩ _ w9 hx9 M2.out.1 (by rw [D2.out.1]; omega) (by rw [N2.out.1]; omega) (by have := W2.out.1; omega))
    have C9 := Lib.hid (C8.out.trans (b9.mono C8.out.size))
    have B9 := Lib.hid (B8.out.trans (b9.mono B8.out.size))
    have QL9 := Lib.hid ((QL8.out.below b9).up b9.size)
    have X9 := Lib.hid (ndIn_up (Nat.le_refl _) b9.size (X8.out.below b9))
    have Y9 := Lib.hid (ndIn_up (Nat.le_refl _) b9.size (Y8.out.below b9))
    have HW9 := Lib.hid hw9
    have HG9 := Lib.hid hg9
    dsimp only [Nv.v] at CA
    obtain ⟨y0, y1, y2, y3, y4, y5⟩ := nv_bk (KA7.out.below C8.out KA7.out.lt)
    obtain ⟨x0, x1, x2, x3, x4, x5⟩ := nv_bk (KB7.out.below C8.out KB7.out.lt)
    clear hw9 hg9 b9 z9 hx9 QL8 X8 Y8
    go_wp2_with fail
    rw [HG9.out]
    first
     | rw [HW9.out]
     | (change Code.wp _ _ _ _ (w8.alloc _); rw [HW9.out])
     | skip
    refine CA.out.mono ?_
    rintro e w10 ⟨pa, rfl, hpa, b10⟩
    have C10 := Lib.hid (C9.out.trans (b10.mono C9.out.size))
    have B10 := Lib.hid (B9.out.trans (b10.mono B9.out.size))
    have QL10 := Lib.hid ((QL9.out.below b10).up b10.size)
    have X10 := Lib.hid (ndIn_up (Nat.le_refl _) b10.size (X9.out.below b10))
    have Y10 := Lib.hid (ndIn_up (Nat.le_refl _) b10.size (Y9.out.below b10))
    have PA := Lib.hid hpa
    clear hpa b10 CA y0 y1 y2 y3 y4 y5 x0 x1 x2 x3 x4 x5 HW9 HG9 QL9 X9 Y9
    obtain ⟨w11, hw11, b11, z11, hx11⟩ := two_nodes X10.out Y10.out 3
    obtain ⟨g11, hg11⟩ : ∃ g, w10.heap.size = g := ⟨_, rfl⟩
    rw [hg11] at hx11
    have CB := Lib.hid (compile_ok (catN t u) ⟨3, none, 0, 0, false, some ⟨g11, 0, none⟩, 2, 2, 0, 0⟩ _ w11 hx11 M2.out.2 (by rw [D2.out.2]; omega) (by rw [N2.out.2]; omega) (by have := W2.out.2; omega))
    have C11 := Lib.hid (C10.out.trans (b11.mono C10.out.size))
    have B11 := Lib.hid (B10.out.trans (b11.mono B10.out.size))
    have QL11 := Lib.hid ((QL10.out.below b11).up b11.size)
    have X11 := Lib.hid (ndIn_up (Nat.le_refl _) b11.size (X10.out.below b11))
    have Y11 := Lib.hid (ndIn_up (Nat.le_refl _) b11.size (Y10.out.below b11))
    have PA11 := Lib.hid ((PA.out.below b11).up b11.size)
    have HW11 := Lib.hid hw11
    have HG11 := Lib.hid hg11
    dsimp only [Nv.v] at CB
    obtain ⟨y0, y1, y2, y3, y4, y5⟩ := nv_bk (KA7.out.below C10.out KA7.out.lt)
    obtain ⟨x0, x1, x2, x3, x4, x5⟩ := nv_bk (KB7.out.below C10.out KB7.out.lt)
    clear hw11 hg11 b11 z11 hx11 QL10 X10 Y10 PA
    go_wp2_with fail
    rw [HG11.out]
    first
     | rw [HW11.out]
     | (change Code.wp _ _ _ _ (w10.alloc _); rw [HW11.out])
     | skip
    refine CB.out.mono ?_
    rintro e w12 ⟨pb, rfl, hpb, b12⟩
    have C12 := Lib.hid (C11.out.trans (b12.mono C11.out.size))
    have B12 := Lib.hid (B11.out.trans (b12.mono B11.out.size))
    have QL12 := Lib.hid ((QL11.out.below b12).up b12.size)
    have X12 := Lib.hid (ndIn_up (Nat.le_refl _) b12.size (X11.out.below b12))
    have Y12 := Lib.hid (ndIn_up (Nat.le_refl _) b12.size (Y11.out.below b12))
    have PA12 := Lib.hid ((PA11.out.below b12).up b12.size)
    have PB12 := Lib.hid hpb
    clear hpb b12 CB y0 y1 y2 y3 y4 y5 x0 x1 x2 x3 x4 x5 HW11 HG11 QL11 X11 Y11 PA11
    have CU := Lib.hid (compile_ok t ⟨k, A, nn, c, nt, A2, n2, c2, mn, mx⟩ _ w12 X12.out MX.out (by omega) (by omega) (by omega))
    dsimp only [Nv.v] at CU
    obtain ⟨y0, y1, y2, y3, y4, y5⟩ := nv_bk (KA7.out.below C12.out KA7.out.lt)
    go_wp2_with fail
    refine CU.out.mono ?_
    rintro e w13 ⟨pu, rfl, hpu, b13⟩
    have C13 := Lib.hid (C12.out.trans (b13.mono C12.out.size))
    have B13 := Lib.hid (B12.out.trans (b13.mono B12.out.size))
    have QL13 := Lib.hid ((QL12.out.below b13).up b13.size)
    have Y13 := Lib.hid (ndIn_up (Nat.le_refl _) b13.size (Y12.out.below b13))
    have PA13 := Lib.hid ((PA12.out.below b13).up b13.size)
    have PB13 := Lib.hid ((PB12.out.below b13).up b13.size)
    have PU13 := Lib.hid hpu
    clear hpu b13 CU y0 y1 y2 y3 y4 y5 QL12 X12 Y12 PA12 PB12
    have CV := Lib.hid (compile_ok u ⟨k', A', nn', c', nt', A2', n2', c2', mn', mx'⟩ _ w13 Y13.out MY.out (by omega) (by omega) (by omega))
    dsimp only [Nv.v] at CV
    obtain ⟨y0, y1, y2, y3, y4, y5⟩ := nv_bk (KB7.out.below C13.out KB7.out.lt)
    go_wp2_with fail
    refine CV.out.mono ?_
    rintro e w14 ⟨pv, rfl, hpv, b14⟩
    have B14 := Lib.hid (B13.out.trans (b14.mono B13.out.size))
    have QL14 := Lib.hid ((QL13.out.below b14).up b14.size)
    have PA14 := Lib.hid ((PA13.out.below b14).up b14.size)
    have PB14 := Lib.hid ((PB13.out.below b14).up b14.size)
    have PU14 := Lib.hid ((PU13.out.below b14).up b14.size)
    have PV14 := Lib.hid hpv
    clear hpv b14 CV y0 y1 y2 y3 y4 y5 QL13 Y13 PA13 PB13 PU13 KA7 KB7
    have EA := Lib.hid (show ∀ W, Below w14.heap.size w14 W → Calls Tryz.prog 16 #[.pointer (some ⟨pa, 0, none⟩), .slice Al nl cl, .int .i64 (a : Int)] W fun e w' => EndsPost (endsL (fun e => Mat l (altN t u) a e) (nl + 1)) W e w' from fun W b => prg_ends ((PA14.out.below b).up b.size) Al nl cl a l han (by omega) (Nat.le_refl _) LL.out ((QL14.out.below b).up b.size))
    have EB := Lib.hid (show ∀ W, Below w14.heap.size w14 W → Calls Tryz.prog 16 #[.pointer (some ⟨pb, 0, none⟩), .slice Al nl cl, .int .i64 (a : Int)] W fun e w' => EndsPost (endsL (fun e => Mat l (catN t u) a e) (nl + 1)) W e w' from fun W b => prg_ends ((PB14.out.below b).up b.size) Al nl cl a l han (by omega) (Nat.le_refl _) LL.out ((QL14.out.below b).up b.size))
    have EU := Lib.hid (show ∀ W, Below w14.heap.size w14 W → Calls Tryz.prog 16 #[.pointer (some ⟨pu, 0, none⟩), .slice Al nl cl, .int .i64 (a : Int)] W fun e w' => EndsPost (endsL (fun e => Mat l t a e) (nl + 1)) W e w' from fun W b => prg_ends ((PU14.out.below b).up b.size) Al nl cl a l han (by omega) (Nat.le_refl _) LL.out ((QL14.out.below b).up b.size))
    have EV := Lib.hid (show ∀ W, Below w14.heap.size w14 W → ∀ k, k ≤ nl → Calls Tryz.prog 16 #[.pointer (some ⟨pv, 0, none⟩), .slice Al nl cl, .int .i64 (k : Int)] W fun e w' => EndsPost (endsL (fun e => Mat l u k e) (nl + 1)) W e w' from fun W b k hk => prg_ends ((PV14.out.below b).up b.size) Al nl cl k l hk (by omega) (Nat.le_refl _) LL.out ((QL14.out.below b).up b.size))
    go_upto_region 19 with fail
    obtain ⟨N, hN⟩ : ∃ N : Nat, nl + 1 = N := ⟨_, rfl⟩
    have hNc : (nl : Int) + 1 = (N : Int) := by omega
    have hNw : IntKind.i64.wrap (N : Int) = (N : Int) := IntWalk.i64_in _ (by omega)
    have hN0 : (0 : Int) ≤ (N : Int) := by omega
    obtain ⟨j0, hj, hj0, hj1, hj2⟩ := info_parts infoBool
    have MK := fun W => run_make W 42 4 j0 (.bool false) Tryz.underlying42 hj hj0 .i64 .i64 (N : Int) (N : Int) hN0 (Int.le_refl _) (by rw [hj2]; omega) (by omega)
    simp only [hj1, Int.toNat_natCast, Nat.mul_one] at MK
    have KN := Lib.hid (fun (W : World) => show MkBk (W.alloc (.cells (madeCells #[.bool false] N) 4)) W.heap.size (List.replicate N false) from by
     unfold MkBk
     rw [← made_bools]
     exact heap_alloc_new W _)
    rw [hN] at EA EB EU EV
    have HN := Lib.hid hN
    clear hj hj0 hj1 hj2 hN
    go_cut [23, 24] from 111 to 119 (fun s23 s24 wx => ∃ gA gB : Nat, s23 = .slice (some ⟨gA, 0, none⟩) N N ∧ s24 = .slice (some ⟨gB, 0, none⟩) N N ∧ Hid (gA ≠ gB ∧ w14.heap.size ≤ gA ∧ w14.heap.size ≤ gB) ∧ Hid (MkBk wx gA (List.replicate N false) ∧ MkBk wx gB (List.replicate N false)) ∧ Hid (Below w14.heap.size w14 wx))
    case first =>
     have TM := Lib.hid (two_made w14.drew N)
     have TN := Lib.hid (two_made w14 N)
     go_region
     all_goals
      go_wp2_with fail
      go_meet
      case rel => first
       | exact ⟨w14.heap.size, w14.heap.size + 1, rfl, rfl, Lib.hid ⟨by omega, Nat.le_refl _, Nat.le_succ _⟩, Lib.hid ⟨TM.out.1, TM.out.2.1⟩, Lib.hid ((Below.refl w14.heap.size w14).drew.trans TM.out.2.2)⟩
       | exact ⟨w14.heap.size + 1, w14.heap.size, rfl, rfl, Lib.hid ⟨by omega, Nat.le_succ _, Nat.le_refl _⟩, Lib.hid ⟨TM.out.2.1, TM.out.1⟩, Lib.hid ((Below.refl w14.heap.size w14).drew.trans TM.out.2.2)⟩
       | exact ⟨w14.heap.size, w14.heap.size + 1, rfl, rfl, Lib.hid ⟨by omega, Nat.le_refl _, Nat.le_succ _⟩, Lib.hid ⟨TN.out.1, TN.out.2.1⟩, Lib.hid TN.out.2.2⟩
       | exact ⟨w14.heap.size + 1, w14.heap.size, rfl, rfl, Lib.hid ⟨by omega, Nat.le_succ _, Nat.le_refl _⟩, Lib.hid ⟨TN.out.2.1, TN.out.1⟩, Lib.hid TN.out.2.2⟩
    case rest =>
     obtain ⟨gA, gB, rfl, rfl, NG, KK, CX⟩ := hcut
     have B15 := Lib.hid (B14.out.trans (CX.out.mono B14.out.size))
     clear MK KN
     obtain ⟨LU, hLU⟩ : ∃ L, endsL (fun e => Mat l t a e) N = L := ⟨_, rfl⟩
     obtain ⟨LV, hLV⟩ : ∃ L, endsL (fun e => Mat l u a e) N = L := ⟨_, rfl⟩
     have EVa := Lib.hid (EV.out wc CX.out)
     have HLU := Lib.hid hLU
     have HLV := Lib.hid hLV
     rw [hLU] at EU
     have hu1 : LU.length ≤ N := by rw [← hLU]; exact endsL_len _ _
     have hv1 : LV.length ≤ N := by rw [← hLV]; exact endsL_len _ _
     have hN21 : N ≤ 21 := by have := HN.out; omega
     obtain ⟨j0, hj, hj0, hj1, hj2⟩ := info_parts infoInt
     clear hLU hLV EVa
     go_wp2_with fail
     refine (EU.out wc CX.out).mono ?_
     rintro e w15 ⟨v1, rfl, ho1, b15⟩
     have C15 := Lib.hid (CX.out.trans (b15.mono CX.out.size))
     have O15 := Lib.hid ho1
     have K15 := Lib.hid (show MkBk w15 gA (List.replicate N false) ∧ MkBk w15 gB (List.replicate N false) from ⟨(Trn.ofBelow b15 fun _ => False).bk KK.out.1 id, (Trn.ofBelow b15 fun _ => False).bk KK.out.2 id⟩)
     have S15 := Lib.hid b15.size
     have EV2 := Lib.hid (EV.out w15 C15.out a han)
     rw [HLV.out] at EV2
     clear ho1 b15
     go_wp2_with fail
     refine EV2.out.mono ?_
     rintro e w16 ⟨v2, rfl, ho2, b16⟩
     obtain ⟨A16, c16, rfl⟩ := own_len ho2
     have C16 := Lib.hid (C15.out.trans (b16.mono C15.out.size))
     have O16 := Lib.hid ((Trn.ofBelow b16 fun _ => False).own O15.out (fun _ _ x => x))
     have K16 := Lib.hid (show MkBk w16 gA (List.replicate N false) ∧ MkBk w16 gB (List.replicate N false) from ⟨(Trn.ofBelow b16 fun _ => False).bk K15.out.1 id, (Trn.ofBelow b16 fun _ => False).bk K15.out.2 id⟩)
     have Q16 := Lib.hid (Sq.own ho2)
     have S16 := Lib.hid (Nat.le_trans S15.out b16.size)
     have F1 := Lib.hid (show LU.length + LV.length ≤ maxLen ∧ (LU.length + LV.length) * 8 ≤ 140737488355328 from by unfold maxLen; omega)
     clear ho2 b16 EV2 K15 O15
     go_wp2_with (first | (at_builtin; refine wpl_app rfl _ _ 36 rfl wc.heap.size 3 j0 (.int .i64 0) 1 8 Tryz.underlying36 hj hj0 hj1 hj2 rfl (by decide) v1 LU.length (nums LU) rfl O16.out A16 LV.length c16 (nums LV) rfl w16.heap.size Q16.out (nums_one _) F1.out.1 F1.out.2 S16.out ?_; intro v3 w17 ho3 hg3 _; (obtain ⟨A17, c17, rfl⟩ := own_len ho3); (have O17 := Lib.hid ho3); (have G17 := Lib.hid hg3); clear ho3 hg3))
     obtain ⟨R, hR⟩ : ∃ R, LU ++ LV = R := ⟨_, rfl⟩
     have hRl : LU.length + LV.length = R.length := by rw [← hR, List.length_append]
     have hRn : nums LU ++ nums LV = nums R := by rw [← hR]; unfold nums; rw [List.map_append]
     obtain ⟨q, hq⟩ : ∃ q, R.length = q := ⟨_, rfl⟩
     have OR := Lib.hid (show w17.ownsRow wc.heap.size 3 1 (.slice A17 q c17) q (nums R) from by
      have h := O17.out
      rw [hRn, hRl, hq] at h
      exact h)
     have T17 := Lib.hid (Trn.ofGrown G17.out)
     have K17 := Lib.hid (show MkBk w17 gA (List.replicate N false) ∧ MkBk w17 gB (List.replicate N false) from ⟨T17.out.bk K16.out.1 fun e => own_apart O16.out K16.out.1 (by decide) gA e rfl, T17.out.bk K16.out.2 fun e => own_apart O16.out K16.out.2 (by decide) gB e rfl⟩)
     have C17 := Lib.hid (show Below w14.heap.size w14 w17 from C16.out.trans (T17.out.toBelow C16.out.size fun k hk e => by have := (World.ownsRow.lt O16.out k e).1; have := CX.out.size; omega))
     have HR := Lib.hid hR
     have HQ := Lib.hid hq
     have hq42 : q ≤ 42 := by omega
     have hqc : ((LU.length : Int) + (LV.length : Int)) = (q : Int) := by omega
     try rw [hRl, hq]
     try rw [hqc]
     clear O17 G17 T17 K16 O16 Q16 hR hRl hRn hq hj hj0 hj1 hj2 KK
     have RIN := Lib.hid (show ∀ i' k, R[i']? = some k → k < N from fun i' k h => by
      have hm := List.mem_of_getElem? h
      rw [← HR.out, ← HLU.out, ← HLV.out] at hm
      rcases List.mem_append.1 hm with h | h
      ·exact (endsL_mem.1 h).1
      ·exact (endsL_mem.1 h).1)
     go_loopw [129] (fun x wr => ∃ (i : Nat) (K : List Bool), x = .int .i64 (i : Int) ∧ i ≤ q ∧ Hid (MkBk wr gA K ∧ K.length = N ∧ ∀ j, Mk K j ↔ ∃ i', i' < i ∧ R[i']? = some j) ∧ Hid (Trn (· = gA) w17 wr)) (fun x _ => q - (intOf x).toNat)
     case atStart => exact ⟨0, _, rfl, Nat.zero_le _, Lib.hid ⟨K17.out.1, by simp, fun j => ⟨fun h => absurd h no_marks, fun ⟨i', h, _⟩ => absurd h (Nat.not_lt_zero _)⟩⟩, Lib.hid (Trn.refl _ _)⟩
     case round =>
      obtain ⟨i, K, rfl, hiq, KI, TI⟩ := hrel
      have hi0 : (0 : Int) ≤ (i : Int) := by omega
      have hiw : IntKind.i64.wrap ((i : Int) + 1) = (i : Int) + 1 := IntWalk.i64_in _ (by omega)
      by_cases hlt : i < q
      ·have h1 : (i : Int) < (q : Int) := by omega
       obtain ⟨r, hr⟩ : ∃ r, R[i]? = some r := ⟨_, List.getElem?_eq_getElem (by rw [HQ.out]; exact hlt)⟩
       have hrN := RIN.out i r hr
       obtain ⟨b, off, rfl, c0⟩ := num_cell (Sq.own (TI.out.own OR.out (own_apart OR.out K17.out.1 (by decide)))) hr hlt
       obtain ⟨zz, hzz⟩ : ∃ z, K[r]? = some z := ⟨_, List.getElem?_eq_getElem (by rw [KI.out.2.1]; exact hrN)⟩
       have cz := KI.out.1.get hzz
       have fz := Bk.free KI.out.1 r
       have hr0 : ¬ (r : Int) < 0 := by omega
       have hr0' : (0 : Int) ≤ (r : Int) := by omega
       have hr1 : ¬ (nl : Int) < (r : Int) := by have := HN.out; omega
       have hr2 : (r : Int) < (N : Int) := by omega
       have K2 := Lib.hid (show MkBk (wr.setCell ⟨gA, r, none⟩ (.bool true)) gA (K.set r true) ∧ (K.set r true).length = N ∧ ∀ j, Mk (K.set r true) j ↔ ∃ i', i' < i + 1 ∧ R[i']? = some j from ⟨KI.out.1.set r true, by rw [List.length_set]; exact KI.out.2.1, fun j => by rw [mk_set KI.out.2.1 hrN, ex_next hr, KI.out.2.2]⟩)
       have T2 := Lib.hid (show Trn (· = gA) w17 (wr.setCell ⟨gA, r, none⟩ (.bool true)) from TI.out.trans (Trn.ofCell gA r wr _) fun _ _ h => h)
       clear hr hzz
       go_wp2_with fail
       go_roundw
       case rel => exact ⟨i + 1, _, by first | rfl | (congr 1; done) | (congr 1; omega), by omega, K2, T2⟩
       case measure => first | (simp [intOf]; done) | (simp [intOf]; omega)
      ·obtain rfl : i = q := by omega
       have hlt2 : ¬ (i : Int) < (i : Int) := by omega
       have KAL := Lib.hid (show ∀ j, Mk K j ↔ j < N ∧ (Mat l t a j ∨ Mat l u a j) from fun j => by
        rw [KI.out.2.2, ← HQ.out, ex_all, ← HR.out, List.mem_append, ← HLU.out, ← HLV.out, endsL_mem, endsL_mem]
        constructor
        ·rintro (h | h)
         ·exact ⟨h.1, .inl h.2⟩
         ·exact ⟨h.1, .inr h.2⟩
        ·rintro ⟨h1, h2 | h2⟩
         ·exact .inl ⟨h1, h2⟩
         ·exact .inr ⟨h1, h2⟩)
       have CI := Lib.hid (show Below w14.heap.size w14 wr from C17.out.trans (TI.out.toBelow C17.out.size fun k hk e => by have := NG.out.2.1; omega))
       have KB := Lib.hid (show MkBk wr gB (List.replicate N false) from TI.out.bk K17.out.2 fun e => NG.out.1 e.symm)
       have KA := Lib.hid (And.intro KI.out.1 KI.out.2.1)
       clear KI TI OR K17 C17 hi0 hiw RIN
       go_wp2_with fail
       refine (EU.out wr CI.out).mono ?_
       rintro e w18 ⟨v4, rfl, ho4, b18⟩
       obtain ⟨A18, c18, rfl⟩ := own_len ho4
       have C18 := Lib.hid (CI.out.trans (b18.mono CI.out.size))
       have O18 := Lib.hid ho4
       have KA18 := Lib.hid (show MkBk w18 gA K from (Trn.ofBelow b18 fun _ => False).bk KA.out.1 id)
       have KB18 := Lib.hid (show MkBk w18 gB (List.replicate N false) from (Trn.ofBelow b18 fun _ => False).bk KB.out id)
       obtain ⟨pU, hpU⟩ : ∃ q, LU.length = q := ⟨_, rfl⟩
       rw [hpU] at O18 hu1
       rw [hpU]
       have HPU := Lib.hid hpU
       clear ho4 b18 CI KB hpU
       go_wp2_with fail
       go_loopw [150] (fun x wr => ∃ (i : Nat) (C : List Bool), x = .int .i64 (i : Int) ∧ i ≤ pU ∧ Hid (MkBk wr gB C ∧ C.length = N ∧ ∀ j, Mk C j ↔ ∃ i' k, i' < i ∧ LU[i']? = some k ∧ j < N ∧ Mat l u k j) ∧ Hid (Trn (· = gB) w18 wr)) (fun x _ => pU - (intOf x).toNat)
       case atStart => exact ⟨0, _, rfl, Nat.zero_le _, Lib.hid ⟨KB18.out, by simp, fun j => ⟨fun h => absurd h no_marks, fun ⟨i', _, h, _⟩ => absurd h (Nat.not_lt_zero _)⟩⟩, Lib.hid (Trn.refl _ _)⟩
       case round =>
        obtain ⟨m, C, rfl, hmq, CI, TI⟩ := hrel
        have hm0 : (0 : Int) ≤ (m : Int) := by omega
        have hmw : IntKind.i64.wrap ((m : Int) + 1) = (m : Int) + 1 := IntWalk.i64_in _ (by omega)
        have CR := Lib.hid (show Below w14.heap.size w14 wr from C18.out.trans (TI.out.toBelow C18.out.size fun k hk e => by have := NG.out.2.2; omega))
        by_cases hmlt : m < pU
        ·have h1 : (m : Int) < (pU : Int) := by omega
         obtain ⟨r, hr⟩ : ∃ r, LU[m]? = some r := ⟨_, List.getElem?_eq_getElem (by rw [HPU.out]; exact hmlt)⟩
         have hrN : r ≤ nl := by
          have hm := List.mem_of_getElem? hr
          rw [← HLU.out] at hm
          have := (endsL_mem.1 hm).1
          have := HN.out
          omega
         obtain ⟨b, off, rfl, c0⟩ := num_cell (Sq.own (TI.out.own O18.out (own_apart O18.out KB18.out (by decide)))) hr hmlt
         have EK := Lib.hid (EV.out wr CR.out r hrN)
         obtain ⟨LK, hLK⟩ : ∃ L, endsL (fun e => Mat l u r e) N = L := ⟨_, rfl⟩
         rw [hLK] at EK
         have HLK := Lib.hid hLK
         have hk1 : LK.length ≤ N := by rw [← hLK]; exact endsL_len _ _
         have HRR := Lib.hid hr
         clear hr hLK
         go_wp2_with fail
         refine EK.out.mono ?_
         rintro e w19 ⟨v5, rfl, ho5, b19⟩
         obtain ⟨A19, c19, rfl⟩ := own_len ho5
         have O19 := Lib.hid ho5
         have C19 := Lib.hid (show MkBk w19 gB C from (Trn.ofBelow b19 fun _ => False).bk CI.out.1 id)
         have T19 := Lib.hid (show Trn (· = gB) w18 w19 from TI.out.trans (Trn.ofBelow b19 fun _ => False) fun _ _ h => h.elim)
         obtain ⟨pK, hpK⟩ : ∃ q, LK.length = q := ⟨_, rfl⟩
         rw [hpK] at O19 hk1
         rw [hpK]
         have HPK := Lib.hid hpK
         clear ho5 b19 hpK EK c0
         go_wp2_with fail
         go_loopw [159] (fun x wr => ∃ (i2 : Nat) (C2 : List Bool), x = .int .i64 (i2 : Int) ∧ i2 ≤ pK ∧ Hid (MkBk wr gB C2 ∧ C2.length = N ∧ ∀ j, Mk C2 j ↔ Mk C j ∨ ∃ i', i' < i2 ∧ LK[i']? = some j) ∧ Hid (Trn (· = gB) w19 wr)) (fun x _ => pK - (intOf x).toNat)
         case atStart => exact ⟨0, _, rfl, Nat.zero_le _, Lib.hid ⟨C19.out, CI.out.2.1, fun j => ⟨.inl, fun h => h.elim id fun ⟨i', h, _⟩ => absurd h (Nat.not_lt_zero _)⟩⟩, Lib.hid (Trn.refl _ _)⟩
         case round =>
          obtain ⟨i2, C2, rfl, hi2, CJ, TJ⟩ := hrel
          have hj0 : (0 : Int) ≤ (i2 : Int) := by omega
          have hjw : IntKind.i64.wrap ((i2 : Int) + 1) = (i2 : Int) + 1 := IntWalk.i64_in _ (by omega)
          by_cases hlt3 : i2 < pK
          ·have h1 : (i2 : Int) < (pK : Int) := by omega
           obtain ⟨y, hy⟩ : ∃ r, LK[i2]? = some r := ⟨_, List.getElem?_eq_getElem (by rw [HPK.out]; exact hlt3)⟩
           have hyN : y < N := by
            have hm := List.mem_of_getElem? hy
            rw [← HLK.out] at hm
            exact (endsL_mem.1 hm).1
           obtain ⟨b2, off2, rfl, c0⟩ := num_cell (Sq.own (TJ.out.own O19.out (own_apart O19.out C19.out (by decide)))) hy hlt3
           obtain ⟨zz, hzz⟩ : ∃ z, C2[y]? = some z := ⟨_, List.getElem?_eq_getElem (by rw [CJ.out.2.1]; exact hyN)⟩
           have cz := CJ.out.1.get hzz
           have fz := Bk.free CJ.out.1 y
           have hr0 : ¬ (y : Int) < 0 := by omega
           have hr0' : (0 : Int) ≤ (y : Int) := by omega
           have hr1 : ¬ (nl : Int) < (y : Int) := by have := HN.out; omega
           have hr2 : (y : Int) < (N : Int) := by omega
           have K2 := Lib.hid (show MkBk (wr.setCell ⟨gB, y, none⟩ (.bool true)) gB (C2.set y true) ∧ (C2.set y true).length = N ∧ ∀ j, Mk (C2.set y true) j ↔ Mk C j ∨ ∃ i', i' < i2 + 1 ∧ LK[i']? = some j from ⟨CJ.out.1.set y true, by rw [List.length_set]; exact CJ.out.2.1, fun j => by
            rw [mk_set CJ.out.2.1 hyN, ex_next hy, CJ.out.2.2]
            constructor
            ·rintro (h | h | h)
             ·exact .inr (.inl h)
             ·exact .inl h
             ·exact .inr (.inr h)
            ·rintro (h | h | h)
             ·exact .inr (.inl h)
             ·exact .inl h
             ·exact .inr (.inr h)⟩)
           have T2 := Lib.hid (show Trn (· = gB) w19 (wr.setCell ⟨gB, y, none⟩ (.bool true)) from TJ.out.trans (Trn.ofCell gB y wr _) fun _ _ h => h)
           clear hy hzz
           go_wp2_with fail
           go_roundw
           case rel => exact ⟨i2 + 1, _, by first | rfl | (congr 1; done) | (congr 1; omega), by omega, K2, T2⟩
           case measure => first | (simp [intOf]; done) | (simp [intOf]; omega)
          ·obtain rfl : i2 = pK := by omega
           have h1 : ¬ (i2 : Int) < (i2 : Int) := by omega
           have CN := Lib.hid (show MkBk wr gB C2 ∧ C2.length = N ∧ ∀ j, Mk C2 j ↔ ∃ i' k, i' < m + 1 ∧ LU[i']? = some k ∧ j < N ∧ Mat l u k j from ⟨CJ.out.1, CJ.out.2.1, fun j => by
            rw [CJ.out.2.2, CI.out.2.2, ← HPK.out, ex_all, ← HLK.out, endsL_mem]
            constructor
            ·rintro (⟨i', k, h1, h2, h3⟩ | ⟨h1, h2⟩)
             ·exact ⟨i', k, by omega, h2, h3⟩
             ·exact ⟨m, r, by omega, HRR.out, h1, h2⟩
            ·rintro ⟨i', k, h1, h2, h3, h4⟩
             by_cases h : i' = m
             ·subst h
              rw [HRR.out] at h2
              injection h2 with h2
              subst h2
              exact .inr ⟨h3, h4⟩
             ·exact .inl ⟨i', k, by omega, h2, h3, h4⟩⟩)
           have TN := Lib.hid (show Trn (· = gB) w18 wr from T19.out.trans TJ.out fun _ _ h => h)
           go_wp2_with fail
           go_roundw
           case rel => exact ⟨m + 1, _, by first | rfl | (congr 1; done) | (congr 1; omega), by omega, CN, TN⟩
           case measure => first | (simp [intOf]; done) | (simp [intOf]; omega)
        ·obtain rfl : m = pU := by omega
         have h1 : ¬ (m : Int) < (m : Int) := by omega
         have CAT := Lib.hid (show ∀ j, Mk C j ↔ j < N ∧ Mat l (catN t u) a j from fun j => by
          rw [CI.out.2.2, mat_cat2]
          constructor
          ·rintro ⟨i', k, h1, h2, h3, h4⟩
           have hm := List.mem_of_getElem? h2
           rw [← HLU.out] at hm
           exact ⟨h3, k, (endsL_mem.1 hm).2, h4⟩
          ·rintro ⟨h1, k, h2, h3⟩
           have hkl := mat_hi l t a k (by rw [LL.out]; exact han) h2
           rw [LL.out] at hkl
           have hm : k ∈ LU := by rw [← HLU.out]; exact endsL_mem.2 ⟨by have := HN.out; omega, h2⟩
           obtain ⟨i', hi'⟩ := List.mem_iff_getElem?.1 hm
           exact ⟨i', k, by rw [← HPU.out]; exact (List.getElem?_eq_some_iff.1 hi').1, hi', h1, h3⟩)
         have KAr := Lib.hid (show MkBk wr gA K from TI.out.bk KA18.out fun e => NG.out.1 e)
         have EA2 := Lib.hid (EA.out wr CR.out)
         obtain ⟨LA, hLA⟩ : ∃ L, endsL (fun e => Mat l (altN t u) a e) N = L := ⟨_, rfl⟩
         obtain ⟨LB, hLB⟩ : ∃ L, endsL (fun e => Mat l (catN t u) a e) N = L := ⟨_, rfl⟩
         rw [hLA] at EA2
         rw [hLB] at EB
         have MA := Lib.hid (show LA = endsL (Mk K) N from by rw [← hLA]; exact endsL_congr N fun e he => by rw [mat_alt2, KAL.out]; exact ⟨fun h => ⟨he, h⟩, fun h => h.2⟩)
         have MB := Lib.hid (show LB = endsL (Mk C) N from by rw [← hLB]; exact endsL_congr N fun e he => by rw [CAT.out]; exact ⟨fun h => ⟨he, h⟩, fun h => h.2⟩)
         have KBr := Lib.hid (And.intro CI.out.1 CI.out.2.1)
         clear hLA hLB CI TI EU EV CAT KAL
         go_wp2_with fail
         refine EA2.out.mono ?_
         intro e w20 h20
         obtain ⟨A20, c20, rfl, hq20, _, b20⟩ := ends_some h20
         have C20 := Lib.hid (CR.out.trans (b20.mono CR.out.size))
         have KA20 := (show MkBk w20 gA K from (Trn.ofBelow b20 fun _ => False).bk KAr.out id).sq
         have KB20 := Lib.hid (show MkBk w20 gB C from (Trn.ofBelow b20 fun _ => False).bk KBr.out.1 id)
         rw [KA.out.2] at KA20
         have MW := Lib.hid (marks_walk A20 (some ⟨gA, 0, none⟩) c20 N N w20.heap.size LA K w20 hq20 KA20 KA.out.2 MA.out (by omega))
         clear h20 hq20 b20 KA20 EA2
         go_wp2_with fail
         refine MW.out.mono ?_
         rintro e w' ⟨rfl, rfl⟩
         go_wp2_with fail
         refine (EB.out w' C20.out).mono ?_
         intro e w21 h21
         obtain ⟨A21, c21, rfl, hq21, _, b21⟩ := ends_some h21
         have C21 := Lib.hid (C20.out.trans (b21.mono C20.out.size))
         have KB21 := (show MkBk w21 gB C from (Trn.ofBelow b21 fun _ => False).bk KB20.out id).sq
         rw [KBr.out.2] at KB21
         have MW2 := Lib.hid (marks_walk A21 (some ⟨gB, 0, none⟩) c21 N N w21.heap.size LB C w21 hq21 KB21 KBr.out.2 MB.out (by omega))
         have BF := Lib.hid (B14.out.trans (C21.out.mono B14.out.size))
         clear h21 hq21 b21 KB21 MW
         go_wp2_with fail
         refine MW2.out.mono ?_
         rintro e w'' ⟨rfl, rfl⟩
         go_wp2_with fail
         go_ret
         exact ⟨rfl, BF.out⟩
set_option maxRecDepth 100000 in
theorem contract (H : Type) (enc : TypeId × Value → H) (W : World) (base : Nat) (args : Array Value) (ds gs : List (DataW H)) (before : List MemPlace)
  (hval : ∀ (j : Nat) t v, Tryz.f4.params[j]? = some t → args[j]? = some v → Value.okWide Tryz.prog W .any base t v)
  (hW : DataW.Whole enc Tryz.prog Tryz.f4.params.toList Rows.nfaAltSpec.vars false W args.toList ds gs before) (hL : laidMetH Tryz.prog Rows.nfaAltUptoRow.laid W) (hk : Rows.uptoSmall H (ds ++ gs) = true) :
  Calls Tryz.prog 4 args W fun e W' => ∃ v, e = .returned v ∧ Rows.nfaAltSpec.post enc Tryz.prog Tryz.f4 false true false false W args v W' := by
 have hW' := hW
 obtain ⟨p, q, hA0, hV, rfl, hfz, hnd⟩ := hW
 have hA : DataW.TrodAll enc Tryz.prog W 0 (fun _ => true) true Tryz.f4.params.toList args.toList ds p := hA0
 rw [Tryz.params4] at hA hval
 obtain ⟨v0, vs0, d0, ds0, p0, q0, hargs, rfl, rfl, h0, r0⟩ := trodAll_cons hA
 obtain ⟨v1, vs1, d1, ds1, p1, q1, rfl, rfl, rfl, h1, r1⟩ := trodAll_cons r0
 obtain ⟨v2, vs2, d2, ds2, p2, q2, rfl, rfl, rfl, h2, r2⟩ := trodAll_cons r1
 obtain ⟨v3, vs3, d3, ds3, p3, q3, rfl, rfl, rfl, h3, r3⟩ := trodAll_cons r2
 obtain ⟨rfl, rfl, rfl⟩ := trodAll_nil r3
 obtain rfl : args = #[v0, v1, v2, v3] := by cases args; simp_all
 obtain ⟨rfl, rfl⟩ := trodVars_none hV
 obtain ⟨x, rfl, rfl, rfl, wx⟩ := Go.ChangeMaps.open_string Tryz.underlying9 (hval 0 9 v0 rfl rfl) h0
 obtain ⟨y, rfl, rfl, rfl, wy⟩ := Go.ChangeMaps.open_string Tryz.underlying9 (hval 1 9 v1 rfl rfl) h1
 obtain ⟨z, rfl, rfl, rfl, wz⟩ := Go.ChangeMaps.open_string Tryz.underlying9 (hval 2 9 v2 rfl rfl) h2
 obtain ⟨u, rfl, rfl, rfl, wu⟩ := open_int Tryz.underlying3 (hval 3 3 v3 rfl rfl) h3
 clear hA0
 simp only [List.append_nil] at hk
 have hB := NF.bulk_le hk
 simp only [Rows.uptoBulkAll, Rows.uptoBulk] at hB
 have zx : x.size ≤ 1048576 := by
  have h : x.data.toList.length = x.size := by rw [Array.length_toList]; rfl
  omega
 have zy : y.size ≤ 1048576 := by
  have h : y.data.toList.length = y.size := by rw [Array.length_toList]; rfl
  omega
 have zz : z.size ≤ 1048576 := by
  have h : z.data.toList.length = z.size := by rw [Array.length_toList]; rfl
  omega
 refine (walk x zx y zy z zz u (wf_i64 wu) W (spans_of hL) ).mono fun e W' ⟨he, hg⟩ => ?_
 subst he
 exact ⟨_, rfl, close rfl hW' ⟨rfl, rfl, rfl⟩ (by kernel_rfl) (by kernel_rfl) hg⟩
set_option maxRecDepth 100000 in
theorem laid_met (os : Os) : laidMet Tryz.prog Rows.nfaAltUptoRow.laid ((laidWorld os).forCall (fun _ _ => 0) ⟨#[], #[.string .empty, .string .empty, .string .empty, .int .i64 0], []⟩).memory :=
 laidMet_of_run' 8 (by kernel_rfl) (by kernel_rfl)
set_option maxRecDepth 100000 in
theorem reads (os : Os) {H : Type} (enc : TypeId × Value → H) : ∃ places, DataW.whole enc Tryz.prog ((laidWorld os).forCall (fun _ _ => 0) ⟨#[], #[.string .empty, .string .empty, .string .empty, .int .i64 0], []⟩).memory Tryz.f4.params.toList Rows.nfaAltSpec.vars false (#[.string .empty, .string .empty, .string .empty, .int .i64 0] : Array Value).toList 8 = some ([.lit (.string []), .lit (.string []), .lit (.string []), .lit (.int .i64 0)], [], places) :=
 ⟨[], by kernel_rfl⟩
set_option maxRecDepth 100000 in
theorem lifted (os : Os) (started : os.Started) (H : Type) (enc : TypeId × Value → H) (F : Stop.Interp) :
  ReturnsInHanded {} Tryz.checked os 4 .any ((Rows.OpenSpec.upto Rows.nfaAltSpec).preRow enc Tryz.prog Tryz.f4 Rows.nfaAltUptoRow.domain false Rows.nfaAltUptoRow.laid) (((Rows.OpenSpec.upto Rows.nfaAltSpec).at F).post enc Tryz.prog Tryz.f4 false true false false) := by
 obtain ⟨places, hx⟩ := reads os enc
 refine returnsInHanded_of_row (C := Tryz.checked) (s := Rows.OpenSpec.upto Rows.nfaAltSpec) ownNone started (by kernel_rfl) Tryz.func4
  (witness_row_at (enc := enc) (C := Tryz.checked) false (laidWorld os) #[.string .empty, .string .empty, .string .empty, .int .i64 0] rfl (by kernel_rfl) (by kernel_rfl) (by kernel_rfl)
   (OpenSpec.preRow_of_cond 8 hx (by kernel_rfl) (fun k hk => by cases hk; kernel_rfl) (by kernel_rfl) (laid_met os))) ?_
 intro W base args ds gs before hval hW _ hcond _ hL _ _
 exact contract H enc W base args ds gs before hval hW hL (hcond _ rfl)
set_option maxRecDepth 100000 in
set_option maxHeartbeats 0 in
theorem facts : joinedFacts Tryz.checked.prog 4 Tryz.f4 (Rows.OpenSpec.upto Rows.nfaAltSpec).bare Rows.nfaAltUptoRow = true := by
 have h1 := Sum.tables.1
 have h2 := Sum.tables.2.1
 have h3 := Sum.tables.2.2
 have h4 := Sum.mayEnter
 have e1 : Rows.nfaAltUptoRow.lifted = Rows.findAllRow.lifted := by kernel_rfl
 have e2 : Rows.nfaAltUptoRow.make = Rows.findAllRow.make := by kernel_rfl
 have h5 : (Rows.nfaAltUptoRow.lifted == Tryz.checked.prog.liftsFinal) = true := by rw [e1]; exact Sum.lifts
 have h6 : (Tryz.checked.prog.make == some Rows.nfaAltUptoRow.make) = true := by rw [e2]; exact Sum.make
 unfold joinedFacts
 repeat' (with_reducible refine Sum.and_mk ?_ ?_)
 all_goals first
  | with_reducible exact h1
  | with_reducible exact h2
  | with_reducible exact h4
  | with_reducible exact h5
  | with_reducible exact h6
  | (rw [h3]; as_aux_lemma => kernel_rfl)
  | (clear h1 h2 h3 h4 h5 h6 e1 e2; as_aux_lemma => kernel_rfl)
set_option maxRecDepth 100000 in
theorem said : Rows.NfaAltUptoSaid :=
 OpenClaim.holds_of_cond 4 Tryz.f4 rfl rfl rfl rfl rfl rfl rfl ⟨rfl, rfl, rfl, rfl, rfl⟩ rfl rfl rfl rfl rfl (by kernel_rfl) Tryz.func4 facts
  (of_decide_eq_true (by kernel_rfl)) (by unfold Func.isWrapper; first | (rw [if_pos (by decide +kernel)]; kernel_rfl) | (rw [if_neg (by decide +kernel)]; exact ⟨rfl, rfl⟩))
  (fun os started H enc _ F => by rw [OpenClaim.pre_eq_preRow]; exact lifted os started H enc F)
set_option maxRecDepth 100000 in
theorem plain (f : FuncId) (fn : Func) (hf : Tryz.pinned.checked.prog.funcNamed "rotulus/rotuluslaw14.NfaAlt" = some f) (hfn : Tryz.pinned.checked.prog.funcs[f]? = some fn) :
  false = Tryz.pinned.checked.prog.looks [] ∧ ∀ (j : Nat) t, fn.params[j]? = some t → Tryz.pinned.checked.prog.wantsStandIn t = false := by
 obtain rfl : f = 4 := Option.some.inj ((show Tryz.prog.funcNamed "rotulus/rotuluslaw14.NfaAlt" = some 4 by kernel_rfl).symm.trans hf) |>.symm
 obtain rfl : fn = Tryz.f4 := (Option.some.inj (Tryz.func4.symm.trans hfn)).symm
 refine ⟨by kernel_rfl, fun j t ht => ?_⟩
 rw [Tryz.params4] at ht
 have hm := Array.mem_of_getElem? ht
 simp at hm
 rcases hm with rfl | rfl
 ·exact (show Tryz.prog.wantsStandIn 9 = false by kernel_rfl)
 ·exact (show Tryz.prog.wantsStandIn 3 = false by kernel_rfl)
set_option maxRecDepth 100000 in
theorem card : Rows.NfaAltUptoCardSaid :=
 Claim7.holds_tied_plain_at .later [] _ _ _ _ said (fun _ h => by cases h) (by kernel_rfl) (fun _ h => by cases h) nfaAltUpto_row_tie rfl ⟨rfl, rfl⟩ (by kernel_rfl) rfl plain (by kernel_rfl)
end Go.Proofs.YteemnmalikomgaaGreatDoor.nfaAlt
