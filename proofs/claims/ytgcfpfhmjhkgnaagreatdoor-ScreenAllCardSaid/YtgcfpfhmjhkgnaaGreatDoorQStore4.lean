import Derived.Test.YtgcfpfhmjhkgnaaGreatDoorQStore3
set_option maxRecDepth 100000
set_option maxHeartbeats 6400000
namespace Go.Proofs.YtgcfpfhmjhkgnaaGreatDoor
open Go.ChangeShapes Go.WideShapes Go.ChangeAt Go.RowKit
theorem SlAt.tail' {w : World} {base : Nat} {e : TypeId} {n b off cap off' : Nat} {x u : Value} {xs : List Value} (h : SlAt w base e (.slice (some ⟨b, off, none⟩) (n + 1) cap) (n + 1) (x :: xs)) (ho : off' = off + 1 ∨ (cap = 1 ∧ off' = off)) :
  SlAt (w.setCell ⟨b, off, none⟩ u) base e (.slice (some ⟨b, off', none⟩) n (cap - 1)) n xs := by
 rcases ho with rfl | ⟨rfl, rfl⟩
 ·exact (SlAt.tail (u := u) h (off + 1) (.inl rfl)).resolve_right (fun h => h rfl)
 ·have hc : n + 1 ≤ 1 := by
   obtain ⟨_, c, e, hc⟩ := h.shape
   injection e with _ _ e
   omega
  have hn : n = 0 := by omega
  subst hn
  have hx : xs = [] := List.eq_nil_of_length_eq_zero (by have := h.1; simpa using this)
  subst hx
  exact SlAt.empty (off' := off') h (Nat.le_refl _) u
def manyAt (w : World) (g : Nat) : Nat :=
 match w.cell? ⟨g, 2, none⟩ with
 | some (.int _ x) => x.toNat
 | _ => 0
theorem StR.many {w : World} {base g : Nat} {v : Value} {ps : List Pg} {lim many bytes gone : Int} (h : StR w base g v ps lim many bytes gone) : manyAt w g = many.toNat := by
 unfold manyAt
 rw [h.get 2]
 rfl
theorem StR.putPages {w : World} {base g : Nat} {v0 : Value} {lim many bytes gone : Int} (hc : w.heap[g]? = some (.cells #[v0, .int .i64 lim, .int .i64 many, .int .i64 bytes, .int .i64 gone] 144 (0, 0))) (hg : base ≤ g) {u : Value} {qs : List Pg} (hs : SlAt w base 112 u qs.length (qs.map fun p => ptr p.g)) (hp : ∀ p ∈ qs, PageAt w base p.g p.vs p.rows) (ha : (qs.map Pg.g).Nodup) :
  StR (w.setCell ⟨g, 0, none⟩ u) base g u qs lim many bytes gone := by
 have ht := Turned.ofCell g 0 w u
 have hgt : Typed w 144 g := ⟨_, _, hc⟩
 have hu : ∀ k, u.ownBlock = some k → Typed w 112 k := fun k e => let ⟨_, cs, h⟩ := hs.type k e; ⟨cs, _, h⟩
 refine ⟨heap_setCell_same w g 0 _ _ _ hc, hg, hs.kept fun b hb => ht.block b (hs.lt b hb).2 (fun e => (hu b hb).apart hgt (by decide) e), fun p hp' => (hp p hp').turned ht (fun e => (hp p hp').typed.apart hgt (by decide) e) (fun k e => ?_), ha⟩
 subst e
 exact fun hb => hgt.apart hb (by decide) rfl
theorem StR.shift {w : World} {base g b off off' cap : Nat} {p : Pg} {ps : List Pg} {lim many bytes gone : Int} (h : StR w base g (.slice (some ⟨b, off, none⟩) (ps.length + 1) cap) (p :: ps) lim many bytes gone) (ho : off' = off + 1 ∨ (cap = 1 ∧ off' = off)) :
  StR ((w.setCell ⟨b, off, none⟩ (.pointer none)).setCell ⟨g, 0, none⟩ (.slice (some ⟨b, off', none⟩) ps.length (cap - 1))) base g (.slice (some ⟨b, off', none⟩) ps.length (cap - 1)) ps lim many bytes gone := by
 have hbt : Typed w 112 b := h.slTyped b rfl
 have ht := Turned.ofCell b off w (.pointer none)
 refine StR.putPages (v0 := .slice (some ⟨b, off, none⟩) (ps.length + 1) cap) ?_ h.from' (SlAt.tail' h.sl ho) (fun q hq => (h.page q (by simp [hq])).turned ht (fun e => (h.page q (by simp [hq])).typed.apart hbt (by decide) e) (fun k e => ?_)) (by have := h.apart; rw [List.map_cons] at this; exact (List.nodup_cons.1 this).2)
 ·exact (ht.block g h.lt (fun e => h.typed.apart hbt (by decide) e)).trans h.cells
 ·subst e
  exact fun hb => hbt.apart hb (by decide) rfl
theorem Full.shift {p : Pg} {ps : List Pg} (h : Full (p :: ps)) : Full ps :=
 ⟨fun q hq => h.some' q (by simp [hq]), fun q hq => h.few q (by simp [hq]), fun i q hq h0 hl => h.full (i + 1) q (by simpa using hq) (by omega) (by simpa using hl)⟩
theorem Full.cutFront {p : Pg} {ps : List Pg} (h : Full (p :: ps)) (k : Nat) (hk : k < p.rows.length) : Full (⟨p.g, p.vs.drop k, p.rows.drop k⟩ :: ps) := by
 refine ⟨fun q hq => ?_, fun q hq => ?_, fun i q hq h0 hl => ?_⟩
 ·rcases List.mem_cons.1 hq with rfl | hq
  ·exact fun e => by have := congrArg List.length e; simp at this; omega
  ·exact h.some' q (by simp [hq])
 ·rcases List.mem_cons.1 hq with rfl | hq
  ·have := h.few p (by simp)
   simp only [List.length_drop]
   omega
  ·exact h.few q (by simp [hq])
 ·obtain ⟨j, rfl⟩ : ∃ j, i = j + 1 := ⟨i - 1, by omega⟩
  exact h.full (j + 1) q (by simpa using hq) h0 (by simpa using hl)
def FitPost (base g : Nat) (v : Value) (ps : List Pg) (lim gone : Nat) (w : World) (e : Ending) (w' : World) : Prop :=
 (∃ x, e = .returned x) ∧ ∃ v' ps', StoreAt w' base g v' ps' lim (gone + ((allRows ps).length - lim)) ∧ allRows ps' = (allRows ps).drop ((allRows ps).length - lim) ∧ Turned (Owns g v ps) w w' ∧ ∀ k, Owns g v' ps' k → Owns g v ps k
structure FitAt (base g : Nat) (v : Value) (ps : List Pg) (lim gone : Nat) (w : World) (v' : Value) (ps' : List Pg) (d : Nat) (w' : World) : Prop where
 at' : StoreAt w' base g v' ps' lim (gone + d)
 rows : allRows ps' = (allRows ps).drop d
 most : d ≤ (allRows ps).length - lim
 turned : Turned (Owns g v ps) w w'
 own : ∀ k, Owns g v' ps' k → Owns g v ps k
theorem FitAt.many {base g : Nat} {v v' : Value} {ps ps' : List Pg} {lim gone d : Nat} {w w' : World} (F : FitAt base g v ps lim gone w v' ps' d w') : manyAt w' g = (allRows ps').length := by rw [F.at'.raw.many]; rfl
theorem fit_shift {base g : Nat} {v : Value} {ps rest : List Pg} {p : Pg} {lim gone d k b off off' cap : Nat} {w w7 : World} {m1 b3 g1 : Int} (TT : Turned (Owns g v ps) w w7) (ER : (allRows ps).drop (d + k) = p.rows.drop k ++ allRows rest) (EM : (((p.rows.drop k ++ allRows rest).length : Nat) : Int) = m1)
  (EB : ((bytesN (p.rows.drop k ++ allRows rest) : Nat) : Int) = b3) (EG : ((gone + (d + k) : Nat) : Int) = g1) (MO : d + k ≤ (allRows ps).length - lim) (R7 : StR w7 base g (.slice (some ⟨b, off, none⟩) (rest.length + 1) cap) (⟨p.g, p.vs.drop k, p.rows.drop k⟩ :: rest) lim m1 b3 g1)
  (hpe : p.rows.drop k = []) (ho : off' = off + 1 ∨ (cap = 1 ∧ off' = off)) (hF : Full (p :: rest)) (own : ∀ j, Owns g (.slice (some ⟨b, off, none⟩) (rest.length + 1) cap) (p :: rest) j → Owns g v ps j) :
  FitAt base g v ps lim gone w (.slice (some ⟨b, off', none⟩) rest.length (cap - 1)) rest (d + k) ((w7.setCell ⟨b, off, none⟩ (.pointer none)).setCell ⟨g, 0, none⟩ (.slice (some ⟨b, off', none⟩) rest.length (cap - 1))) := by
 rw [hpe, List.nil_append] at ER EM EB
 refine ⟨⟨?_, hF.shift⟩, ER.symm, MO, (TT.trans (Turned.ofCell b off w7 _) fun j _ e => own j (.inr (.inl (by rw [e]; rfl)))).trans (Turned.ofCell g 0 _ _) (fun j _ e => own j (.inl e)), ?_⟩
 ·rw [EM, EB, EG]
  exact R7.shift ho
 ·rintro j (e | e | ⟨q, hq, e⟩)
  ·exact own j (.inl e)
  ·exact own j (.inr (.inl e))
  ·exact own j (.inr (.inr ⟨q, by simp [hq], e⟩))
theorem fit_stay {base g : Nat} {v v1 : Value} {ps rest : List Pg} {p : Pg} {lim gone d k : Nat} {w w7 : World} {m1 b3 g1 : Int} (TT : Turned (Owns g v ps) w w7) (ER : (allRows ps).drop (d + k) = p.rows.drop k ++ allRows rest) (EM : (((p.rows.drop k ++ allRows rest).length : Nat) : Int) = m1)
  (EB : ((bytesN (p.rows.drop k ++ allRows rest) : Nat) : Int) = b3) (EG : ((gone + (d + k) : Nat) : Int) = g1) (MO : d + k ≤ (allRows ps).length - lim) (R7 : StR w7 base g v1 (⟨p.g, p.vs.drop k, p.rows.drop k⟩ :: rest) lim m1 b3 g1)
  (hk : k < p.rows.length) (hF : Full (p :: rest)) (own : ∀ j, Owns g v1 (p :: rest) j → Owns g v ps j) : FitAt base g v ps lim gone w v1 (⟨p.g, p.vs.drop k, p.rows.drop k⟩ :: rest) (d + k) w7 := by
 refine ⟨⟨?_, hF.cutFront k hk⟩, by rw [allRows_cons]; exact ER.symm, MO, TT, ?_⟩
 ·rw [allRows_cons, EM, EB, EG]
  exact R7
 ·rintro j (e | e | ⟨q, hq, e⟩)
  ·exact own j (.inl e)
  ·exact own j (.inr (.inl e))
  ·rcases List.mem_cons.1 hq with rfl | hq
   ·exact own j (.inr (.inr ⟨p, by simp, e⟩))
   ·exact own j (.inr (.inr ⟨q, by simp [hq], e⟩))
theorem fit_walk {base g : Nat} {v : Value} {ps : List Pg} {lim gone : Nat} {w : World} (h : StoreAt w base g v ps lim gone) (hn : (allRows ps).length ≤ 2000000) (hg : gone ≤ 1099511627776) :
  Calls Tryz.prog 123 #[ptr g] w fun e w' => FitPost base g v ps lim gone w e w' := by
 have H0 := Lib.hid (FitAt.mk (d := 0) (gone := gone) (by simpa using h) rfl (Nat.zero_le _) (Turned.refl _ _) (fun _ h => h))
 have HN := Lib.hid hn
 have HG := Lib.hid hg
 clear h hn hg
 go_enter Tryz.func123, Tryz.ntmps123
 go_wp2_with fail
 go_loopw [2, 3, 4] (fun _ _ _ wr => ∃ v' ps' d, Hid (FitAt base g v ps lim gone w v' ps' d wr)) (fun _ _ _ wr => manyAt wr g)
 case atStart => exact ⟨_, _, 0, H0⟩
 case round =>
  obtain ⟨v1, ps1, d, F⟩ := hrel
  clear H0
  obtain ⟨m, hm⟩ : ∃ m, (allRows ps1).length = m := ⟨_, rfl⟩
  have hmn : m ≤ 2000000 := by rw [← hm, F.out.rows]; have := HN.out; simp; omega
  have R0 := F.out.at'.raw
  rw [hm] at R0
  by_cases hlt : lim < m
  ·cases ps1 with
   | nil =>
    rw [allRows_nil] at hm
    simp at hm
    omega
   | cons p rest =>
    obtain ⟨b, off, cap, rfl, hcap, _, hbl, hc, hcf⟩ := R0.pageCell (i := 0) (p := p) rfl
    have hPg := R0.page p (by simp)
    have hSm := bytesN_le (allRows (p :: rest)) (fun r hr => by
     unfold allRows at hr
     obtain ⟨q, hq, hr⟩ := List.mem_flatten.1 hr
     obtain ⟨q', hq', rfl⟩ := List.mem_map.1 hq
     exact (R0.page q' hq').len_row r hr)
    rw [hm] at hSm
    have hlen : (p.rows ++ allRows rest).length = m := by rw [← allRows_cons]; exact hm
    have hbb : bytesN (allRows (p :: rest)) = bytesN p.rows + bytesN (allRows rest) := by rw [allRows_cons, bytesN_append]
    obtain ⟨B, hB⟩ : ∃ B, bytesN (allRows (p :: rest)) = B := ⟨_, rfl⟩
    obtain ⟨b1, hb1⟩ : ∃ b1, bytesN p.rows = b1 := ⟨_, rfl⟩
    obtain ⟨len, hl⟩ : ∃ len, p.rows.length = len := ⟨_, rfl⟩
    obtain ⟨n, hnn⟩ : ∃ n, rest.length = n := ⟨_, rfl⟩
    rw [hB] at R0 hSm hbb
    rw [hb1] at hbb
    rw [List.length_append, hl] at hlen
    have hl0 : 0 < len := by
     rw [← hl]
     exact List.length_pos_iff.2 (F.out.at'.kept.some' p (by simp))
    have hl16 : len ≤ 16 := by rw [← hl]; exact F.out.at'.kept.few p (by simp)
    rw [List.length_cons, hnn] at hcap R0
    have c0 : wr.cell? ⟨g, 0, none⟩ = some (.slice (some ⟨b, off, none⟩) (n + 1) cap) := R0.get 0
    have c1 : wr.cell? ⟨g, 1, none⟩ = some (.int .i64 (lim : Int)) := R0.get 1
    have c2 : wr.cell? ⟨g, 2, none⟩ = some (.int .i64 (m : Int)) := R0.get 2
    rw [Nat.add_zero] at hc
    have dgt : (lim : Int) < (m : Int) := by omega
    have RH := Lib.hid R0
    have PH := Lib.hid hPg
    have B1 := Lib.hid hb1
    have BB := Lib.hid hbb
    have LL := Lib.hid hlen
    have hb1B : b1 ≤ B := by omega
    have hlm : len ≤ m := by omega
    have L1 := Lib.hid hl
    have N1 := Lib.hid hnn
    clear R0 hPg hm hB hb1 hl hnn hbb hlen
    go_wp2_with fail
    go_quiet (fail)
    rename_i nq
    have BD := Lib.hid (Below.drewN (Below.refl wr.heap.size wr) nq)
    generalize wr.drewN nq = wd at BD ⊢
    obtain ⟨k, hkd⟩ : ∃ k, min len (m - lim) = k := ⟨_, rfl⟩
    have hmin : min (len : Int) ((m : Int) - (lim : Int)) = (k : Int) := by omega
    have hsub : IntKind.i64.wrap ((m : Int) - (lim : Int)) = (m : Int) - (lim : Int) := IntWalk.i64_in _ (by omega)
    have e0 : wd.cell? ⟨g, 0, none⟩ = some (.slice (some ⟨b, off, none⟩) (n + 1) cap) := (BD.out.cell (p := ⟨g, 0, none⟩) RH.out.lt).trans c0
    have ec : wd.cell? ⟨b, off, none⟩ = some (ptr p.g) := (BD.out.cell (p := ⟨b, off, none⟩) hbl).trans hc
    have e1 := Lib.hid ((BD.out.cell (p := ⟨g, 1, none⟩) RH.out.lt).trans c1)
    have e2 := Lib.hid ((BD.out.cell (p := ⟨g, 2, none⟩) RH.out.lt).trans c2)
    have R3 := Lib.hid (RH.out.below BD.out)
    have P3 := Lib.hid (PH.out.below BD.out)
    have BW := Lib.hid (show Calls Tryz.prog 100 #[ptr p.g] wd.drew fun e w2 => e = .returned (.int .i64 (b1 : Int)) ∧ wd.drew = w2 from B1.out ▸ pageBytes_walk base p.g p.vs p.rows _ (P3.out.below (Below.refl _ _).drew))
    have LW := Lib.hid (show Calls Tryz.prog 121 #[ptr p.g] wd.drew fun e w2 => e = .returned (.int .i64 (len : Int)) ∧ wd.drew = w2 from L1.out ▸ pageLen_walk base p.g p.vs p.rows _ (P3.out.below (Below.refl _ _).drew))
    clear RH PH c0 c1 c2 hc
    go_wp2_with fail
    refine Ord.start (S := fun w' => w' = wd.drew) (n := 16) (by kernel_rfl) (by kernel_rfl) rfl ?_
    apply fit_two (g := g) (pg := p.g) (lim := lim) (m := m) (b1 := b1) (len := len) (k := k)
    case R => exact ⟨by kernel_rfl, by kernel_rfl⟩
    case hQ => exact fun _ _ _ _ _ h => h
    case c1 => exact e1.out
    case c2 => exact e2.out
    case hsub => exact hsub
    case hmin => exact hmin
    case BW => exact BW.out
    case LW => exact LW.out
    case F => exact ⟨rfl, rfl, rfl, rfl, rfl⟩
    intro a2 F2 f3 f4
    refine fit_frame F2.size F2.defers F2.s0 F2.s1 F2.s2 f3 f4 ?_
    intros
    clear F2 f3 f4 BW LW e1 e2
    have RD := Lib.hid (R3.out.below (Below.refl wd.heap.size wd).drew)
    have TD := Lib.hid (BD.out.trans ((Below.refl wd.heap.size wd).drew.mono BD.out.size))
    have CW := Lib.hid (pageCut_walk base p.g p.vs p.rows k wd.drew (P3.out.below (Below.refl wd.heap.size wd).drew) (by rw [L1.out]; omega))
    generalize wd.drew = wc at RD TD CW ⊢
    clear R3 P3 e0 ec BD
    go_wp2_with fail
    refine CW.out.mono ?_
    rintro e w4 ⟨rfl, hp4, ho4⟩
    obtain ⟨b2, hb2⟩ : ∃ b2, bytesN (p.rows.drop k) = b2 := ⟨_, rfl⟩
    have hb12 : b2 ≤ b1 := by have := bytesN_drop_take p.rows k; rw [B1.out, hb2] at this; omega
    have hl4 : (p.rows.drop k).length = len - k := by rw [List.length_drop, L1.out]
    have R4 := Lib.hid (show StR w4 base g (.slice (some ⟨b, off, none⟩) (n + 1) cap) (⟨p.g, p.vs.drop k, p.rows.drop k⟩ :: rest) lim m B ((gone + d : Nat) : Int) from RD.out.setPage (ps0 := []) (Turned.ofOnly ho4) hp4)
    have T4 := Lib.hid (Turned.ofOnly ho4)
    have BW := Lib.hid (show Calls Tryz.prog 100 #[ptr p.g] w4.drew fun e w2 => e = .returned (.int .i64 (b2 : Int)) ∧ w4.drew = w2 from hb2 ▸ pageBytes_walk base p.g _ _ _ (hp4.below (Below.refl _ _).drew))
    have LW := Lib.hid (show ∀ (w6 : World) (mm bb gg : Int), StR w6 base g (.slice (some ⟨b, off, none⟩) (n + 1) cap) (⟨p.g, p.vs.drop k, p.rows.drop k⟩ :: rest) lim mm bb gg → Turned (· = g) w4 w6 →
      Calls Tryz.prog 121 #[ptr p.g] w6 fun e w7 => e = .returned (.int .i64 ((len - k : Nat) : Int)) ∧ StR w7 base g (.slice (some ⟨b, off, none⟩) (n + 1) cap) (⟨p.g, p.vs.drop k, p.rows.drop k⟩ :: rest) lim mm bb gg ∧ Turned (· = g) w4 w7 from
     fun w6 mm bb gg h6 t6 => (pageLen_walk base p.g _ _ w6 (h6.page ⟨p.g, p.vs.drop k, p.rows.drop k⟩ (by simp))).mono (by rintro e w7 ⟨rfl, rfl⟩; exact ⟨by simp only [hl4], h6, t6⟩))
    have c2 : w4.cell? ⟨g, 2, none⟩ = some (.int .i64 (m : Int)) := R4.out.get 2
    have c3 : w4.cell? ⟨g, 3, none⟩ = some (.int .i64 (B : Int)) := R4.out.get 3
    have c4 : w4.cell? ⟨g, 4, none⟩ = some (.int .i64 ((gone + d : Nat) : Int)) := R4.out.get 4
    have f2 := R4.out.free 2
    have f3 := R4.out.free 3
    have f4 := R4.out.free 4
    have hgd : gone + d ≤ 1099513627776 := by
     have := F.out.most
     have := HN.out
     have := HG.out
     omega
    obtain ⟨gd, hgd'⟩ : ∃ gd, gone + d = gd := ⟨_, rfl⟩
    rw [hgd'] at c4 hgd R4
    have GD := Lib.hid hgd'
    have H2 := Lib.hid hb2
    have hkm : k ≤ m - lim := by omega
    have hkl : k ≤ len := by omega
    clear hp4 ho4 RD CW hl4 hb2 hgd' hsub hmin
    go_wp2_with fail
    go_region_with (go_at_call 100; refine BW.out.mono ?_; rintro e w5 ⟨rfl, rfl⟩)
    all_goals go_wp2_with fail
    all_goals
     refine (LW.out _ _ _ _ ((((R4.out.setBytes _).setMany _).setGone _).below (Below.refl _ _).drew) ⟨rfl, rfl, rfl, by simp, fun j _ hj => (Below.heap_setCell _ _ _ _ hj).trans ((Below.heap_setCell _ _ _ _ hj).trans (Below.heap_setCell _ _ _ _ hj))⟩).mono ?_
     rintro e w7 ⟨rfl, r7, t7⟩
     have TT := Lib.hid (((F.out.turned.trans (Turned.ofBelow TD.out (fun _ => False)) (fun _ _ h => h.elim)).trans T4.out (fun j _ e => F.out.own j (.inr (.inr ⟨p, by simp, e.symm⟩)))).trans t7 (fun j _ e => F.out.own j (.inl e)))
     have ER := Lib.hid (show (allRows ps).drop (d + k) = p.rows.drop k ++ allRows rest by
      rw [← List.drop_drop, ← F.out.rows, allRows_cons, List.drop_append_of_le_length (by rw [L1.out]; exact hkl)])
     have EM := Lib.hid (show (((p.rows.drop k ++ allRows rest).length : Nat) : Int) = (m : Int) - (k : Int) by
      rw [List.length_append, List.length_drop, L1.out]; have := LL.out; omega)
     have EB := Lib.hid (show ((bytesN (p.rows.drop k ++ allRows rest) : Nat) : Int) = (B : Int) - ((b1 : Int) - (b2 : Int)) by
      rw [bytesN_append, H2.out]; have := BB.out; omega)
     have MW := Lib.hid (show manyAt wr g = m by
      have := F.out.at'.raw.many
      rw [this, allRows_cons, List.length_append, L1.out]
      exact congrArg Int.toNat (show ((len + (allRows rest).length : Nat) : Int) = (m : Int) by rw [LL.out]))
     have MO := Lib.hid (show d + k ≤ (allRows ps).length - lim by
      have h1 := F.out.most
      have h2 := congrArg List.length F.out.rows
      rw [allRows_cons, List.length_append, L1.out, LL.out, List.length_drop] at h2
      omega)
     have EG := Lib.hid (show (((gone + (d + k) : Nat)) : Int) = (gd : Int) + (k : Int) by have := GD.out; omega)
     have R7 := Lib.hid r7
     obtain ⟨q, hq⟩ : ∃ q, len - k = q := ⟨_, rfl⟩
     rw [hq]
     have HQ := Lib.hid hq
     clear hq r7 t7 LW BW c2 c3 c4 f2 f3 f4 R4 T4
     have R8 := Lib.hid (show StR w7 base g (.slice (some ⟨b, off, none⟩) (rest.length + 1) cap) (⟨p.g, p.vs.drop k, p.rows.drop k⟩ :: rest) lim ((m : Int) - (k : Int)) ((B : Int) - ((b1 : Int) - (b2 : Int))) ((gd : Int) + (k : Int)) by rw [N1.out]; exact R7.out)
     have OW := Lib.hid (show ∀ j, Owns g (.slice (some ⟨b, off, none⟩) (rest.length + 1) cap) (p :: rest) j → Owns g v ps j by rw [N1.out]; exact F.out.own)
     by_cases h0 : q = 0
     ·have PE := Lib.hid (show p.rows.drop k = [] from List.eq_nil_of_length_eq_zero (by rw [List.length_drop, L1.out, HQ.out]; exact h0))
      obtain ⟨b', off', cap', e', _, _, hb7, cb, fb⟩ := R7.out.pageCell (i := 0) (p := ⟨p.g, p.vs.drop k, p.rows.drop k⟩) rfl
      injection e' with e1 e3 e4
      injection e1 with e1
      injection e1 with e1 e2
      subst e1 e2
      clear e3 e4
      rw [Nat.add_zero] at cb fb
      have c0 : w7.cell? ⟨g, 0, none⟩ = some (.slice (some ⟨b, off, none⟩) (n + 1) cap) := R7.out.get 0
      have hbg : b ≠ g := (R7.out.slTyped b rfl).apart R7.out.typed (by decide)
      have c0' : (w7.setCell ⟨b, off, none⟩ (.pointer none)).cell? ⟨g, 0, none⟩ = some (.slice (some ⟨b, off, none⟩) (n + 1) cap) := by
       rw [World.cell?_setCell_other (a := ⟨b, off, none⟩) (b := ⟨g, 0, none⟩) (h := fun e => by injection e with e _; exact hbg e)]
       exact c0
      have f0' : (w7.setCell ⟨b, off, none⟩ (.pointer none)).frozen? ⟨g, 0, none⟩ = false := by rw [World.frozen?_setCell]; exact R7.out.free 0
      subst h0
      have DONE := Lib.hid (fun off' (ho : off' = off + 1 ∨ (cap = 1 ∧ off' = off)) => fit_shift TT.out ER.out EM.out EB.out EG.out MO.out R8.out PE.out ho F.out.at'.kept OW.out)
      rw [N1.out] at DONE
      have ML := Lib.hid (show (allRows rest).length < m by have h1 := EM.out; rw [PE.out] at h1; simp only [List.nil_append] at h1; omega)
      clear R7 R8 hb7
      by_cases hc1 : cap = 1
      ·have DN := Lib.hid (DONE.out off (.inr ⟨hc1, rfl⟩))
       subst hc1
       obtain rfl : n = 0 := by omega
       clear DONE
       go_wp2
       go_roundw
       case rel => exact ⟨_, _, _, DN⟩
       case measure => exact Nat.lt_of_le_of_lt (Nat.le_of_eq (FitAt.many DN.out)) (MW.out ▸ ML.out)
      ·have DN := Lib.hid (DONE.out (off + 1) (.inl rfl))
       clear DONE
       go_wp2
       go_roundw
       case rel => exact ⟨_, _, _, DN⟩
       case measure => exact Nat.lt_of_le_of_lt (Nat.le_of_eq (FitAt.many DN.out)) (MW.out ▸ ML.out)
     ·have HK := Lib.hid (show k < p.rows.length by rw [L1.out]; have := HQ.out; omega)
      have DONE := Lib.hid (fit_stay TT.out ER.out EM.out EB.out EG.out MO.out R8.out HK.out F.out.at'.kept OW.out)
      have ML := Lib.hid (show (p.rows.drop k ++ allRows rest).length < m by have h1 := EM.out; omega)
      clear R7 R8
      go_wp2
      go_roundw
      case rel => exact ⟨_, _, _, DONE⟩
      case measure => exact Nat.lt_of_le_of_lt (Nat.le_of_eq (FitAt.many DONE.out)) (MW.out ▸ (by rw [allRows_cons]; exact ML.out))
  ·have D0 := Lib.hid (show (allRows ps).length - lim = d by
    have h1 := F.out.most
    have h2 := congrArg List.length F.out.rows
    rw [hm, List.length_drop] at h2
    omega)
   have c1 : wr.cell? ⟨g, 1, none⟩ = some (.int .i64 (lim : Int)) := R0.get 1
   have c2 : wr.cell? ⟨g, 2, none⟩ = some (.int .i64 (m : Int)) := R0.get 2
   have dle : ¬ (lim : Int) < (m : Int) := by omega
   clear R0 hm
   go_wp2_with fail
   go_quiet (fail)
   rename_i nq
   have BD := Lib.hid (Below.drewN (Below.refl wr.heap.size wr) nq)
   generalize wr.drewN nq = wd at BD ⊢
   go_wp2
   go_end0
   exact ⟨⟨_, rfl⟩, v1, ps1, by rw [D0.out]; exact F.out.at'.below BD.out, by rw [D0.out]; exact F.out.rows, F.out.turned.trans (Turned.ofBelow BD.out (fun _ => False)) (fun _ _ h => h.elim), F.out.own⟩
def addR (lim : Nat) (R : List PRow) (r : PRow) : List PRow := if mayL r.2 then (R ++ [r]).drop (R.length + 1 - lim) else R
def addG (lim : Nat) (R : List PRow) (r : PRow) : Nat := if mayL r.2 then R.length + 1 - lim else 0
def AddS (base g : Nat) (v : Value) (ps : List Pg) (lim gone : Nat) (r : PRow) (w : World) (e : Ending) (w' : World) : Prop :=
 ∃ v' ps', e = .returned (.bool (mayL r.2)) ∧ StoreAt w' base g v' ps' lim (gone + addG lim (allRows ps) r) ∧ allRows ps' = addR lim (allRows ps) r ∧ Turned (Owns g v ps) w w' ∧ ∀ k, Owns g v' ps' k → Owns g v ps k ∨ w.heap.size ≤ k
theorem Full.nil : Full [] := ⟨fun _ h => (by cases h), fun _ h => (by cases h), fun i p h => by simp at h⟩
theorem Full.snoc {ps : List Pg} {p : Pg} (h : Full ps) (hp : p.rows ≠ []) (h16 : p.rows.length ≤ 16) (hl : ∀ q, ps.getLast? = some q → q.rows.length = 16) : Full (ps ++ [p]) := by
 refine ⟨fun q hq => ?_, fun q hq => ?_, fun i q hq h0 hi => ?_⟩
 ·rcases List.mem_append.1 hq with hq | hq
  ·exact h.some' q hq
  ·rw [List.mem_singleton.1 hq]; exact hp
 ·rcases List.mem_append.1 hq with hq | hq
  ·exact h.few q hq
  ·rw [List.mem_singleton.1 hq]; exact h16
 ·rw [List.length_append, List.length_singleton] at hi
  have hil : i < ps.length := by omega
  rw [List.getElem?_append_left hil] at hq
  by_cases hl' : i + 1 < ps.length
  ·exact h.full i q hq h0 hl'
  ·refine hl q ?_
   rw [List.getLast?_eq_getElem?, show ps.length - 1 = i by omega]
   exact hq
theorem Full.more {ps : List Pg} {p p' : Pg} (h : Full (ps ++ [p])) (hp : p'.rows ≠ []) (h16 : p'.rows.length ≤ 16) : Full (ps ++ [p']) := by
 refine ⟨fun q hq => ?_, fun q hq => ?_, fun i q hq h0 hi => ?_⟩
 ·rcases List.mem_append.1 hq with hq | hq
  ·exact h.some' q (by simp [hq])
  ·rw [List.mem_singleton.1 hq]; exact hp
 ·rcases List.mem_append.1 hq with hq | hq
  ·exact h.few q (by simp [hq])
  ·rw [List.mem_singleton.1 hq]; exact h16
 ·rw [List.length_append, List.length_singleton] at hi
  have hil : i < ps.length := by omega
  rw [List.getElem?_append_left hil] at hq
  exact h.full i q (by rw [List.getElem?_append_left hil]; exact hq) h0 (by simp; omega)
theorem Full.last_lt {ps : List Pg} (h : Full ps) : ps.length ≤ (allRows ps).length := by
 have : ∀ (l : List Pg), (∀ p ∈ l, p.rows ≠ []) → l.length ≤ (allRows l).length := by
  intro l
  induction l with
  | nil => intro _; simp
  | cons a l ih =>
   intro hl
   rw [allRows_cons, List.length_append, List.length_cons]
   have h1 := List.length_pos_iff.2 (hl a (by simp))
   have h2 := ih (fun p hp => hl p (by simp [hp]))
   omega
 exact this ps h.some'
theorem storeBytes_le {w : World} {base g : Nat} {v : Value} {ps : List Pg} {lim many bytes gone : Int} (h : StR w base g v ps lim many bytes gone) : bytesN (allRows ps) ≤ 12010 * (allRows ps).length :=
 bytesN_le (allRows ps) fun r hr => by
  unfold allRows at hr
  obtain ⟨q, hq, hr⟩ := List.mem_flatten.1 hr
  obtain ⟨q', hq', rfl⟩ := List.mem_map.1 hq
  exact (h.page q' hq').len_row r hr
theorem infoPtr : (Tryz.prog.info? 112).map (fun i => (i.zero, i.size, i.bytes)) = some (some (.pointer none), 1, 8) := by kernel_rfl
def AddF (base g : Nat) (v : Value) (ps : List Pg) (lim gone : Nat) (r : PRow) (w w' : World) : Prop :=
 ∃ v' ps', StoreAt w' base g v' ps' lim (gone + ((allRows ps).length + 1 - lim)) ∧ allRows ps' = (allRows ps ++ [r]).drop ((allRows ps).length + 1 - lim) ∧ Turned (Owns g v ps) w w' ∧ ∀ k, Owns g v' ps' k → Owns g v ps k ∨ w.heap.size ≤ k
theorem addFit {base g : Nat} {v v2 : Value} {ps qs : List Pg} {lim gone : Nat} {r : PRow} {w w6 : World} {mm bb : Int} (h : StR w6 base g v2 qs lim mm bb gone) (hF : Full qs) (hr : allRows qs = allRows ps ++ [r]) (hm : mm = (((allRows ps ++ [r]).length : Nat) : Int)) (hb : bb = ((bytesN (allRows ps ++ [r]) : Nat) : Int))
  (ht : Turned (Owns g v ps) w w6) (ho : ∀ k, Owns g v2 qs k → Owns g v ps k ∨ w.heap.size ≤ k) (hn : (allRows ps).length ≤ 1000001) (hg : gone ≤ 1099511627776) :
  Calls Tryz.prog 123 #[ptr g] w6 fun e w' => (∃ x, e = .returned x) ∧ Hid (AddF base g v ps lim gone r w w') := by
 subst hm hb
 rw [← hr] at h
 refine (fit_walk (StoreAt.mk h hF) (by rw [hr, List.length_append, List.length_singleton]; omega) hg).mono ?_
 rintro e w' ⟨he, v', ps', h1, h2, h3, h4⟩
 rw [hr, List.length_append, List.length_singleton] at h1 h2
 refine ⟨he, v', ps', h1, h2, ⟨h3.os.trans ht.os, h3.tape.trans ht.tape, h3.output.trans ht.output, Nat.le_trans ht.size h3.size, fun k hk hne => ?_⟩, fun k hk => ho k (h4 k hk)⟩
 refine (h3.block k (Nat.lt_of_lt_of_le hk ht.size) (fun x => ?_)).trans (ht.block k hk hne)
 rcases ho k x with h | h
 ·exact hne h
 ·omega
theorem AddF.post {base g : Nat} {v : Value} {ps : List Pg} {lim gone : Nat} {r : PRow} {w w' : World} (h : AddF base g v ps lim gone r w w') (hm : mayL r.2 = true) : AddS base g v ps lim gone r w (.returned (.bool true)) w' := by
 obtain ⟨v', ps', h1, h2, h3, h4⟩ := h
 refine ⟨v', ps', by rw [hm], ?_, ?_, h3, h4⟩
 ·unfold addG; rw [if_pos hm]; exact h1
 ·unfold addR; rw [if_pos hm]; exact h2
theorem storeAdd_last {base g : Nat} {v : Value} {ps0 : List Pg} {p : Pg} {lim gone : Nat} (A : Option Addr) (n c : Nat) (wrap : Bool) (l : List Cel) (w : World) (hs : Spans w) (h : StoreAt w base g v (ps0 ++ [p]) lim gone) (hf : p.rows.length < 16) (hl : ∀ c ∈ l, -2147483648 ≤ c.1 ∧ c.1 ≤ 2147483647) (hq : Sq w w.heap.size 3 n A (flat l)) (hc : n ≤ c) (hn : n ≤ 1000000)
  (hN : (allRows (ps0 ++ [p])).length ≤ 1000001) (hg : gone ≤ 1099511627776) :
  Calls Tryz.prog 95 #[ptr g, rowV A n c wrap] w fun e w' => AddS base g v (ps0 ++ [p]) lim gone (wrap, l) w e w' := by
 have bb := (Below.refl w.heap.size w).alloc (Nat.le_refl _) (.cells #[.slice A n c, .bool wrap] 24)
 have R1 := h.raw.below bb
 have hp1 := R1.page p (by simp)
 have hbase : base ≤ w.heap.size := by have := h.raw.lt; have := h.raw.from'; omega
 have hpl : ps0.length ≤ 1000000 := by
  have h1 := h.kept.last_lt
  rw [List.length_append, List.length_singleton] at h1
  omega
 have RW := Lib.hid (roomy_last R1 hf hpl)
 have BW := Lib.hid (pageBytes_walk base p.g p.vs p.rows _ hp1)
 have AW := Lib.hid (pageAdd_walk base p.g p.vs p.rows A n c wrap l _ (hs.below bb hs.size) hp1 (Nat.le_trans hbase bb.size) hl ((hq.below bb).up (by simp)) hc hn)
 have H := Lib.hid h
 have NH := Lib.hid hN
 have GH := Lib.hid hg
 have B1 := Lib.hid bb
 have FH := Lib.hid hf
 have R1H := Lib.hid R1
 obtain ⟨b1, hb1⟩ : ∃ b1, bytesN p.rows = b1 := ⟨_, rfl⟩
 rw [hb1] at BW
 have H1 := Lib.hid hb1
 obtain ⟨B, hB⟩ : ∃ B, mayL l = B := ⟨_, rfl⟩
 have BH := Lib.hid hB
 clear h hf hl hq bb hs hB R1 hp1 hpl hb1
 cases B
 ·go_enter Tryz.func95, Tryz.ntmps95
  go_wp2_with fail
  refine RW.out.mono ?_
  rintro e w2 ⟨rfl, rfl⟩
  clear RW
  go_wp2_with fail
  refine BW.out.mono ?_
  rintro e w2 ⟨rfl, rfl⟩
  clear BW
  go_wp2_with fail
  refine AW.out.mono ?_
  rintro e w3 ⟨ok, vs', hok, rfl, h3, g3, _⟩
  rw [BH.out, Bool.false_and] at hok
  subst hok
  rw [if_neg (by decide)] at h3
  have R3 := Lib.hid (R1H.out.setPage (ps1 := []) ((Turned.ofGrown g3).mono fun k _ e => by injection e with e; exact e.symm) h3)
  have T3 := Lib.hid ((Turned.ofBelow B1.out (Owns g v (ps0 ++ [p]))).trans ((Turned.ofGrown g3).mono (M' := (· = p.g)) fun k _ e => by injection e with e; exact e.symm) (fun k _ e => .inr (.inr ⟨p, by simp, e.symm⟩)))
  clear h3 g3 AW R1H B1
  go_wp2
  go_ret
  have EA : allRows (ps0 ++ [⟨p.g, vs', p.rows⟩]) = allRows (ps0 ++ [p]) := by rw [allRows_append, allRows_append, allRows_cons, allRows_cons]
  refine ⟨v, ps0 ++ [⟨p.g, vs', p.rows⟩], by rw [BH.out]; rfl, ⟨?_, H.out.kept.more (H.out.kept.some' p (by simp)) (Nat.le_of_lt FH.out)⟩, ?_, T3.out, ?_⟩
  ·unfold addG
   rw [if_neg (by rw [BH.out]; decide), EA]
   exact R3.out
  ·unfold addR
   rw [if_neg (by rw [BH.out]; decide), EA]
  ·rintro k (e | e | ⟨q, hq, e⟩)
   ·exact .inl (.inl e)
   ·exact .inl (.inr (.inl e))
   ·rcases List.mem_append.1 hq with hq | hq
    ·exact .inl (.inr (.inr ⟨q, by simp [hq], e⟩))
    ·rw [List.mem_singleton.1 hq] at e
     exact .inl (.inr (.inr ⟨p, by simp, e⟩))
 ·go_enter Tryz.func95, Tryz.ntmps95
  go_wp2_with fail
  refine RW.out.mono ?_
  rintro e w2 ⟨rfl, rfl⟩
  clear RW
  go_wp2_with fail
  refine BW.out.mono ?_
  rintro e w2 ⟨rfl, rfl⟩
  clear BW
  go_wp2_with fail
  refine AW.out.mono ?_
  rintro e w3 ⟨ok, vs', hok, rfl, h3, g3, _⟩
  rw [BH.out, Bool.true_and, decide_eq_true FH.out] at hok
  subst hok
  rw [if_pos rfl] at h3
  have r3 := R1H.out.setPage (ps1 := []) ((Turned.ofGrown g3).mono fun k _ e => by injection e with e; exact e.symm) h3
  have T3 := Lib.hid ((Turned.ofBelow B1.out (Owns g v (ps0 ++ [p]))).trans ((Turned.ofGrown g3).mono (M' := (· = p.g)) fun k _ e => by injection e with e; exact e.symm) (fun k _ e => .inr (.inr ⟨p, by simp, e.symm⟩)))
  obtain ⟨m, hm⟩ : ∃ m, (allRows (ps0 ++ [p])).length = m := ⟨_, rfl⟩
  obtain ⟨bt, hbt⟩ : ∃ bt, bytesN (allRows (ps0 ++ [p])) = bt := ⟨_, rfl⟩
  obtain ⟨b2, hb2⟩ : ∃ b2, bytesN (p.rows ++ [(wrap, l)]) = b2 := ⟨_, rfl⟩
  have hb12 : b1 ≤ b2 := by rw [← hb2, bytesN_append, H1.out]; omega
  have hb1t : b1 ≤ bt := by rw [← hbt, allRows_append, bytesN_append, allRows_cons, allRows_nil, List.append_nil, H1.out]; omega
  have hbtm : bt ≤ 12010 * 1000001 := by
   have h1 := storeBytes_le H.out.raw
   have h2 := NH.out
   omega
  have hb2m : b2 ≤ 12010 * 16 := by
   have h1 := bytesN_le (p.rows ++ [(wrap, l)]) h3.len_row
   have h2 := h3.few
   omega
  have hmm : m ≤ 1000001 := by have := NH.out; omega
  have EA : allRows (ps0 ++ [⟨p.g, vs', p.rows ++ [(wrap, l)]⟩]) = allRows (ps0 ++ [p]) ++ [(wrap, l)] := by
   rw [allRows_append, allRows_append, allRows_cons, allRows_cons, allRows_nil, List.append_nil, List.append_nil, List.append_assoc]
  have R3 := Lib.hid (show StR w3 base g v (ps0 ++ [⟨p.g, vs', p.rows ++ [(wrap, l)]⟩]) lim (m : Int) (bt : Int) (gone : Int) by rw [← hm, ← hbt]; exact r3)
  have BW := Lib.hid (fun (w6 : World) (mm bb gg : Int) (h6 : StR w6 base g v (ps0 ++ [⟨p.g, vs', p.rows ++ [(wrap, l)]⟩]) lim mm bb gg) => (hb2 ▸ pageBytes_walk base p.g _ _ w6 (h6.page ⟨p.g, vs', p.rows ++ [(wrap, l)]⟩ (by simp)) : Calls Tryz.prog 100 #[ptr p.g] w6 fun e w7 => e = .returned (.int .i64 (b2 : Int)) ∧ w6 = w7))
  have FW := Lib.hid (fun (w6 : World) (mm bb : Int) (h6 : StR w6 base g v (ps0 ++ [⟨p.g, vs', p.rows ++ [(wrap, l)]⟩]) lim mm bb gone) (hmm : mm = (m : Int) + 1) (hbb : bb = (bt : Int) + ((b2 : Int) - (b1 : Int))) (ht : Turned (Owns g v (ps0 ++ [p])) w w6) =>
   addFit (ps := ps0 ++ [p]) (r := (wrap, l)) h6 (H.out.kept.more (by simp) (by rw [List.length_append, List.length_singleton]; have := FH.out; omega)) EA (by rw [hmm, List.length_append, hm]; rfl) (by
    rw [hbb, allRows_append, allRows_cons, allRows_nil, List.append_nil, List.append_assoc, bytesN_append, hb2]
    rw [allRows_append, allRows_cons, allRows_nil, List.append_nil, bytesN_append, H1.out] at hbt
    omega) ht (fun k => by
    rintro (e | e | ⟨q, hq, e⟩)
    ·exact .inl (.inl e)
    ·exact .inl (.inr (.inl e))
    ·rcases List.mem_append.1 hq with hq | hq
     ·exact .inl (.inr (.inr ⟨q, by simp [hq], e⟩))
     ·rw [List.mem_singleton.1 hq] at e
      exact .inl (.inr (.inr ⟨p, by simp, e⟩))) NH.out GH.out)
  have c2 : w3.cell? ⟨g, 2, none⟩ = some (.int .i64 (m : Int)) := R3.out.get 2
  have c3 : w3.cell? ⟨g, 3, none⟩ = some (.int .i64 (bt : Int)) := R3.out.get 3
  have f2 := R3.out.free 2
  have f3 := R3.out.free 3
  clear h3 g3 AW R1H B1 r3 EA hm hbt hb2
  go_wp2_with fail
  go_region_with (go_at_call 100; refine (BW.out _ _ _ _ ((R3.out.setMany _).below (Below.refl _ _).drew)).mono ?_; rintro e w5 ⟨rfl, rfl⟩)
  all_goals go_wp2_with fail
  all_goals
   refine (FW.out _ _ _ (((R3.out.setMany _).setBytes _).below (Below.refl _ _).drew) rfl rfl (T3.out.trans (M' := (· = g)) ⟨rfl, rfl, rfl, by simp, fun j _ hj => (Below.heap_setCell _ _ _ _ hj).trans (Below.heap_setCell _ _ _ _ hj)⟩ (fun j _ e => .inl e))).mono ?_
   rintro e w8 ⟨⟨x, rfl⟩, D⟩
   clear FW BW c2 c3 f2 f3 R3 T3
   go_wp2
   go_ret
   exact D.out.post BH.out
theorem StR.appended {w3 w4 : World} {base g pg np : Nat} {v v4 : Value} {ps : List Pg} {vs' : List Value} {rows' : List PRow} {lim many bytes gone : Int} (R3 : StR w3 base g v ps lim many bytes gone) (P3 : PageAt w3 base pg vs' rows') (hne : ∀ j, Owns g v ps j → j ≠ pg) (hnp : ps.length = np)
  (h4 : SlAt w4 base 112 v4 (np + 1) ((ps.map fun p => ptr p.g) ++ [ptr pg])) (g4 : (w3.alloc (.cells #[ptr pg] 112)).grownBy w4 v.ownBlock) :
  w4.heap[g]? = some (.cells #[v, .int .i64 lim, .int .i64 many, .int .i64 bytes, .int .i64 gone] 144 (0, 0)) ∧ StR (w4.setCell ⟨g, 0, none⟩ v4) base g v4 (ps ++ [⟨pg, vs', rows'⟩]) lim many bytes gone ∧ Turned (fun k => v.ownBlock = some k) w3 w4 := by
 have t : Turned (fun k => v.ownBlock = some k) w3 w4 := ⟨g4.os, g4.tape, g4.output, Nat.le_trans (by simp) g4.size, fun k hk hn => (g4.block k (by simp; omega) (fun e => hn e.symm)).trans (Below.heap_alloc _ _ _ hk)⟩
 have hb : ∀ k, v.ownBlock = some k → ¬ Typed w3 5 k := fun k e hb => (R3.slTyped k e).apart hb (by decide) rfl
 have hg := (t.block g R3.lt (fun e => (R3.slTyped g e).apart R3.typed (by decide) rfl)).trans R3.cells
 refine ⟨hg, StR.putPages hg R3.from' (by simpa [hnp] using h4) (fun q hq => ?_) ?_, t⟩
 ·rcases List.mem_append.1 hq with hq | hq
  ·exact (R3.page q hq).turned t (fun e => (R3.slTyped _ e).apart (R3.page q hq).typed (by decide) rfl) hb
  ·rw [List.mem_singleton.1 hq]
   exact P3.turned t (fun e => (R3.slTyped _ e).apart P3.typed (by decide) rfl) hb
 ·rw [List.map_append, List.nodup_append]
  refine ⟨R3.apart, by simp, fun a ha b hb' e => ?_⟩
  obtain ⟨q, hq, rfl⟩ := List.mem_map.1 ha
  simp at hb'
  exact hne q.g (.inr (.inr ⟨q, hq, rfl⟩)) (by rw [e, hb'])
theorem storeAdd_new {base g : Nat} {v : Value} {ps : List Pg} {lim gone : Nat} (A : Option Addr) (n c : Nat) (wrap : Bool) (l : List Cel) (w : World) (hs : Spans w) (h : StoreAt w base g v ps lim gone) (hlast : ∀ q, ps.getLast? = some q → q.rows.length = 16) (hl : ∀ c ∈ l, -2147483648 ≤ c.1 ∧ c.1 ≤ 2147483647) (hq : Sq w w.heap.size 3 n A (flat l)) (hc : n ≤ c) (hn : n ≤ 1000000)
  (hN : (allRows ps).length ≤ 1000001) (hg : gone ≤ 1099511627776)
  (RW : ∀ w1, w1 = w.alloc (.cells #[.slice A n c, .bool wrap] 24) → Calls Tryz.prog 122 #[ptr g] w1 fun e w' => RoomyNew w1 e w') :
  Calls Tryz.prog 95 #[ptr g, rowV A n c wrap] w fun e w' => AddS base g v ps lim gone (wrap, l) w e w' := by
 have bb := (Below.refl w.heap.size w).alloc (Nat.le_refl _) (.cells #[.slice A n c, .bool wrap] 24)
 have R1 := h.raw.below bb
 have hbase : base ≤ w.heap.size := by have := h.raw.lt; have := h.raw.from'; omega
 have RWH := Lib.hid (RW _ rfl)
 have H := Lib.hid h
 have NH := Lib.hid hN
 have GH := Lib.hid hg
 have B1 := Lib.hid bb
 have R1H := Lib.hid R1
 have LH := Lib.hid hlast
 have SH := Lib.hid (hs.below bb hs.size)
 have QH := Lib.hid (hq.below bb)
 have HL := Lib.hid hl
 have hz1 : (w.alloc (.cells #[.slice A n c, .bool wrap] 24)).heap.size = w.heap.size + 1 := by simp
 have Z1 := Lib.hid hz1
 obtain ⟨B, hB⟩ : ∃ B, mayL l = B := ⟨_, rfl⟩
 have BH := Lib.hid hB
 clear h hlast hl hq bb hs hB R1 RW hz1
 cases B
 ·go_enter Tryz.func95, Tryz.ntmps95
  go_wp2_with fail
  refine RWH.out.mono ?_
  rintro e w2 ⟨rfl, hp2, b2, _⟩
  have BW := Lib.hid (show Calls Tryz.prog 100 #[ptr (w.alloc (.cells #[.slice A n c, .bool wrap] 24)).heap.size] w2 fun e w' => e = .returned (.int .i64 0) ∧ w2 = w' from pageBytes_walk _ _ _ _ w2 hp2)
  have AW := Lib.hid (pageAdd_walk _ _ _ _ A n c wrap l w2 (SH.out.below b2 SH.out.size) hp2 b2.size HL.out ((QH.out.below (b2.mono (by rw [Z1.out]; omega))).up (by have := b2.size; have := Z1.out; omega)) hc hn)
  have R2 := Lib.hid (R1H.out.below b2)
  have B2 := Lib.hid (B1.out.trans (b2.mono (by rw [Z1.out]; omega)))
  have hpg : ∀ j, Owns g v ps j → j ≠ (w.alloc (.cells #[.slice A n c, .bool wrap] 24)).heap.size := fun j hj e => by have := (R1H.out.own_ge j hj).2; omega
  have PG := Lib.hid hpg
  have P2 := Lib.hid hp2.typed
  have rr : RowAt w2 w.heap.size (.slice A n c) wrap := (b2.block w.heap.size (by rw [Z1.out]; omega)).trans (heap_alloc_new w _)
  have k0 := rr.get 0
  have k1 := rr.get 1
  simp only [List.getElem?_toArray, List.getElem?_cons_zero, List.getElem?_cons_succ] at k0 k1
  have ZG := Lib.hid (show w.heap.size ≤ (w.alloc (.cells #[.slice A n c, .bool wrap] 24)).heap.size from B1.out.size)
  generalize (w.alloc (.cells #[.slice A n c, .bool wrap] 24)).heap.size = pg at BW AW PG P2 ZG ⊢
  clear RWH hp2 b2 hpg rr
  go_wp2_with fail
  refine BW.out.mono ?_
  rintro e w3 ⟨rfl, rfl⟩
  clear BW
  go_wp2_with fail
  refine AW.out.mono ?_
  rintro e w3 ⟨ok, vs', hok, rfl, h3, g3, _⟩
  rw [BH.out, Bool.false_and] at hok
  subst hok
  have t3 := (Turned.ofGrown g3).mono (M' := (· = pg)) fun k _ e => by injection e with e; exact e.symm
  have R3 := Lib.hid (R2.out.turned t3 PG.out (fun k e hb => by subst e; exact P2.out.apart hb (by decide) rfl))
  have T3 := Lib.hid (show Turned (Owns g v ps) w w3 from ⟨t3.os.trans B2.out.os, t3.tape.trans B2.out.tape, t3.output.trans B2.out.output, Nat.le_trans B2.out.size t3.size, fun k hk _ => (t3.block k (Nat.lt_of_lt_of_le hk B2.out.size) (fun e => by have := ZG.out; omega)).trans (B2.out.block k hk)⟩)
  clear h3 g3 t3 AW
  go_wp2
  go_ret
  refine ⟨v, ps, by rw [BH.out]; rfl, ⟨?_, H.out.kept⟩, ?_, T3.out, fun k hk => .inl hk⟩
  ·unfold addG
   rw [if_neg (by rw [BH.out]; decide)]
   exact R3.out
  ·unfold addR
   rw [if_neg (by rw [BH.out]; decide)]
 ·obtain ⟨i0, hi, hz0, hz1, hz2⟩ := info_parts infoPtr
  go_enter Tryz.func95, Tryz.ntmps95
  go_wp2_with fail
  refine RWH.out.mono ?_
  rintro e w2 ⟨rfl, hp2, b2, _⟩
  have BW := Lib.hid (show Calls Tryz.prog 100 #[ptr (w.alloc (.cells #[.slice A n c, .bool wrap] 24)).heap.size] w2 fun e w' => e = .returned (.int .i64 0) ∧ w2 = w' from pageBytes_walk _ _ _ _ w2 hp2)
  have AW := Lib.hid (pageAdd_walk _ _ _ _ A n c wrap l w2 (SH.out.below b2 SH.out.size) hp2 b2.size HL.out ((QH.out.below (b2.mono (by rw [Z1.out]; omega))).up (by have := b2.size; have := Z1.out; omega)) hc hn)
  have R2 := Lib.hid (R1H.out.below b2)
  have B2 := Lib.hid (B1.out.trans (b2.mono (by rw [Z1.out]; omega)))
  have hpg : ∀ j, Owns g v ps j → j ≠ (w.alloc (.cells #[.slice A n c, .bool wrap] 24)).heap.size := fun j hj e => by have := (R1H.out.own_ge j hj).2; omega
  have PG := Lib.hid hpg
  have P2 := Lib.hid hp2.typed
  have rr : RowAt w2 w.heap.size (.slice A n c) wrap := (b2.block w.heap.size (by rw [Z1.out]; omega)).trans (heap_alloc_new w _)
  have k0 := rr.get 0
  have k1 := rr.get 1
  simp only [List.getElem?_toArray, List.getElem?_cons_zero, List.getElem?_cons_succ] at k0 k1
  have ZG := Lib.hid (show w.heap.size ≤ (w.alloc (.cells #[.slice A n c, .bool wrap] 24)).heap.size from B1.out.size)
  generalize (w.alloc (.cells #[.slice A n c, .bool wrap] 24)).heap.size = pg at BW AW PG P2 ZG ⊢
  clear RWH hp2 b2 hpg rr
  go_wp2_with fail
  refine BW.out.mono ?_
  rintro e w3 ⟨rfl, rfl⟩
  clear BW
  go_wp2_with fail
  refine AW.out.mono ?_
  rintro e w3 ⟨ok, vs', hok, rfl, h3, g3, _⟩
  rw [BH.out, Bool.true_and] at hok
  have hok' : ok = true := by rw [hok]; rfl
  subst hok'
  rw [if_pos rfl, List.nil_append] at h3
  have t3 := (Turned.ofGrown g3).mono (M' := (· = pg)) fun k _ e => by injection e with e; exact e.symm
  have r3 := R2.out.turned t3 PG.out (fun k e hb => by subst e; exact P2.out.apart hb (by decide) rfl)
  have T3 := Lib.hid (show Turned (Owns g v ps) w w3 from ⟨t3.os.trans B2.out.os, t3.tape.trans B2.out.tape, t3.output.trans B2.out.output, Nat.le_trans B2.out.size t3.size, fun k hk _ => (t3.block k (Nat.lt_of_lt_of_le hk B2.out.size) (fun e => by have := ZG.out; omega)).trans (B2.out.block k hk)⟩)
  have R3 := Lib.hid r3
  have P3 := Lib.hid (h3.base (Nat.le_trans hbase ZG.out))
  obtain ⟨np, hnp⟩ : ∃ np, ps.length = np := ⟨_, rfl⟩
  have hnp6 : np ≤ 1000001 := by have h1 := H.out.kept.last_lt; have h2 := NH.out; omega
  obtain ⟨Ap, cp, hvp, _⟩ := r3.sl.shape
  have c0 : w3.cell? ⟨g, 0, none⟩ = some (.slice Ap np cp) := by rw [← hnp, ← hvp]; exact r3.get 0
  have SL := Lib.hid (show SlAt (w3.alloc (.cells #[ptr pg] 112)) base 112 (.slice Ap np cp) np (ps.map fun p => ptr p.g) by
   rw [← hnp, ← hvp]
   exact r3.sl.kept fun b hb => Below.heap_alloc _ _ _ (r3.sl.lt b hb).2)
  have CN := Lib.hid (show (w3.alloc (.cells #[ptr pg] 112)).cell? ⟨w3.heap.size, 0, none⟩ = some (ptr pg) from cell_of_row _ _ 0 _ _ (0, 0) (heap_alloc_new w3 _))
  have BZ := Lib.hid (show base ≤ w3.heap.size from Nat.le_trans hbase (Nat.le_trans B2.out.size t3.size))
  obtain ⟨m, hm⟩ : ∃ m, (allRows ps).length = m := ⟨_, rfl⟩
  obtain ⟨bt, hbt⟩ : ∃ bt, bytesN (allRows ps) = bt := ⟨_, rfl⟩
  obtain ⟨b2, hb2⟩ : ∃ b2, bytesN [(wrap, l)] = b2 := ⟨_, rfl⟩
  have hbtm : bt ≤ 12010 * 1000001 := by
   have h1 := storeBytes_le H.out.raw
   have h2 := NH.out
   omega
  have hb2m : b2 ≤ 12010 * 16 := by
   have h1 := bytesN_le [(wrap, l)] h3.len_row
   simp only [List.length_singleton] at h1
   omega
  have hmm : m ≤ 1000001 := by have := NH.out; omega
  have r4 : StR w3 base g (.slice Ap np cp) ps lim (m : Int) (bt : Int) (gone : Int) := by rw [← hm, ← hbt, ← hnp, ← hvp]; exact r3
  have R4 := Lib.hid r4
  have APP := Lib.hid (fun v4 w4 h4 g4 => StR.appended (v4 := v4) (w4 := w4) r4 P3.out (fun j hj => PG.out j (by rw [← hnp, ← hvp] at hj; exact hj)) hnp h4 g4)
  have BW := Lib.hid (fun (v4 : Value) (w6 : World) (mm bb gg : Int) (h6 : StR w6 base g v4 (ps ++ [⟨pg, vs', [(wrap, l)]⟩]) lim mm bb gg) => (hb2 ▸ pageBytes_walk base pg _ _ w6 (h6.page ⟨pg, vs', [(wrap, l)]⟩ (by simp)) : Calls Tryz.prog 100 #[ptr pg] w6 fun e w7 => e = .returned (.int .i64 (b2 : Int)) ∧ w6 = w7))
  have FW := Lib.hid (fun (v4 : Value) (w6 : World) (mm bb : Int) (h6 : StR w6 base g v4 (ps ++ [⟨pg, vs', [(wrap, l)]⟩]) lim mm bb gone) (hmm : mm = (m : Int) + 1) (hbb : bb = (bt : Int) + (b2 : Int)) (ht : Turned (Owns g v ps) w w6) (hv4 : ∀ k, v4.ownBlock = some k → v.ownBlock = some k ∨ w.heap.size ≤ k) =>
   addFit (ps := ps) (r := (wrap, l)) h6 (H.out.kept.snoc (by simp) (by simp) LH.out) (by rw [allRows_append, allRows_cons, allRows_nil, List.append_nil]) (by rw [hmm, List.length_append, hm]; rfl) (by rw [hbb, bytesN_append, hbt, hb2]; rfl) ht (fun k => by
    rintro (e | e | ⟨q, hq, e⟩)
    ·exact .inl (.inl e)
    ·exact (hv4 k e).imp (fun e => .inr (.inl e)) id
    ·rcases List.mem_append.1 hq with hq | hq
     ·exact .inl (.inr (.inr ⟨q, hq, e⟩))
     ·rw [List.mem_singleton.1 hq] at e
      exact .inr (by rw [← e]; exact ZG.out)) NH.out GH.out)
  have VP := Lib.hid (show v = .slice Ap np cp by rw [← hnp]; exact hvp)
  have Z3 := Lib.hid (show w.heap.size ≤ w3.heap.size from T3.out.size)
  clear h3 g3 t3 AW hok r3 r4 hm hbt hb2 hnp hvp R2 R3 P3 P2 PG hN hg
  go_wp2_with (at_builtin; refine wpl_slAt rfl _ _ 142 rfl base 112 i0 (.pointer none) 8 Tryz.underlying142 hi hz0 hz1 hz2 rfl (.slice Ap np cp) np (ps.map fun p => ptr p.g) rfl SL.out ⟨w3.heap.size, 0, none⟩ 1 (ptr pg) rfl CN.out rfl (by unfold maxLen; omega) (by omega) (by have := BZ.out; simp; omega) ?_; intro v4 w4 h4 g4 o4; obtain ⟨hg4, r5, t5⟩ := APP.out v4 w4 h4 g4; obtain ⟨A4, c4, rfl, _⟩ := h4.shape; (have z0 := cell_of_row w4 g 0 _ _ (0, 0) hg4); (have z2 := cell_of_row w4 g 2 _ _ (0, 0) hg4); (have z3 := cell_of_row w4 g 3 _ _ (0, 0) hg4); (have y0 := frozen_of_row w4 g 0 _ _ hg4); (have y2 := frozen_of_row w4 g 2 _ _ hg4); (have y3 := frozen_of_row w4 g 3 _ _ hg4); (simp only [List.getElem?_toArray, List.getElem?_cons_zero, List.getElem?_cons_succ] at z0 z2 z3); (have R5 := Lib.hid r5); (have T5 := Lib.hid t5); (have O5 := Lib.hid o4); clear h4 g4 o4 hg4 r5 t5 c0 k0 k1)
  go_region_with (go_at_call 100; refine (BW.out _ _ _ _ _ ((R5.out.setMany _).below (Below.refl _ _).drew)).mono ?_; rintro e w5 ⟨rfl, rfl⟩)
  all_goals go_wp2_with fail
  all_goals
   refine (FW.out _ _ _ _ (((R5.out.setMany _).setBytes _).below (Below.refl _ _).drew) rfl (by first | rfl | omega) ((T3.out.trans T5.out (fun k _ e => .inr (.inl (by rw [VP.out]; exact e)))).trans (M' := (· = g)) ⟨rfl, rfl, rfl, by simp, fun j _ hj => (Below.heap_setCell _ _ _ _ hj).trans ((Below.heap_setCell _ _ _ _ hj).trans (Below.heap_setCell _ _ _ _ hj))⟩ (fun j _ e => .inl e)) (fun k e => by
    rcases O5.out with o | o
    ·exact .inl (by rw [VP.out, ← o]; exact e)
    ·right
     rw [o] at e
     injection e with e
     rw [← e]
     have := Z3.out
     simp
     omega)).mono ?_
   rintro e w8 ⟨⟨x, rfl⟩, D⟩
   clear FW BW R5 T5 O5 T3
   go_wp2
   go_ret
   exact D.out.post BH.out
theorem storeAdd_walk {base g : Nat} {v : Value} {ps : List Pg} {lim gone : Nat} (A : Option Addr) (n c : Nat) (wrap : Bool) (l : List Cel) (w : World) (hs : Spans w) (h : StoreAt w base g v ps lim gone) (hl : ∀ c ∈ l, -2147483648 ≤ c.1 ∧ c.1 ≤ 2147483647) (hq : Sq w w.heap.size 3 n A (flat l)) (hc : n ≤ c) (hn : n ≤ 1000000)
  (hN : (allRows ps).length ≤ 1000001) (hg : gone ≤ 1099511627776) :
  Calls Tryz.prog 95 #[ptr g, rowV A n c wrap] w fun e w' => AddS base g v ps lim gone (wrap, l) w e w' := by
 have bb := (Below.refl w.heap.size w).alloc (Nat.le_refl _) (.cells #[.slice A n c, .bool wrap] 24)
 rcases List.eq_nil_or_concat ps with rfl | ⟨ps0, p, rfl⟩
 ·exact storeAdd_new A n c wrap l w hs h (fun q e => by cases e) hl hq hc hn hN hg (fun w1 e => by subst e; exact roomy_none (h.raw.below bb))
 ·rw [List.concat_eq_append] at h hN ⊢
  have h16 := h.kept.few p (by simp)
  by_cases hf : p.rows.length = 16
  ·refine storeAdd_new A n c wrap l w hs h (fun q e => ?_) hl hq hc hn hN hg (fun w1 e => ?_)
   ·rw [List.getLast?_append] at e
    simp at e
    rw [← e]
    exact hf
   ·subst e
    refine roomy_full (h.raw.below bb) hf ?_
    have h1 := h.kept.last_lt
    rw [List.length_append, List.length_singleton] at h1
    omega
  ·exact storeAdd_last A n c wrap l w hs h (by omega) hl hq hc hn hN hg
theorem infoPage : (Tryz.prog.info? 141).map (fun i => (i.zero, i.size, i.bytes)) = some (some (.agg (Array.replicate 16 (.slice none 0 0) ++ #[.int .i64 0])), 17, 392) := by kernel_rfl
def flatP (ps : List Pg) : List Value := ps.flatMap fun p => pageCells p.vs
theorem flatP_next {ps : List Pg} {k : Nat} {p : Pg} (h : ps[k]? = some p) : flatP (ps.take (k + 1)) = flatP (ps.take k) ++ pageCells p.vs := by
 obtain ⟨h1, h2⟩ := List.getElem?_eq_some_iff.1 h
 unfold flatP
 rw [List.take_succ_eq_append_getElem h1, h2]
 simp
def CopyPost (ps : List Pg) (w : World) (e : Ending) (w' : World) : Prop := ∃ u, e = .returned u ∧ w'.ownsRow w.heap.size 141 17 u ps.length (flatP ps) ∧ Below w.heap.size w w'
theorem list17 : ∀ (l : List Value), l.length = 17 → ∃ x0 x1 x2 x3 x4 x5 x6 x7 x8 x9 x10 x11 x12 x13 x14 x15 x16, l = [x0, x1, x2, x3, x4, x5, x6, x7, x8, x9, x10, x11, x12, x13, x14, x15, x16]
 | [x0, x1, x2, x3, x4, x5, x6, x7, x8, x9, x10, x11, x12, x13, x14, x15, x16], _ => ⟨x0, x1, x2, x3, x4, x5, x6, x7, x8, x9, x10, x11, x12, x13, x14, x15, x16, rfl⟩
theorem run_loadPage {w : World} {g : Nat} {x0 x1 x2 x3 x4 x5 x6 x7 x8 x9 x10 x11 x12 x13 x14 x15 x16 : Value} (h : ∀ j, w.cell? ⟨g, j, none⟩ = [x0, x1, x2, x3, x4, x5, x6, x7, x8, x9, x10, x11, x12, x13, x14, x15, x16][j]?) : (Instr.loadAt 141 (ptr g)).run Tryz.prog w = .ok (.agg #[x0, x1, x2, x3, x4, x5, x6, x7, x8, x9, x10, x11, x12, x13, x14, x15, x16]) w := by
 have ha : (isAgg 141).run Tryz.prog w = .ok true w := by kernel_rfl
 have hl := run_loadCells_list (P := Tryz.prog) w ⟨g, 0, none⟩ [x0, x1, x2, x3, x4, x5, x6, x7, x8, x9, x10, x11, x12, x13, x14, x15, x16] (fun j v hv => by rw [add_spot, Nat.zero_add, h j]; exact hv)
 simp only [List.length_cons, List.length_nil, Nat.zero_add, Nat.reduceAdd] at hl
 simp [Instr.loadAt, Instr.sureAddr, loadVar, ha, hl]
theorem wpl_load {P : Program} {w : World} {ops : Array Oper} {rest : List Oper} {o : Oper} {a : Act} {Q : Exit → Act → World → Prop} (hgd : o.guard = none) (x : Operand) (t : TypeId) (ho : o.op = .load t x) (v xv : Value) (hx : a.eval x = xv) (hr : (Instr.loadAt t xv).run P w = .ok v w)
  (h : wpList P ops Q rest (a.put o.dst v) w) : wpList P ops Q (o :: rest) a w := by
 refine wpList_plain hgd fun K hK => ?_
 unfold Oper.wp
 simp [execOp, ho, hx, hr, Result.andThen]
 exact hK _ _ h
theorem storeCopied_walk {base g : Nat} {v : Value} {ps : List Pg} {lim many bytes gone : Int} {w : World} (h : StR w base g v ps lim many bytes gone) (hn : ps.length ≤ 1000001) :
  Calls Tryz.prog 124 #[ptr g] w fun e w' => CopyPost ps w e w' := by
 obtain ⟨i0, hi, hz0, hz1, hz2⟩ := info_parts infoPage
 obtain ⟨A, c, rfl, hc⟩ := h.sl.shape
 have H := Lib.hid h
 have gl := h.lt
 obtain ⟨n, hnn⟩ : ∃ n, ps.length = n := ⟨_, rfl⟩
 rw [hnn] at hn hc h
 have c0 : w.cell? ⟨g, 0, none⟩ = some (.slice A n c) := h.get 0
 have NN := Lib.hid hnn
 clear h hnn
 go_enter Tryz.func124, Tryz.ntmps124
 go_wp2_with (first
  | (refine wpList_make_own w rfl (.const (.int .i64 0)) (.tmp 12) 148 rfl w.heap.size 141 i0 _ 17 Tryz.underlying148 hi hz0 hz1 .i64 .i64 (n : Int) n rfl rfl rfl (by rw [hz2]; omega) (by unfold maxLen; omega) (Nat.le_refl _) ?_; intro w1 hown hg1; (have B1 := Lib.hid ((Below.refl w.heap.size w).grown hg1 (Nat.le_refl _) (fun k e => by cases e))); (have O1 := Lib.hid hown); (have c1 : w1.cell? ⟨g, 0, none⟩ = some (.slice A n c) := (B1.out.cell (p := ⟨g, 0, none⟩) gl).trans c0); clear hown hg1))
 go_loopw [3, 5, 19] (fun u _ i wr => ∃ k : Nat, i = .int .i64 k ∧ k ≤ n ∧ Hid (wr.ownsRow w.heap.size 141 17 u k (flatP (ps.take k))) ∧ Hid (Below w.heap.size w wr)) (fun _ _ i _ => n - (intOf i).toNat)
 case atStart => exact ⟨0, rfl, Nat.zero_le _, O1, B1⟩
 case round =>
  obtain ⟨k, rfl, hk, O, B⟩ := hrel
  clear O1 B1 c1
  by_cases hlt : k < n
  ·obtain ⟨p, hp⟩ : ∃ p, ps[k]? = some p := ⟨_, List.getElem?_eq_getElem (by rw [NN.out]; exact hlt)⟩
   have HW := H.out.below B.out
   obtain ⟨b, off, cap, e', _, _, _, hcc, _⟩ := HW.pageCell hp
   injection e' with e1 e3 e4
   subst e1
   clear e3 e4
   have hpg := HW.page p (List.mem_of_getElem? hp)
   have h17 := pageCells_len (vs := p.vs) (by rw [hpg.many]; exact hpg.few)
   obtain ⟨x0, x1, x2, x3, x4, x5, x6, x7, x8, x9, x10, x11, x12, x13, x14, x15, x16, hx⟩ := list17 _ h17
   have LD := Lib.hid (run_loadPage (w := wr) (g := p.g) (fun j => by rw [hpg.get j, hx]))
   have NX := Lib.hid (show flatP (ps.take (k + 1)) = flatP (ps.take k) ++ [x0, x1, x2, x3, x4, x5, x6, x7, x8, x9, x10, x11, x12, x13, x14, x15, x16] by rw [flatP_next hp, hx])
   have ON := Lib.hid (show ∀ u ∈ [x0, x1, x2, x3, x4, x5, x6, x7, x8, x9, x10, x11, x12, x13, x14, x15, x16], u.oneCell' = true by
    intro y hy
    rw [← hx] at hy
    unfold pageCells at hy
    rcases List.mem_append.1 hy with hy | hy
    ·obtain ⟨j, hj⟩ := List.mem_iff_getElem?.1 hy
     obtain ⟨A, c, e⟩ := (hpg.row j y (p.rows[j]'(by have := (List.getElem?_eq_some_iff.1 hj).1; rw [hpg.many] at this; exact this)) hj (List.getElem?_eq_getElem _)).1.shape
     rw [e]
     rfl
    ·rcases List.mem_append.1 hy with hy | hy
     ·rw [(List.mem_replicate.1 hy).2]; rfl
     ·rw [List.mem_singleton.1 hy]; rfl)
   clear HW hpg h17 hx hp
   have hsz := B.out.size
   have SQ := Lib.hid (show Sq (wr.alloc (.cells #[x0, x1, x2, x3, x4, x5, x6, x7, x8, x9, x10, x11, x12, x13, x14, x15, x16] 141)) (wr.heap.size + 1) 17 1 (some ⟨wr.heap.size, 0, none⟩) [x0, x1, x2, x3, x4, x5, x6, x7, x8, x9, x10, x11, x12, x13, x14, x15, x16] from
    ⟨rfl, fun _ => ⟨wr.heap.size, 0, rfl, Nat.lt_succ_self _, fun j u hu => (cell_of_row _ _ _ _ _ (0, 0) (heap_alloc_new wr _)).trans (by rw [Nat.zero_add, List.getElem?_toArray]; exact hu)⟩⟩)
   go_wp2_with (first
    | (refine wpl_load rfl (.tmp 25) 141 rfl _ (ptr p.g) rfl LD.out ?_)
    | (at_builtin; refine wpl_app rfl (.tmp 23) (.tmp 27) 148 rfl w.heap.size 141 i0 _ 17 392 Tryz.underlying148 hi hz0 hz1 hz2 rfl (by decide) _ k (flatP (ps.take k)) rfl (World.ownsRow.alloc O.out _) (some ⟨wr.heap.size, 0, none⟩) 1 1 [x0, x1, x2, x3, x4, x5, x6, x7, x8, x9, x10, x11, x12, x13, x14, x15, x16] rfl (wr.heap.size + 1) SQ.out ON.out (by unfold maxLen; omega) (by omega) (by simp; omega) ?_; intro v4 w4 h4 g4 o4; (have O4 := Lib.hid h4); (have B4 := Lib.hid ((B.out.alloc hsz _).grown g4 (by simp; omega) (fun j e => (World.ownsRow.lt O.out j e).1))); clear h4 g4 o4))
   rw [← NX.out] at O4
   clear O B SQ ON LD NX
   go_roundw
   case rel => exact ⟨k + 1, by go_num, by omega, O4, B4⟩
   case measure => simp [intOf]; omega
  ·obtain rfl : k = n := by omega
   have OF := Lib.hid (show wr.ownsRow w.heap.size 141 17 u3 k (flatP ps) by have h := O.out; rw [List.take_of_length_le (by rw [NN.out]; exact Nat.le_refl _)] at h; exact h)
   clear O
   go_wp2
   go_ret
   exact ⟨_, rfl, by rw [NN.out]; exact OF.out, B.out⟩
def SAllPost (ps : List Pg) (w : World) (e : Ending) (w' : World) : Prop :=
 ∃ B u, e = .returned (.func (.func 125) #[] #[.pointer (some ⟨B, 0, none⟩)]) ∧ w.heap.size ≤ B ∧ w'.heap[B]? = some (.cells #[u] 148 (0, 0)) ∧ w'.ownsRow w.heap.size 141 17 u ps.length (flatP ps) ∧ Below w.heap.size w w'
theorem SAllPost.make {ps : List Pg} {w w2 : World} {u : Value} (ho : w2.ownsRow w.heap.size 141 17 u ps.length (flatP ps)) (hb : Below w.heap.size w w2) :
  SAllPost ps w (.returned (.func (.func 125) #[] #[.pointer (some ⟨w2.heap.size, 0, none⟩)])) (w2.alloc (.cells #[u] 148)) :=
 ⟨w2.heap.size, u, rfl, hb.size, heap_alloc_new w2 _, World.ownsRow.alloc ho _, hb.alloc hb.size _⟩
theorem all_walk' {base g : Nat} {v : Value} {ps : List Pg} {lim many bytes gone : Int} {w : World} (h : StR w base g v ps lim many bytes gone) (hn : ps.length ≤ 1000001) :
  Calls Tryz.prog 97 #[ptr g] w fun e w' => SAllPost ps w e w' := by
 have CW := Lib.hid (storeCopied_walk h hn)
 clear h
 go_enter Tryz.func97, Tryz.ntmps97
 go_wp2_with fail
 refine CW.out.mono ?_
 rintro e w2 ⟨u, rfl, ho, hb⟩
 have D := Lib.hid (SAllPost.make ho hb)
 have us : u.oneCell' = true ∧ ∃ A n c, u = .slice A n c := by
  rcases ho.2 with ⟨rfl, _⟩ | ⟨_, _, _, rfl, _⟩
  ·exact ⟨rfl, _, _, _, rfl⟩
  ·exact ⟨rfl, _, _, _, rfl⟩
 obtain ⟨_, A, n, c, rfl⟩ := us
 clear ho hb CW
 go_wp2
 go_ret
 exact D.out
