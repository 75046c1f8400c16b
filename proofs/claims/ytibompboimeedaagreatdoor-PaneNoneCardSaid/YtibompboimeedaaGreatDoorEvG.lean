/-
  The evaluator tells the truth: operations that do not ask of the heap.
-/
import Derived.Test.YtibompboimeedaaGreatDoorEvF
namespace Go.Proofs.YtibompboimeedaaGreatDoor.Ev
theorem cond_some {α : Type} {b : Bool} {x : Option α} {r : α} (h : cond b x none = some r) : b = true ∧ x = some r := by
  cases b with
  | false => cases h
  | true => exact ⟨rfl, h⟩
theorem and_true {a b : Bool} (h : (and a b) = true) : a = true ∧ b = true := by simpa using h
theorem ble_le {a b : Nat} (h : Nat.ble a b = true) : a ≤ b := Nat.le_of_ble_eq_true h
theorem blt_lt {a b : Nat} (h : Nat.blt a b = true) : a < b := Nat.le_of_ble_eq_true h
theorem beq_e {a b : Nat} (h : Nat.beq a b = true) : a = b := Nat.eq_of_beq_eq_true h
theorem beq_n {a b : Nat} (h : Nat.beq a b = false) : a ≠ b := Nat.ne_of_beq_eq_false h
theorem nth_get {α : Type} : ∀ (l : List α) (k : Nat), nth l k = l[k]?
  | [], _ => by simp [nth]
  | a :: l, 0 => rfl
  | a :: l, k + 1 => by
    have : nth (a :: l) (k + 1) = nth l k := rfl
    rw [this, nth_get l k]; rfl
section
variable {P : Program} {σ : Val}
theorem size_run {t : TypeId} {ti : TI} (h : (tabOf P).t t = some ti) (w : World) : (sizeOf t).run P w = .ok ti.size w := by
  obtain ⟨i, hi, hs, _⟩ := (t_ok h).ex
  simp [sizeOf, typeInfo, hi, hs]
theorem und_run {t : TypeId} {ti : TI} (h : (tabOf P).t t = some ti) (w : World) : (underlying t).run P w = .ok ti.d w := run_underlying (t_ok h).d w
theorem agg_run {t : TypeId} {ti : TI} (h : (tabOf P).t t = some ti) (w : World) : (isAgg t).run P w = .ok (isAggD ti.d) w := by
  unfold isAgg
  simp only [Sem.run_bind, und_run h, Result.andThen_ok]
  cases ti.d <;> rfl
theorem ad_add (r : Nat × Nat) (d : Nat) : (σ.ad r).add d = σ.ad (r.1, r.2 + d) := by
  unfold Addr.add Val.ad
  split
  · rename_i h; subst h; rfl
  · simp [Nat.add_assoc]
theorem bnd_some {x : Option A} {least most d n : Nat} (h : bnd x least most d = some n) : (x = none ∧ n = d) ∨ (∃ k, x = some (.i k (n : Int)) ∧ least ≤ n ∧ n ≤ most) := by
  unfold bnd at h
  split at h
  · exact .inl ⟨rfl, (some_inj h).symm⟩
  · rename_i k m
    obtain ⟨h1, h2⟩ := cond_some (b := least.ble m && m.ble most) (x := some m) h
    obtain rfl := some_inj h2
    obtain ⟨h3, h4⟩ := and_true h1
    exact .inr ⟨k, rfl, ble_le h3, ble_le h4⟩
  · cases h
def topOf (mx : Option A) (C m : Nat) : Nat := match mx with
  | none => C
  | some _ => m
/-- The bounds of a cut: as the model has them. C: the real capacity. -/
theorem bnds_ok {len cap C : Nat} {lo hi mx : Option A} {l u m : Nat} (h : bnds len cap lo hi mx = some (l, u, m)) (hC : cap ≤ C) (b : Bool) (w : World) :
    (Instr.sliceBounds b len C (lo.map (A.den σ)) (hi.map (A.den σ)) (mx.map (A.den σ))).run P w = .ok (l, u, topOf mx C m) w ∧ (mx = none → m = cap) := by
  unfold bnds at h
  split at h
  · cases h
  · rename_i m' hm
    split at h
    · cases h
    · rename_i u' hu
      split at h
      · cases h
      · rename_i l' hl
        split at h
        · cases h
        · rename_i hne
          obtain ⟨rfl, rfl, rfl⟩ : l' = l ∧ u' = u ∧ m' = m := by
            have := some_inj h
            simpa using this
          rcases bnd_some hm with ⟨rfl, rfl⟩ | ⟨km, rfl, hm1, hm2⟩
          · refine ⟨?_, fun _ => rfl⟩
            rcases bnd_some hu with ⟨rfl, rfl⟩ | ⟨ku, rfl, hu1, hu2⟩
            · rcases bnd_some hl with ⟨rfl, rfl⟩ | ⟨kl, rfl, hl1, hl2⟩
              · simp [topOf, Instr.sliceBounds]
              · simp [topOf, Instr.sliceBounds, A.den, Instr.sliceBound, asIntOf, hl2]
            · have : u' ≤ C := by omega
              rcases bnd_some hl with ⟨rfl, rfl⟩ | ⟨kl, rfl, hl1, hl2⟩
              · simp [topOf, Instr.sliceBounds, A.den, Instr.sliceBound, asIntOf, this]
              · simp [topOf, Instr.sliceBounds, A.den, Instr.sliceBound, asIntOf, hl2, this]
          · refine ⟨?_, fun h => by cases h⟩
            have : m' ≤ C := by omega
            rcases bnd_some hu with ⟨rfl, rfl⟩ | ⟨ku, rfl, hu1, hu2⟩
            · exact absurd rfl (hne _ rfl)
            · rcases bnd_some hl with ⟨rfl, rfl⟩ | ⟨kl, rfl, hl1, hl2⟩
              · simp [topOf, Instr.sliceBounds, A.den, Instr.sliceBound, asIntOf, this, hu2]
              · simp [topOf, Instr.sliceBounds, A.den, Instr.sliceBound, asIntOf, hl2, this, hu2]
theorem shiftR_map (r : Option (Nat × Nat)) (d : Nat) : (shiftR r d).map σ.ad = (r.map σ.ad).map (·.add d) := by
  cases r with
  | none => rfl
  | some r => simp [shiftR, ad_add]
theorem shiftR_ok {D : Nat → Prop} {r : Option (Nat × Nat)} {d : Nat} (h : ∀ x, r = some x → D x.1) : ∀ x, shiftR r d = some x → D x.1 := by
  intro x hx
  cases r with
  | none => cases hx
  | some r =>
    obtain rfl := some_inj hx
    exact h r rfl
theorem sliceA_ok {t : TypeId} {x : A} {lo hi mx : Option A} {r : A} (h : sliceA (tabOf P) t x lo hi mx = some r) (hx : x.ok σ.dom) :
    Tells P σ (Instr.sliceAt t (x.den σ) (lo.map (A.den σ)) (hi.map (A.den σ)) (mx.map (A.den σ))) r := by
  unfold sliceA at h
  split at h
  · cases h
  · rename_i ti ht
    split at h
    · rename_i r0
      split at h
      · rename_i n e j o hd
        unfold sliceArr at h
        split at h
        · cases h
        · rename_i te hte
          split at h
          · cases h
          · rename_i l u m hb
            obtain rfl := some_inj h
            have hmx : topOf mx n m = m := by
              cases mx with
              | none => exact ((bnds_ok (P := P) (σ := σ) hb (Nat.le_refl _) false default).2 rfl).symm
              | some _ => rfl
            refine ⟨fun w => ?_, ?_⟩
            · have hr := (bnds_ok (P := P) (σ := σ) hb (Nat.le_refl n) false w).1
              rw [hmx] at hr
              simp only [Instr.sliceAt, Sem.run_bind, und_run ht, hd, Result.andThen_ok, A.den, Option.map_some, Instr.sureAddr, Sem.run_pure, hr, size_run hte, Val.ex, Nat.add_zero]
              by_cases hml : m = l
              · have : Nat.beq m l = true := by rw [hml]; exact Nat.beq_refl l
                rw [this, if_pos hml]; rfl
              · have : Nat.beq m l = false := by
                  cases hc : Nat.beq m l with
                  | false => rfl
                  | true => exact absurd (beq_e hc) hml
                rw [this, if_neg hml, ad_add]; rfl
            · simp only [A.ok] at hx ⊢
              exact ⟨fun y hy => by obtain rfl := some_inj hy; exact hx, fun y hy => by cases hy⟩
      · cases h
    · rename_i r0 len cap c
      split at h
      · rename_i e hd
        unfold sliceSl at h
        split at h
        · cases h
        · rename_i te hte
          split at h
          · cases h
          · rename_i l u m hb
            simp only [A.ok] at hx
            have run : ∀ w, (Instr.sliceAt t (.slice (r0.map σ.ad) len (cap + σ.ex c)) (lo.map (A.den σ)) (hi.map (A.den σ)) (mx.map (A.den σ))).run P w =
                .ok (.slice (if topOf mx (cap + σ.ex c) m = l then r0.map σ.ad else (r0.map σ.ad).map (·.add (l * te.size))) (u - l) (topOf mx (cap + σ.ex c) m - l)) w := fun w => by
              have hr := (bnds_ok (P := P) (σ := σ) hb (Nat.le_add_right cap (σ.ex c)) true w).1
              simp only [Instr.sliceAt, Sem.run_bind, und_run ht, hd, Result.andThen_ok, Instr.slice, hr, size_run hte, Sem.run_pure]
            have hm := (bnds_ok (P := P) (σ := σ) hb (Nat.le_refl cap) true default).2
            split at h
            · rename_i hc
              obtain rfl := some_inj h
              have e2 : topOf mx (cap + σ.ex c) m = m := by
                cases mx with
                | none => simp only at hc ⊢; rw [hc, hm rfl]; rfl
                | some _ => rfl
              rw [e2] at run
              refine ⟨fun w => ?_, ?_⟩
              · show Sem.run P (Instr.sliceAt t (.slice (r0.map σ.ad) len (cap + σ.ex c)) _ _ _) w = .ok (.slice ((cond (Nat.beq m l) r0 (shiftR r0 (l.mul te.size))).map σ.ad) (u.sub l) ((m.sub l) + 0)) w
                rw [run w, Nat.add_zero]
                by_cases hml : m = l
                · have : Nat.beq m l = true := by rw [hml]; exact Nat.beq_refl l
                  rw [this, if_pos hml]; rfl
                · have : Nat.beq m l = false := by
                    cases hc : Nat.beq m l with
                    | false => rfl
                    | true => exact absurd (beq_e hc) hml
                  rw [this, if_neg hml, cond_false, shiftR_map]; rfl
              · refine ⟨?_, fun y hy => by cases hy⟩
                cases Nat.beq m l with
                | false => exact shiftR_ok hx.1
                | true => exact hx.1
            · rename_i c' hc
              obtain ⟨h1, h2⟩ := cond_some h
              obtain rfl := some_inj h2
              have hlm := blt_lt h1
              obtain ⟨rfl, rfl⟩ : mx = none ∧ c = some c' := by
                cases mx with
                | none => exact ⟨rfl, hc⟩
                | some _ => cases hc
              obtain rfl := hm rfl
              refine ⟨fun w => ?_, shiftR_ok hx.1, hx.2⟩
              show Sem.run P (Instr.sliceAt t (.slice (r0.map σ.ad) len (m + σ.ex (some c'))) _ _ _) w = .ok (.slice ((shiftR r0 (l.mul te.size)).map σ.ad) (u.sub l) ((m.sub l) + σ.ex (some c'))) w
              rw [run w, shiftR_map]
              have hne : ¬ (topOf none (m + σ.ex (some c')) m = l) := by simp only [topOf]; omega
              rw [if_neg hne]
              have e3 : topOf none (m + σ.ex (some c')) m - l = m.sub l + σ.ex (some c') := by
                show m + σ.ex (some c') - l = m - l + σ.ex (some c')
                omega
              rw [e3]; rfl
      · cases h
    · rename_i s
      split at h
      · rename_i hd
        unfold sliceStr at h
        split at h
        · cases h
        · split at h
          · cases h
          · rename_i l u m hb
            obtain rfl := some_inj h
            refine ⟨fun w => ?_, by simp [A.ok]⟩
            have hr := (bnds_ok (P := P) (σ := σ) hb (Nat.le_refl _) false w).1
            have hsz : ((⟨⟨s⟩⟩ : ByteArray)).size = s.length := rfl
            simp only [Instr.sliceAt, Sem.run_bind, und_run ht, hd, Result.andThen_ok, A.den, Instr.slice, hsz, Option.map_none] at hr ⊢
            simp only [Option.isSome_none, Bool.false_eq_true, if_false, Sem.run_bind, Sem.run_pure, Result.andThen_ok, hr]
            have : (⟨⟨s⟩⟩ : ByteArray).extract l u = ⟨⟨(s.take u).drop l⟩⟩ := by
              apply ByteArray.ext
              rw [ByteArray.data_extract]
              apply Array.ext'
              rw [Array.toList_extract, List.drop_take]
            rw [this]
      · cases h
    · cases h
end
end Go.Proofs.YtibompboimeedaaGreatDoor.Ev
