/-
  The evaluator tells the truth: append.
-/
import Derived.Test.YtibompboimeedaaGreatDoorEvI
import Derived.Deep.AppendSrc
namespace Go.Proofs.YtibompboimeedaaGreatDoor.Ev
section
variable {P : Program} {σ : Val} {h : H} {w : World}
theorem bytesA_den (l : List UInt8) : A.dens σ (bytesA l) = l.map fun b => Value.int .u8 b.toNat := by
  rw [dens_eq, bytesA, List.map_map]; rfl
theorem bytesA_ok {D : Nat → Prop} (l : List UInt8) : A.oks D (bytesA l) := by
  rw [oks_iff]
  intro a ha
  obtain ⟨b, _, rfl⟩ := List.mem_map.1 ha
  simp [A.ok]
/-- The first cells of a slice or a string. -/
theorem cellsOf_ok (r : Rel P.globals.size σ h w) {size n : Nat} {v : A} {l : List A} (hc : cellsOf h size n v = some l) : (Builtin.firstCells size n (v.den σ)).run P w = .ok ⟨A.dens σ l⟩ w ∧ A.oks σ.dom l := by
  unfold cellsOf at hc
  split at hc
  · obtain rfl := some_inj hc
    exact ⟨rfl, trivial⟩
  · rename_i j o n' lo c
    have hc' : cond (Nat.beq (n * size) 0) (some []) (match h.t.get j with | some (.cells _ tr _ _ _) => rd tr o (n * size) | _ => none) = some l := hc
    cases hb : Nat.beq (n * size) 0 with
    | true =>
      rw [hb] at hc'
      obtain rfl := some_inj hc'
      have h0 := beq_e hb
      refine ⟨?_, trivial⟩
      simp only [A.den, Option.map_some, Builtin.firstCells, h0]
      rfl
    | false =>
      rw [hb, cond_false] at hc'
      split at hc'
      · rename_i e tr E cz wr hj
        obtain ⟨h1, h2⟩ := rd_ok (P := P) (r.at_ j _ hj) hc'
        refine ⟨?_, h2⟩
        simp only [A.den, Option.map_some, Builtin.firstCells]
        exact h1
      · cases hc'
  · rename_i s
    obtain rfl := some_inj hc
    refine ⟨?_, bytesA_ok _⟩
    rw [bytesA_den]
    simp only [A.den, Builtin.firstCells, Sem.run_pure]
    congr 1
    apply Array.ext'
    rw [Array.toList_map]
    have : ((⟨⟨s⟩⟩ : ByteArray).extract 0 n).data.toList = s.take n := by
      rw [ByteArray.data_extract, Array.toList_extract]
      simp [List.extract]
    rw [this]
  · cases hc
/-- What an append adds, in the world w and behind a draw. -/
inductive Adds (P : Program) (i : TypeInfo) (tx : TypeId) (x : Value) (n : Nat) (news : List Value) (w : World) : Prop
  | src (kind : (∃ e', P.underlying tx = some (.slice e')) ∨ P.underlying tx = some .string) (len : ∀ w' : World, (Builtin.lenOf x).run P w' = .ok n w')
      (cells : (Builtin.firstCells i.size n x).run P w = .ok news.toArray w) (cellsD : (Builtin.firstCells i.size n x).run P w.drew = .ok news.toArray w.drew)
  | zeros (kn k : IntKind) (z : Value) (hk : P.underlying tx = some (.int kn)) (hx : x = .int k n) (hz : i.zero = some z) (hn : n ≤ 100000) (hb : i.bytes ≤ 1000000)
      (hnews : news.toArray = if n * i.size = 0 then #[] else Builtin.zeroCells z.cells n)
theorem app_room {t tx ty e : TypeId} {i : TypeInfo} (ht : P.underlying t = some (.slice e)) (hi : P.info? e = some i) {a : Addr} {sLen sCap n : Nat} {x : Value} {news : List Value} (hA : Adds P i tx x n news w) (hroom : sLen + n ≤ sCap) {v : World}
    (hst : (storeCells (a.add (sLen * i.size)) news).run P w = .ok () v) : (Builtin.append_ #[t, tx] ty #[.slice (some a) sLen sCap, x]).run P w = .ok (.slice (some a) (sLen + n) sCap) v := by
  cases hA with
  | src kind len cells cellsD =>
    rcases kind with ⟨e', hk⟩ | hk <;> simp [Builtin.append_, run_underlying ht, run_underlying hk, sizeOf, typeInfo, hi, len, hroom, cells, hst]
  | zeros kn k z hk hx hz hn hb hnews =>
    subst hx
    have hw : IntKind.i64.wrap (n : Int) = n := by rw [← wrapF_eq]; show cond (Nat.blt n _) _ _ = _; rw [show Nat.blt n (lim .i64) = true by rw [Nat.blt_eq]; simp only [lim]; omega]; rfl
    have hneg : ¬ ((n : Int) < 0) := by omega
    have hmul : n * i.bytes ≤ 100000 * 1000000 := Nat.mul_le_mul hn hb
    have h48 : ¬ (281474976710656 < (n : Int) * (i.bytes : Int)) := by rw [← Int.natCast_mul]; omega
    by_cases h0 : n * i.size = 0
    · rw [if_pos h0] at hnews
      have : news = [] := by simpa using congrArg Array.toList hnews
      subst this
      simp [Builtin.append_, run_underlying ht, run_underlying hk, sizeOf, typeInfo, hi, asInt, asIntOf, hw, hneg, h48, hroom, h0, hst]
    · rw [if_neg h0] at hnews
      simp [Builtin.append_, run_underlying ht, run_underlying hk, sizeOf, typeInfo, zeroValue, hi, hz, asInt, asIntOf, hw, hneg, h48, hroom, h0, ← hnews, hst]
theorem app_none {t tx ty e : TypeId} {i : TypeInfo} (ht : P.underlying t = some (.slice e)) (hi : P.info? e = some i) {sLen sCap n : Nat} {x : Value} {news : List Value} (hA : Adds P i tx x n news w) (hroom : sLen + n ≤ sCap) :
    (Builtin.append_ #[t, tx] ty #[.slice none sLen sCap, x]).run P w = .ok (.slice none (sLen + n) sCap) w := by
  cases hA with
  | src kind len cells cellsD =>
    rcases kind with ⟨e', hk⟩ | hk <;> simp [Builtin.append_, run_underlying ht, run_underlying hk, sizeOf, typeInfo, hi, len, hroom, cells]
  | zeros kn k z hk hx hz hn hb hnews =>
    subst hx
    have hw : IntKind.i64.wrap (n : Int) = n := by rw [← wrapF_eq]; show cond (Nat.blt n _) _ _ = _; rw [show Nat.blt n (lim .i64) = true by rw [Nat.blt_eq]; simp only [lim]; omega]; rfl
    have hneg : ¬ ((n : Int) < 0) := by omega
    have hmul : n * i.bytes ≤ 100000 * 1000000 := Nat.mul_le_mul hn hb
    have h48 : ¬ (281474976710656 < (n : Int) * (i.bytes : Int)) := by rw [← Int.natCast_mul]; omega
    by_cases h0 : n * i.size = 0
    · simp [Builtin.append_, run_underlying ht, run_underlying hk, sizeOf, typeInfo, hi, asInt, asIntOf, hw, hneg, h48, hroom, h0]
    · simp [Builtin.append_, run_underlying ht, run_underlying hk, sizeOf, typeInfo, zeroValue, hi, hz, asInt, asIntOf, hw, hneg, h48, hroom, h0]
theorem app_grow {t tx ty e : TypeId} {i : TypeInfo} {z : Value} (ht : P.underlying t = some (.slice e)) (hi : P.info? e = some i) (hz : i.zero = some z) {base : Option Addr} {sLen sCap n : Nat} {x : Value} {news olds : List Value} (hA : Adds P i tx x n news w)
    (hold : (Builtin.firstCells i.size sLen (.slice base sLen sCap)).run P w.drew = .ok olds.toArray w.drew) (hg : sCap < sLen + n) (hneed : sLen + n ≤ 100000) (hbytes : i.bytes ≤ 100000) :
    (Builtin.append_ #[t, tx] ty #[.slice base sLen sCap, x]).run P w =
      .ok (.slice (some ⟨w.heap.size, 0, none⟩) (sLen + n) (grownCap w (sLen + n) sCap e))
        (w.drew.alloc (.cells ((olds ++ news).toArray ++ Builtin.zeroCells z.cells (grownCap w (sLen + n) sCap e - (sLen + n))) e)) := by
  have hn : ¬ (sLen + n ≤ sCap) := by omega
  have h63' : ¬ (9223372036854775807 < ((sLen : Int) + (n : Int))) := by omega
  have hfit : Builtin.nextslicecap (sLen + n) sCap * i.bytes ≤ 281474976710656 := by
    have h1 := nextslicecap_le hg
    have h2 : Builtin.nextslicecap (sLen + n) sCap * i.bytes ≤ 200000 * 100000 := Nat.mul_le_mul (by omega) hbytes
    omega
  have h48' : ¬ (281474976710656 < Builtin.nextslicecap (sLen + n) sCap * i.bytes) := by omega
  cases hA with
  | src kind len cells cellsD =>
    rcases kind with ⟨e', hk⟩ | hk <;>
      (simp [Builtin.append_, run_underlying ht, run_underlying hk, sizeOf, typeInfo, zeroValue, hi, hz, len, hn, h63', h48', Question.forced, cellsD, hold, newRow, grownCap]
       congr 2
       apply Array.ext'
       simp [List.append_assoc])
  | zeros kn k z' hk hx hz' hnn hb hnews =>
    subst hx
    obtain rfl : z = z' := by rw [hz] at hz'; exact some_inj hz'
    have hw : IntKind.i64.wrap (n : Int) = n := by rw [← wrapF_eq]; show cond (Nat.blt n _) _ _ = _; rw [show Nat.blt n (lim .i64) = true by rw [Nat.blt_eq]; simp only [lim]; omega]; rfl
    have hneg : ¬ ((n : Int) < 0) := by omega
    have hmul : n * i.bytes ≤ 100000 * 1000000 := Nat.mul_le_mul hnn hb
    have h48 : ¬ (281474976710656 < (n : Int) * (i.bytes : Int)) := by rw [← Int.natCast_mul]; omega
    by_cases h0 : n * i.size = 0
    · rw [if_pos h0] at hnews
      have : news = [] := by simpa using congrArg Array.toList hnews
      subst this
      simp [Builtin.append_, run_underlying ht, run_underlying hk, sizeOf, typeInfo, zeroValue, hi, hz, asInt, asIntOf, hw, hneg, h48, hn, h63', h48', h0, Question.forced, hold, newRow, grownCap]
    · rw [if_neg h0] at hnews
      simp [Builtin.append_, run_underlying ht, run_underlying hk, sizeOf, typeInfo, zeroValue, hi, hz, asInt, asIntOf, hw, hneg, h48, hn, h63', h48', h0, Question.forced, hold, newRow, grownCap, ← hnews]
      congr 2
      apply Array.ext'
      simp [List.append_assoc]
theorem intD_ok {d : TypeDesc} {k : IntKind} (h : intD d = some k) : d = .int k := by
  unfold intD at h
  split at h
  · rw [some_inj h]
  · cases h
theorem addend_ok (r : Rel P.globals.size σ h w) {e u : TypeId} {te : TI} {i : TypeInfo} (hi : P.info? e = some i) (hte : (tabOf P).t e = some te) {v : A} {new : List A} {n : Nat} (ha : addend (tabOf P) h te u v = some (new, n))
    (hv : v.ok σ.dom) :
    Adds P i u (v.den σ) n (A.dens σ new) w ∧ A.oks σ.dom new := by
  obtain ⟨i', hi', hs, hb, hz⟩ := (t_ok hte).ex
  obtain rfl : i = i' := by rw [hi] at hi'; exact some_inj hi'
  unfold addend at ha
  split at ha
  · cases ha
  · rename_i tu htu
    split at ha
    · rename_i k hd
      split at ha
      · rename_i k' m
        split at ha
        · rename_i m
          obtain ⟨h1, h2⟩ := cond_some ha
          obtain ⟨h1, h3⟩ := and_true h1
          split at h2
          · rename_i z hzz
            obtain ⟨h4, h5⟩ := cond_some h2
            have := some_inj h5
            injection this with q1 q2
            subst q1 q2
            obtain ⟨zv, hzv, hzd, hzo, _⟩ := hz z hzz
            refine ⟨.zeros k k' zv (by rw [(t_ok htu).d, intD_ok hd]) rfl hzv (ble_le h1) (by rw [hb]; exact ble_le h3) ?_, repA_ok (hzo _) m⟩
            have hvc : zv.cells = ⟨A.dens σ z⟩ := by apply Array.ext'; rw [← hzd σ]
            have hzl := beq_e h4
            by_cases h0 : m * i.size = 0
            · rw [if_pos h0]
              have : A.dens σ (repA z m) = [] := List.eq_nil_of_length_eq_zero (by rw [dens_length, repA_length, hzl, ← hs]; exact h0)
              rw [this]
            · rw [if_neg h0]
              have hz0 : (⟨A.dens σ z⟩ : Array Value).size ≠ 0 := by
                simp only [List.size_toArray, dens_length, hzl, ← hs]
                intro e; rw [e] at h0; simp at h0
              have := zeros_eq ⟨A.dens σ z⟩ m hz0
              unfold Builtin.zeroCells
              rw [hvc, this, repA_dens]
          · cases h2
        · cases ha
      · cases ha
    · rename_i hd
      have h99 := cond_some ha
      clear ha
      obtain ⟨hsd, ha⟩ := h99
      have kind : (∃ e', P.underlying u = some (.slice e')) ∨ P.underlying u = some .string := by
        rw [(t_ok htu).d]
        revert hsd
        cases tu.d <;> first | (intro hsd; cases hsd; done) | (intro _; exact .inl ⟨_, rfl⟩) | (intro _; exact .inr rfl)
      split at ha
      · rename_i l
        have := some_inj ha
        injection this with q1 q2
        subst q1 q2
        have c1 : ∀ w : World, (Builtin.firstCells i.size l.length (.string ⟨⟨l⟩⟩)).run P w = .ok (A.dens σ (bytesA l)).toArray w := fun w => by
          rw [bytesA_den]
          simp only [Builtin.firstCells, Sem.run_pure]
          congr 1
          apply Array.ext'
          rw [Array.toList_map]
          have : ((⟨⟨l⟩⟩ : ByteArray).extract 0 l.length).data.toList = l := by
            rw [ByteArray.data_extract, Array.toList_extract]
            simp [List.extract]
          rw [this]
        exact ⟨.src kind (fun w' => rfl) (c1 w) (c1 w.drew), bytesA_ok l⟩
      · rename_i q m lo c
        split at ha
        · rename_i new' hcl
          have := some_inj ha
          injection this with q1 q2
          subst q1 q2
          obtain ⟨c1, c2⟩ := cellsOf_ok (P := P) r hcl
          obtain ⟨c3, _⟩ := cellsOf_ok (P := P) (r.drew (w.drawn + 1)) hcl
          exact ⟨.src kind (fun w' => rfl) (by rw [hs]; exact c1) (by rw [hs]; exact c3), c2⟩
        · cases ha
      · cases ha
/-- A grown row: what is said of its new block. -/
theorem grown_at (hf : ¬ σ.dom h.nx) (r : Rel P.globals.size σ h w) {k : H} (hsub : ∀ j x, k.t.get j = some x → h.t.get j = some x) (hnx : k.nx = h.nx) (e : TypeId) {all : List A} (hall : A.oks σ.dom all) (need size cap : Nat) (hl : all.length = need * size) (z : Array Value) (hz : z.size = size) (hcap : need ≤ cap) :
    Goes P.globals.size σ h w (σ.with h.nx w.heap.size 0 (cap - need)) (k.new (.cells e (Tr.ofL .lf 0 all) (need * size) (some (h.nx, size)) true))
      (w.drew.alloc (.cells ((A.dens σ all).toArray ++ Builtin.zeroCells z (cap - need)) e)) := by
  have s := Val.with_same σ h.nx w.heap.size 0 (cap - need) hf
  have old : ∀ i, i < w.heap.size → (w.drew.alloc (.cells ((A.dens σ all).toArray ++ Builtin.zeroCells z (cap - need)) e)).heap[i]? = w.heap[i]? := fun i hi => by
    show (w.heap.push _)[i]? = _
    simp [Array.getElem?_push, Nat.ne_of_lt hi]
  refine Goes.fresh r hsub hnx _ _ 0 (cap - need) hf (fun i hi _ => old i hi) (fun j x hj => old _ (r.at_ j x (hsub j x hj)).inside) (fun j x hj => Nat.ne_of_lt (r.at_ j x (hsub j x hj)).inside)
    (by show w.heap.size ≤ (w.heap.push _).size; simp) rfl rfl rfl (.inl (Nat.le_refl _)) ⟨(A.dens σ all).toArray ++ Builtin.zeroCells z (cap - need), 0, 0, ?_, ?_, fun k a ha => ?_, fun x hx => ?_, (fun _ k hk hc => by omega), fun hc => by cases hc⟩
  · rw [with_blk]
    show (w.heap.push _)[w.heap.size]? = _
    simp
  · rw [with_off]
    simp only [Val.room, with_cap, Array.size_append, List.size_toArray, dens_length, hl, size_zeroCells, hz]
    omega
  · have h1 := ofL_get ha
    have h2 := oks_iff.1 hall a (List.mem_of_getElem? h1)
    refine ⟨?_, h2.mono s.dom⟩
    rw [with_off, s.den h2, Nat.zero_add]
    have hlt := (List.getElem?_eq_some_iff.1 h1).1
    rw [Array.getElem?_append_left (by simp [dens_length]; exact hlt)]
    simp [dens_eq, h1]
  · obtain rfl := some_inj hx; exact with_dom ..
theorem drop_sub {h : H} {j : Nat} : ∀ i x, (h.drop j).t.get i = some x → h.t.get i = some x := fun i x hx => (drop_get hx).2
theorem grow_ok (r : Rel P.globals.size σ h w) (hf : ¬ σ.dom h.nx) {t u ty e : TypeId} {te : TI} {i : TypeInfo} (ht : P.underlying t = some (.slice e)) (hi : P.info? e = some i) (hte : (tabOf P).t e = some te) {q : Option (Nat × Nat)} {len lo : Nat} {c : Option Nat} (hq : (A.sl q len lo c).ok σ.dom)
    {new : List A} {n : Nat} {x : Value} (hA : Adds P i u x n (A.dens σ new) w) (hnew : A.oks σ.dom new) (hlo : lo < len + n) {a : A} {k : H} (hg : growA h e te q len lo c new (len + n) = some (a, k)) :
    Does P σ h w (Builtin.append_ #[t, u] ty #[(A.sl q len lo c).den σ, x]) a k ∧ h.nx ≤ k.nx := by
  obtain ⟨i', hi', hs, hb, hz⟩ := (t_ok hte).ex
  obtain rfl : i = i' := by rw [hi] at hi'; exact some_inj hi'
  unfold growA at hg
  obtain ⟨h1, h2⟩ := cond_some hg
  obtain ⟨h3, h4⟩ := and_true h1
  obtain ⟨h3, h5⟩ := and_true h3
  obtain ⟨h4, h6⟩ := and_true h4
  obtain ⟨h6, h7⟩ := and_true h6
  have h3 : len + n ≤ 100000 := ble_le h3
  have h5 : te.bytes ≤ 100000 := ble_le h5
  have h7 : (len + n - len) * te.size = new.length := beq_e h7
  rw [Nat.add_sub_cancel_left] at h7
  split at h2
  · cases h2
  · rename_i old hold
    obtain ⟨h8, h2⟩ := cond_some h2
    have holdl : old.length = len * te.size := beq_e h8
    split at h2
    · cases h2
    · rename_i k' hk
      have := some_inj h2
      injection this with q1 q2
      subst q1 q2
      obtain ⟨z, hzz, hzl⟩ : ∃ z, te.zero = some z ∧ z.length = te.size := by
        unfold zOk at h4
        split at h4
        · rename_i z hzz; exact ⟨z, hzz, beq_e h4⟩
        · cases h4
      obtain ⟨zv, hzv, hzd, hzo, _⟩ := hz z hzz
      have hvs : zv.cells.size = te.size := by
        have := congrArg List.length (hzd σ)
        rw [dens_length, hzl] at this
        simpa using this.symm
      have hok := (cellsOf_ok (P := P) r hold).2
      have hold1 := (cellsOf_ok (P := P) (r.drew (w.drawn + 1)) hold).1
      have hall : A.oks σ.dom (old ++ new) := oks_append hok hnew
      have hden : A.dens σ old ++ A.dens σ new = A.dens σ (old ++ new) := by simp [dens_eq]
      have hl : (old ++ new).length = (len + n) * te.size := by rw [List.length_append, holdl, ← h7, Nat.add_mul]
      -- a new row
      have grow : lo + σ.ex c < len + n → (∀ j x, k'.t.get j = some x → h.t.get j = some x) → k'.nx = h.nx →
          Does P σ h w (Builtin.append_ #[t, u] ty #[(A.sl q len lo c).den σ, x]) (.sl (some (h.nx, 0)) (len + n) (len + n) (some h.nx)) (k'.new (.cells e (Tr.ofL .lf 0 (old ++ new)) (Nat.mul (len + n) te.size) (some (h.nx, te.size)) true)) := by
        intro hlt hsub hnx
        have hcap := grownCap_ge w (len + n) (lo + σ.ex c) e
        refine ⟨_, _, ?_, grown_at hf r hsub hnx e hall (len + n) te.size (grownCap w (len + n) (lo + σ.ex c) e) hl zv.cells hvs hcap, ⟨fun x hx => by obtain rfl := some_inj hx; exact with_dom .., fun x hx => by obtain rfl := some_inj hx; exact with_dom ..⟩⟩
        rw [A.den, app_grow (z := zv) ht hi hzv hA (olds := A.dens σ old) (by rw [hs]; exact hold1) hlt h3 (by rw [hb]; exact h5), hden]
        have e7 : (σ.with h.nx w.heap.size 0 (grownCap w (len + n) (lo + σ.ex c) e - (len + n))).ex (some h.nx) = grownCap w (len + n) (lo + σ.ex c) e - (len + n) := with_cap ..
        rw [A.den, e7, Nat.add_sub_cancel' hcap, Option.map_some, ad_new]
      unfold loseA at hk
      split at hk
      · obtain rfl := some_inj hk
        refine ⟨grow (by simpa [Val.ex] using hlo) (fun _ _ h => h) rfl, ?_⟩
        simp [H.new]
      · rename_i x0
        split at hk
        · cases hk
        · rename_i j o
          split at hk
          · rename_i e' tr E cz wr hj
            split at hk
            · rename_i y z0
              obtain ⟨k1, k2⟩ := cond_some hk
              obtain rfl := some_inj k2
              obtain ⟨k2, k3⟩ := and_true k1
              obtain ⟨m1, m4⟩ := and_true k2
              obtain ⟨m3, m5⟩ := and_true k3
              obtain ⟨m7, m6⟩ := and_true m5
              have k5 : o + lo * te.size ≤ E := ble_le m7
              have m4 := beq_e m4
              have m3 := beq_e m3
              have m6 := beq_e m6
              clear k1 k2 k3 m5 m7
              subst m4 m3 m6 m1
              refine ⟨?_, by simp [H.new, H.drop]⟩
              by_cases hroom : len + n ≤ lo + σ.cap x0
              · obtain ⟨cur, flo, fhi, b1, b2, b3, b4, b5, _⟩ := r.at_ j _ hj
                simp only [Val.room] at b2 b5
                have hm : (len + n) * te.size ≤ (lo + σ.cap x0) * te.size := Nat.mul_le_mul_right _ hroom
                rw [Nat.add_mul, Nat.add_mul] at hm
                have hlen := dens_length (σ := σ) new
                have run := storeCells_run (P := P) (σ.blk j) (σ.off j + (o + len * te.size)) e' flo fhi (A.dens σ new) 0 cur w b1 (fun k h5 h6 => b5 trivial k (by omega)) (by omega) (one_cells h6)
                simp only [Nat.add_zero] at run
                have s := Val.with_same σ h.nx (σ.blk j) (σ.off j + o) (lo + σ.cap x0 - (len + n)) hf
                refine ⟨σ.with h.nx (σ.blk j) (σ.off j + o) (lo + σ.cap x0 - (len + n)), w.setRow (σ.blk j) (cur.toList.take (σ.off j + (o + len * te.size)) ++ A.dens σ new ++ cur.toList.drop (σ.off j + (o + len * te.size) + (A.dens σ new).length)).toArray, ?_, ?_, ⟨fun x hx => by obtain rfl := some_inj hx; exact with_dom .., fun x hx => by obtain rfl := some_inj hx; exact with_dom ..⟩⟩
                · have e1 : ((A.sl (some (j, o)) len lo (some x0)).den σ) = .slice (some (σ.ad (j, o))) len (lo + σ.cap x0) := rfl
                  rw [e1, app_room ht hi hA hroom (by rw [ad_add, hs]; exact run)]
                  have e7 : (σ.with h.nx (σ.blk j) (σ.off j + o) (lo + σ.cap x0 - (len + n))).ex (some h.nx) = lo + σ.cap x0 - (len + n) := with_cap ..
                  have e8 : (σ.with h.nx (σ.blk j) (σ.off j + o) (lo + σ.cap x0 - (len + n))).ad (h.nx, 0) = σ.ad (j, o) := by simp [Val.ad, with_blk, with_off]
                  rw [A.den, e7, Nat.add_sub_cancel' hroom, Option.map_some, e8]
                · refine Goes.fresh r drop_sub rfl _ _ _ _ hf (fun i hi hn => setRow_other w _ i _ (fun e => hn j _ hj rfl e.symm)) (fun i x hx => setRow_other w _ _ _ (fun e => (drop_get hx).1 (r.inj i x j _ (drop_get hx).2 hj e)))
                    (fun i x hx e => (drop_get hx).1 (r.inj i x j _ (drop_get hx).2 hj e)) (by rw [setRow_size]; exact Nat.le_refl _) rfl rfl rfl (.inr ⟨j, _, hj, rfl, rfl⟩) ⟨_, flo, fhi, by rw [with_blk]; exact setRow_heap w _ cur _ e' _ b1, ?_, fun k a ha => ?_, (fun x hx => by obtain rfl := some_inj hx; exact with_dom ..), fun _ k hk => b5 trivial k ?_, fun hc => by cases hc⟩
                  · rw [with_off]
                    simp only [Val.room, with_cap, List.size_toArray, List.length_append, List.length_take, List.length_drop, Array.length_toList, hlen]
                    have : (lo + σ.cap x0 - (len + n)) * te.size = (lo + σ.cap x0) * te.size - (len + n) * te.size := Nat.sub_mul ..
                    rw [Nat.add_mul, Nat.add_mul] at this
                    have e9 : Nat.mul (len + n) te.size = len * te.size + n * te.size := Nat.add_mul ..
                    omega
                  · have h1 := ofL_get ha
                    have h2 := oks_iff.1 hall a (List.mem_of_getElem? h1)
                    refine ⟨?_, h2.mono s.dom⟩
                    rw [with_off, s.den h2]
                    have hklt := (List.getElem?_eq_some_iff.1 h1).1
                    rw [List.length_append] at hklt
                    simp only [List.getElem?_toArray]
                    rw [List.append_assoc]
                    by_cases hlt : k < old.length
                    · rw [List.getElem?_append_left hlt] at h1
                      have hb3 : tr.get (o + k) = some a := by
                        unfold cellsOf at hold
                        simp only [hj] at hold
                        have hold' : cond (Nat.beq (len * te.size) 0) (some []) (rd tr o (len * te.size)) = some old := hold
                        cases hb : Nat.beq (len * te.size) 0 with
                        | true => rw [hb] at hold'; obtain rfl := some_inj hold'; simp at hlt
                        | false => rw [hb] at hold'; exact (rd_get hold').2 k a h1
                      obtain ⟨c1, c2⟩ := b3 _ a hb3
                      have := (Array.getElem?_eq_some_iff.1 c1).1
                      rw [List.getElem?_append_left (by simp; omega), List.getElem?_take, if_pos (by omega)]
                      rw [← Nat.add_assoc] at c1
                      simpa using c1
                    · rw [List.getElem?_append_right (by omega)] at h1
                      rw [List.getElem?_append_right (by simp; omega), List.getElem?_append_left (by simp [hlen]; omega), dens_eq, List.getElem?_map]
                      have : σ.off j + o + k - (List.take (σ.off j + (o + len * te.size)) cur.toList).length = k - old.length := by simp; omega
                      rw [this, h1]; rfl
                  · rw [with_off] at hk
                    simp only [Val.room, with_cap] at hk
                    have : (lo + σ.cap x0 - (len + n)) * te.size = (lo + σ.cap x0) * te.size - (len + n) * te.size := Nat.sub_mul ..
                    rw [Nat.add_mul, Nat.add_mul] at this
                    have e9 : Nat.mul (len + n) te.size = len * te.size + n * te.size := Nat.add_mul ..
                    omega
              · exact grow (by simp only [Val.ex]; omega) drop_sub rfl
            · cases hk
          · cases hk
end
end Go.Proofs.YtibompboimeedaaGreatDoor.Ev
