/-
  The evaluator tells the truth: conversions, iterators; every operation but a call of a function.
-/
import Derived.Test.YtibompboimeedaaGreatDoorEvK
namespace Go.Proofs.YtibompboimeedaaGreatDoor.Ev
section
variable {P : Program} {σ : Val} {h : H} {w : World}
/-- A new row whose capacity is drawn. -/
theorem drawn_row (r : Rel P.globals.size σ h w) (hf : ¬ σ.dom h.nx) (e : TypeId) (l : List A) (hl : A.oks σ.dom l) (cap : Nat) (hcap : l.length ≤ cap) (zv : Value) (fz : Nat × Nat) (hfz : cap ≤ fz.1 ∨ fz.2 ≤ fz.1) :
    Goes P.globals.size σ h w (σ.with h.nx w.heap.size 0 (cap - l.length)) (h.new (.cells e (Tr.ofL .lf 0 l) l.length (some (h.nx, 1)) true))
      { w with heap := w.heap.push (.cells ((⟨A.dens σ l⟩ : Array Value) ++ Array.replicate (cap - l.length) zv) e fz), drawn := w.drawn + 1 } := by
  have s := Val.with_same σ h.nx w.heap.size 0 (cap - l.length) hf
  have old : ∀ i, i < w.heap.size → ({ w with heap := w.heap.push (.cells ((⟨A.dens σ l⟩ : Array Value) ++ Array.replicate (cap - l.length) zv) e fz), drawn := w.drawn + 1 } : World).heap[i]? = w.heap[i]? := fun i hi => by
    simp [Array.getElem?_push, Nat.ne_of_lt hi]
  refine Goes.fresh r (fun _ _ h => h) rfl _ _ 0 (cap - l.length) hf (fun i hi _ => old i hi) (fun j x hj => old _ (r.at_ j x hj).inside) (fun j x hj => Nat.ne_of_lt (r.at_ j x hj).inside)
    (by simp) rfl rfl rfl (.inl (Nat.le_refl _)) ⟨(⟨A.dens σ l⟩ : Array Value) ++ Array.replicate (cap - l.length) zv, fz.1, fz.2, by rw [with_blk]; simp, ?_, fun k a ha => ?_, fun x hx => ?_, fun _ k hk hc => ?_, fun hc => by cases hc⟩
  · rw [with_off]
    simp only [Val.room, with_cap, Array.size_append, List.size_toArray, dens_length, Array.size_replicate]
    omega
  · have h1 := ofL_get ha
    have h2 := oks_iff.1 hl a (List.mem_of_getElem? h1)
    refine ⟨?_, h2.mono s.dom⟩
    rw [with_off, s.den h2, Nat.zero_add]
    have hlt := (List.getElem?_eq_some_iff.1 h1).1
    rw [Array.getElem?_append_left (by simp [dens_length]; exact hlt)]
    simp [dens_eq, h1]
  · obtain rfl := some_inj hx; exact with_dom ..
  · rw [with_off] at hk
    simp only [Val.room, with_cap] at hk
    omega
theorem row_den (hf : ¬ σ.dom h.nx) (n cap : Nat) (hcap : n ≤ cap) : (A.sl (some (h.nx, 0)) n n (some h.nx)).den (σ.with h.nx w.heap.size 0 (cap - n)) = .slice (some ⟨w.heap.size, 0, none⟩) n cap := by
  have e7 : (σ.with h.nx w.heap.size 0 (cap - n)).ex (some h.nx) = cap - n := with_cap ..
  rw [A.den, e7, Nat.add_sub_cancel' hcap, Option.map_some, ad_new]
theorem row_ok (n B c : Nat) : (A.sl (some (h.nx, 0)) n n (some h.nx)).ok (σ.with h.nx B 0 c).dom :=
  ⟨fun x hx => by obtain rfl := some_inj hx; exact with_dom .., fun x hx => by obtain rfl := some_inj hx; exact with_dom ..⟩
theorem capOf_ge (n old : Nat) (e : TypeId) (t : Nat) : n ≤ (Question.appendCap n old e).cut t := by simp [Question.cut]
theorem rowOf_ok (r : Rel P.globals.size σ h w) (hf : ¬ σ.dom h.nx) {s t e : TypeId} {si : TI} (hs : (tabOf P).t s = some si) (ht : P.underlying t = some (.slice e)) {l : List UInt8} {a : A} {k : H} (hr : rowOf (tabOf P) h e l = some (a, k)) :
    Does P σ h w (convert s t (.string ⟨⟨l⟩⟩)) a k := by
  have us := (t_ok hs).d
  unfold rowOf at hr
  split at hr
  · cases hr
  · rename_i te hte
    have ue := (t_ok hte).d
    split at hr
    · rename_i hd
      obtain ⟨rfl, rfl⟩ := pair_inj hr
      rw [intD_ok hd] at ue
      have hb : (bytesA l).length = l.length := by simp [bytesA]
      have hcap : (bytesA l).length ≤ (Question.appendCap l.length 0 e).cut (w.tape w.drawn (.appendCap l.length 0 e)) := by rw [hb]; exact capOf_ge ..
      generalize hcc : (Question.appendCap l.length 0 e).cut (w.tape w.drawn (.appendCap l.length 0 e)) = cap at hcap
      have g := drawn_row (P := P) r hf e (bytesA l) (bytesA_ok l) cap hcap (.int .u8 0) (cap, cap + 1) (.inl (Nat.le_refl _))
      rw [hb] at g hcap
      refine ⟨_, _, ?_, g, row_ok ..⟩
      rw [row_den hf _ _ hcap]
      have hsz : ((⟨⟨l⟩⟩ : ByteArray)).size = l.length := rfl
      have hmap : ((⟨⟨l⟩⟩ : ByteArray).data.map fun b => Value.int .u8 b.toNat) = ⟨A.dens σ (bytesA l)⟩ := by
        apply Array.ext'; rw [bytesA_den]; simp
      have hlen : (A.dens σ (bytesA l)).length = l.length := by rw [dens_length, hb]
      have c1 : (convert s t (.string ⟨⟨l⟩⟩)).run P w = (Conv.stringToBytes e ⟨⟨l⟩⟩).run P w := by
        simp only [convert, Sem.run_bind, run_underlying us, run_underlying ht, Result.andThen_ok]
        cases si.d <;> simp [run_underlying ue]
      rw [c1]
      unfold Conv.stringToBytes markStringish
      simp only [Sem.run_bind, run_choose, Question.forced, Bool.false_eq_true, if_false, hsz, hcc, Result.andThen_ok, hmap, newRow, run_newObj, Sem.run_pure, run_shape]
      have sh : ({ w with drawn := w.drawn + 1, heap := w.heap.push (.cells ((⟨A.dens σ (bytesA l)⟩ : Array Value) ++ Array.replicate (cap - l.length) (.int .u8 0)) e) } : World).shape? w.heap.size = some (e, cap) := by
        simp [World.shape?, hlen]
        omega
      have : ({ w with drawn := w.drawn + 1 } : World).heap.size = w.heap.size := rfl
      simp only [this, sh, Result.andThen_ok, run_freeze, Sem.run_bind, Sem.run_pure]
      congr 1
      simp only [World.freeze]
      rw [if_neg (by omega)]
      congr 1
      apply Array.ext_getElem?
      intro i
      rw [Array.getElem?_modify]
      by_cases hi : w.heap.size = i
      · subst hi; simp
      · simp [hi, Array.getElem?_push, Ne.symm hi]
    · rename_i hd
      split at hr
      · rename_i rs hrs
        obtain ⟨rfl, rfl⟩ := pair_inj hr
        rw [intD_ok hd] at ue
        obtain ⟨d1, d2, _⟩ := absL_den (σ := σ) (D := σ.dom) hrs
        have hlen : rs.length = (Conv.runesFrom ⟨⟨l⟩⟩ l.length 0 #[]).size := by
          have := congrArg List.length d1
          rw [dens_length] at this
          simpa using this
        have hcap : rs.length ≤ (Question.appendCap (Conv.runesFrom ⟨⟨l⟩⟩ l.length 0 #[]).size 0 e).cut (w.tape w.drawn (.appendCap (Conv.runesFrom ⟨⟨l⟩⟩ l.length 0 #[]).size 0 e)) := by rw [hlen]; exact capOf_ge ..
        generalize hcc : (Question.appendCap (Conv.runesFrom ⟨⟨l⟩⟩ l.length 0 #[]).size 0 e).cut (w.tape w.drawn (.appendCap (Conv.runesFrom ⟨⟨l⟩⟩ l.length 0 #[]).size 0 e)) = cap at hcap
        have g := drawn_row (P := P) r hf e rs d2 cap hcap (.int .i32 0) (0, 0) (.inr (Nat.le_refl _))
        refine ⟨_, _, ?_, g, row_ok ..⟩
        rw [row_den hf _ _ hcap]
        have hsz : ((⟨⟨l⟩⟩ : ByteArray)).size = l.length := rfl
        have hmap : (Conv.runesFrom ⟨⟨l⟩⟩ l.length 0 #[]) = ⟨A.dens σ rs⟩ := by apply Array.ext'; rw [d1]
        have c1 : (convert s t (.string ⟨⟨l⟩⟩)).run P w = (Conv.stringToRunes e ⟨⟨l⟩⟩).run P w := by
          simp only [convert, Sem.run_bind, run_underlying us, run_underlying ht, Result.andThen_ok]
          cases si.d <;> simp [run_underlying ue]
        rw [c1]
        unfold Conv.stringToRunes
        simp only [hsz, Sem.run_bind, run_choose, Question.forced, Bool.false_eq_true, if_false, hcc, Result.andThen_ok, newRow, run_newObj, Sem.run_pure]
        rw [← hlen, hmap]
      · cases hr
    · cases hr
theorem push_all : ∀ (l : List UInt8) (b : ByteArray), (l.map fun x => ((x.toNat : Nat) : Int)).foldl (fun r n => r.push (UInt8.ofNat n.toNat)) b = ⟨b.data ++ ⟨l⟩⟩
  | [], b => by simp
  | x :: l, b => by
    simp only [List.map_cons, List.foldl_cons]
    rw [push_all l]
    apply ByteArray.ext
    simp
theorem asBytes_ok : ∀ {l : List A} {b : List UInt8}, asBytes l = some b → ∃ ns : List Int, A.dens σ l = ns.map (Value.int .u8) ∧ ns.map (fun n => UInt8.ofNat n.toNat) = b
  | [], b, h => by obtain rfl := some_inj h; exact ⟨[], rfl, rfl⟩
  | a :: l, b, h => by
    simp only [asBytes] at h
    split at h
    · rename_i n
      cases hl : asBytes l with
      | none => rw [hl] at h; cases h
      | some r =>
        rw [hl] at h
        obtain rfl := some_inj h
        obtain ⟨ns, h1, h2⟩ := asBytes_ok hl
        exact ⟨n :: ns, by simp [A.dens, A.den, h1], by simp [h2]⟩
    · cases h
theorem push_ns : ∀ (ns : List Int) (b : ByteArray), ns.foldl (fun r n => r.push (UInt8.ofNat n.toNat)) b = ⟨b.data ++ ⟨ns.map fun n => UInt8.ofNat n.toNat⟩⟩
  | [], b => by simp
  | x :: l, b => by
    simp only [List.foldl_cons]
    rw [push_ns l]
    apply ByteArray.ext
    simp
theorem asRunes_ok : ∀ {l : List A} {b : List UInt8}, asRunes l = some b → ∃ ns : List Int, A.dens σ l = ns.map (Value.int .i32) ∧ ns.flatMap (fun n => (Utf8.encode n).data.toList) = b
  | [], b, h => by obtain rfl := some_inj h; exact ⟨[], rfl, rfl⟩
  | a :: l, b, h => by
    simp only [asRunes] at h
    split at h
    · rename_i n
      cases hl : asRunes l with
      | none => rw [hl] at h; cases h
      | some r =>
        rw [hl] at h
        obtain rfl := some_inj h
        obtain ⟨ns, h1, h2⟩ := asRunes_ok hl
        exact ⟨n :: ns, by simp [A.dens, A.den, h1], by simp [h2]⟩
    · cases h
theorem enc_ns : ∀ (ns : List Int) (b : ByteArray), ns.foldl (fun r n => r ++ Utf8.encode n) b = ⟨b.data ++ ⟨ns.flatMap fun n => (Utf8.encode n).data.toList⟩⟩
  | [], b => by simp
  | x :: l, b => by
    simp only [List.foldl_cons]
    rw [enc_ns l]
    apply ByteArray.ext
    apply Array.ext'
    simp
theorem run_forIn_runes {w : World} (f : Value → ByteArray → Sem (ForInStep ByteArray)) (hf : ∀ (n : Int) (r : ByteArray), (f (.int .i32 n) r).run P w = .ok (.yield (r ++ Utf8.encode n)) w) :
    ∀ (ns : List Int) (s : ByteArray), (forIn (ns.map (Value.int .i32)) s f).run P w = .ok (ns.foldl (fun r n => r ++ Utf8.encode n) s) w := by
  intro ns
  induction ns with
  | nil => intro s; simp [Sem.run_pure]
  | cons n ns ih =>
    intro s
    simp only [List.map_cons, List.forIn_cons, Sem.run_bind, hf, Result.andThen, List.foldl_cons]
    exact ih _
theorem strOf_ok (r : Rel P.globals.size σ h w) {s t e : TypeId} (hs : P.underlying s = some (.slice e)) (ht : P.underlying t = some .string) {q : Option (Nat × Nat)} {n lo : Nat} {c : Option Nat} {a : A} (hr : strOf (tabOf P) h e n (.sl q n lo c) = some a) :
    (convert s t ((A.sl q n lo c).den σ)).run P w = .ok (a.den σ) w ∧ a.ok σ.dom := by
  have e3 : ((A.sl q n lo c).den σ) = .slice (q.map σ.ad) n (lo + σ.ex c) := rfl
  unfold strOf at hr
  split at hr
  · cases hr
  · rename_i te hte
    have ue := (t_ok hte).d
    split at hr
    · cases hr
    · rename_i l hl
      have c1 := (cellsOf_ok (P := P) r hl).1
      rw [e3] at c1 ⊢
      have c1' : (Builtin.firstCells 1 n (.slice (q.map σ.ad) n (lo + σ.ex c))).run P w = .ok ⟨A.dens σ l⟩ w := c1
      split at hr
      · rename_i hd
        rw [intD_ok hd] at ue
        cases hb : asBytes l with
        | none => rw [hb] at hr; cases hr
        | some b =>
          rw [hb] at hr
          obtain rfl := some_inj hr
          obtain ⟨ns, h1, h2⟩ := asBytes_ok (σ := σ) hb
          refine ⟨?_, by simp [A.ok]⟩
          rw [run_convert_bytes_string w s t e _ n _ hs ue ht]
          cases q with
          | none =>
            have : (Result.ok #[] w : Result (Array Value)) = .ok ⟨A.dens σ l⟩ w := c1'
            injection this with q1 _
            have hl0 : ns = [] := by
              have := congrArg Array.toList q1
              rw [h1] at this
              simpa using this.symm
            subst hl0
            rw [← h2]
            rfl
          | some q =>
            have c2 : (loadCells (σ.ad q) n).run P w = .ok (ns.map (Value.int .u8)).toArray w := by
              have : (loadCells (σ.ad q) (n * 1)).run P w = .ok ⟨A.dens σ l⟩ w := c1'
              rw [Nat.mul_one] at this
              rw [this, h1]
            rw [Option.map_some, run_bytesToString w _ n _ ns c2, push_ns]
            rw [A.den, ← h2]
            simp
      · rename_i hd
        rw [intD_ok hd] at ue
        cases hb : asRunes l with
        | none => rw [hb] at hr; cases hr
        | some b =>
          rw [hb] at hr
          obtain rfl := some_inj hr
          obtain ⟨ns, h1, h2⟩ := asRunes_ok (σ := σ) hb
          refine ⟨?_, by simp [A.ok]⟩
          have cv : (convert s t (.slice (q.map σ.ad) n (lo + σ.ex c))).run P w = (Conv.runesToString (.slice (q.map σ.ad) n (lo + σ.ex c))).run P w := by
            simp [convert, run_underlying hs, run_underlying ht, run_underlying ue]
          rw [cv]
          cases q with
          | none =>
            have : (Result.ok #[] w : Result (Array Value)) = .ok ⟨A.dens σ l⟩ w := c1'
            injection this with q1 _
            have hl0 : ns = [] := by
              have := congrArg Array.toList q1
              rw [h1] at this
              simpa using this.symm
            subst hl0
            rw [← h2]
            rfl
          | some q =>
            have c2 : (loadCells (σ.ad q) n).run P w = .ok (ns.map (Value.int .i32)).toArray w := by
              have : (loadCells (σ.ad q) (n * 1)).run P w = .ok ⟨A.dens σ l⟩ w := c1'
              rw [Nat.mul_one] at this
              rw [this, h1]
            unfold Conv.runesToString
            simp only [Option.map_some, Sem.run_bind, c2, Result.andThen, List.forIn_toArray]
            rw [run_forIn_runes _ (by intro n r; simp [Sem.run_pure]), enc_ns]
            rw [A.den, ← h2]
            simp [Sem.run_pure]
      · cases hr
theorem convM_ok {ρ : Operand → Value} {env : Tr A} (he : EvalOk P σ env ρ) (r : Rel P.globals.size σ h w) {s t : TypeId} {x : Operand} {a : A} {k : H} (hs : convM (tabOf P) env h s t x = some (a, k)) (hf : Free σ h.nx k.nx) (hn : Nx h k) : Does P σ h w (convert s t (ρ x)) a k := by
  have hc : ∀ {a : A}, convO (tabOf P) env s t x = some a → Does P σ h w (convert s t (ρ x)) a h := fun hh => (conv_ok (σ := σ) he hh).does r
  unfold convM at hs
  split at hs
  · cases hs
  · rename_i y hy
    split at hs
    · cases hs
    · rename_i si hsi
      split at hs
      · cases hs
      · rename_i ti hti
        have plain : ∀ {b : A}, convA ti.d y = some b → Does P σ h w (convert s t (ρ x)) b h := fun hb => hc (by simp only [convO, hy, hsi, hti]; exact hb)
        have fin : ∀ {z : Option A}, (z.map fun b => (b, h)) = some (a, k) → z = some a ∧ k = h := fun {z} hz => by
          cases z with
          | none => cases hz
          | some b => obtain ⟨rfl, rfl⟩ := pair_inj hz; exact ⟨rfl, rfl⟩
        split at hs
        · rename_i l
          split at hs
          · rename_i e hd
            obtain ⟨e1, _⟩ := he x _ hy
            rw [e1]
            have hkn : k.nx = h.nx + 1 := by
              unfold rowOf at hs
              split at hs
              · cases hs
              · split at hs
                · rw [← (pair_inj hs).2]; rfl
                · split at hs
                  · rw [← (pair_inj hs).2]; rfl
                  · cases hs
                · cases hs
            exact rowOf_ok r (by rw [hkn] at hf; exact hf.one) hsi (by rw [(t_ok hti).d, hd]) hs
          · obtain ⟨h1, rfl⟩ := fin hs
            exact plain h1
        · rename_i q n lo c
          split at hs
          · rename_i e hd1 hd2
            obtain ⟨h1, rfl⟩ := fin hs
            obtain ⟨e1, _⟩ := he x _ hy
            rw [e1]
            obtain ⟨g1, g2⟩ := strOf_ok r (by rw [(t_ok hsi).d, hd1]) (by rw [(t_ok hti).d, hd2]) h1
            exact ⟨σ, w, g1, .refl r, g2⟩
          · cases hs
        · obtain ⟨h1, rfl⟩ := fin hs
          exact plain h1
theorem range_ok {ρ : Operand → Value} {env : Tr A} (he : EvalOk P σ env ρ) (r : Rel P.globals.size σ h w) (hf : ¬ σ.dom h.nx) {t : TypeId} {x : Operand} {a : A} {k : H} (hs : rangeO (tabOf P) env h t x = some (a, k)) : Does P σ h w (Instr.range t (ρ x)) a k := by
  unfold rangeO at hs
  split at hs
  · cases hs
  · rename_i ti ht
    split at hs
    · rename_i hd
      split at hs
      · rename_i l hx
        obtain ⟨rfl, rfl⟩ := pair_inj hs
        obtain ⟨e1, _⟩ := he x _ hx
        refine ⟨_, _, ?_, Goes.new r (.stringIter ⟨⟨l⟩⟩ 0) (.iter l 0) 0 hf ⟨by rw [with_blk]; simp, with_off ..⟩, with_dom ..⟩
        rw [e1]
        unfold Instr.range
        simp only [Sem.run_bind, und_run ht, hd, Result.andThen_ok, A.den, Sem.run_pure, run_newObj, Option.map_some, ad_new]
      · cases hs
    · cases hs
theorem next_ok {ρ : Operand → Value} {env : Tr A} (he : EvalOk P σ env ρ) (r : Rel P.globals.size σ h w) {ty : TypeId} {x : Operand} {b : Bool} {a : A} {k : H} (hs : nextO (tabOf P) env h x b = some (a, k)) : Does P σ h w (Instr.next (ρ x) b ty) a k := by
  unfold nextO at hs
  split at hs
  · rename_i j o hx
    obtain ⟨h0, h2⟩ := cond_some hs
    obtain ⟨h1, h3⟩ := and_true h0
    have h3 := beq_e h3
    clear h0 hs
    subst h3 h1
    obtain ⟨e1, _⟩ := he x _ hx
    unfold nextAt at h2
    split at h2
    · rename_i s pos hj
      obtain ⟨b1, b2⟩ := r.at_ j _ hj
      have e2 : σ.ad (j, 0) = ⟨σ.blk j, 0, none⟩ := by simp [Val.ad, b2]
      have h2' : cond (Nat.blt pos s.length) (some (A.tup [.b true, .i .i64 pos, .i .i32 (Utf8.decode ⟨⟨s⟩⟩ pos).1], h.turn j (.iter s (pos + (Utf8.decode ⟨⟨s⟩⟩ pos).2)))) (some (.tup [.b false], h)) = some (a, k) := h2
      have go : (getObj (σ.blk j)).run P w = .ok (.stringIter ⟨⟨s⟩⟩ pos) w := by simp [getObj, Sem.run, b1]
      have hsz : ((⟨⟨s⟩⟩ : ByteArray)).size = s.length := rfl
      rw [e1, A.den, Option.map_some, e2]
      cases hb : Nat.blt pos s.length with
      | true =>
        rw [hb, cond_true] at h2'
        obtain ⟨rfl, rfl⟩ := pair_inj h2'
        have hlt := blt_lt hb
        have hin := (Array.getElem?_eq_some_iff.1 b1).1
        refine ⟨σ, { w with heap := w.heap.setIfInBounds (σ.blk j) (.stringIter ⟨⟨s⟩⟩ (pos + (Utf8.decode ⟨⟨s⟩⟩ pos).2)) }, ?_, ?_, by simp [A.ok, A.oks]⟩
        · simp only [Instr.next, Sem.run_bind, go, Result.andThen_ok, hsz, if_pos hlt]
          simp [setObj, Sem.run, b1, A.den, A.dens, goInt]
        · exact Goes.turn (v := { w with heap := w.heap.setIfInBounds (σ.blk j) (.stringIter ⟨⟨s⟩⟩ (pos + (Utf8.decode ⟨⟨s⟩⟩ pos).2)) }) r hj rfl (fun i hi => by simp [Array.getElem?_setIfInBounds_ne (Ne.symm hi)]) (by simp) rfl rfl rfl (.iter s (pos + (Utf8.decode ⟨⟨s⟩⟩ pos).2)) ⟨by simp [hin], b2⟩
      | false =>
        rw [hb, cond_false] at h2'
        obtain ⟨rfl, rfl⟩ := pair_inj h2'
        have hge : ¬ pos < s.length := by
          have : ¬ (Nat.blt pos s.length = true) := by rw [hb]; simp
          rwa [Nat.blt_eq] at this
        refine ⟨σ, w, ?_, .refl r, by simp [A.ok, A.oks]⟩
        simp only [Instr.next, Sem.run_bind, go, Result.andThen_ok, hsz, if_neg hge]
        simp [A.den, A.dens]
    · cases h2
  · cases hs
theorem cut_ok {ρ : Operand → Value} {env : Tr A} (he : EvalOk P σ env ρ) (r : Rel P.globals.size σ h w) (hf : ¬ σ.dom h.nx) {t : TypeId} {x : Operand} {lo hi mx : Option Operand} {a : A} {k : H} (hs : cutOff (tabOf P) env h t x lo hi mx = some (a, k)) :
    Does P σ h w (Instr.sliceAt t (ρ x) (lo.map ρ) (hi.map ρ) (mx.map ρ)) a k ∧ k.nx = h.nx + 1 := by
  unfold cutOff at hs
  split at hs
  · rename_i l
    split at hs
    · cases hs
    · rename_i hel0 hel
      obtain ⟨ht, hte⟩ := elemT_ok (P := P) (t := t) (e := hel0.1) (te := hel0.2) hel
      split at hs
      · rename_i q n lo c hx
        split at hs
        · rename_i m hm
          obtain ⟨h1, h2⟩ := cond_some hs
          obtain ⟨h1, h3⟩ := and_true h1
          obtain ⟨rfl, rfl⟩ := pair_inj h2
          have h1 := beq_e h1
          have h3 := beq_e h3
          subst h1 h3
          obtain ⟨kk, e2⟩ := ixO_ok he hm
          obtain ⟨e1, o1⟩ := he x _ hx
          have od : σ.dom q.1 := o1.1 q rfl
          have s := Val.with_same σ h.nx (σ.blk q.1) (if σ.cap c = 0 then σ.off q.1 + q.2 else σ.off q.1 + q.2 + m * hel0.2.size) (σ.cap c) hf
          refine ⟨⟨σ.with h.nx (σ.blk q.1) (if σ.cap c = 0 then σ.off q.1 + q.2 else σ.off q.1 + q.2 + m * hel0.2.size) (σ.cap c), w, ?_, ⟨⟨s, fun j hj => ?_, Nat.le_refl _, rfl, rfl, rfl, fun _ _ _ => rfl, fun j y hj => .inr ⟨j, y, hj, fun h => h, (s.blk j (r.lt j y hj)).symm⟩⟩, ⟨fun j b hb => (r.at_ j b hb).keep (r.lt j b hb) s rfl, fun j b hb => s.dom j (r.lt j b hb), fun j b i c hb hc e => r.inj j b i c hb hc (by rw [← s.blk j (r.lt j b hb), ← s.blk i (r.lt i c hc)]; exact e), fun j hj => ?_⟩⟩, ⟨fun x hx => by obtain rfl := some_inj hx; exact with_dom .., fun x hx => by obtain rfl := some_inj hx; exact with_dom ..⟩⟩, rfl⟩
          · have e3 : ((A.sl (some q) m m (some c)).den σ) = .slice (some (σ.ad q)) m (m + σ.cap c) := rfl
            rw [e1, e3]
            have hb : (0 : Int) ≤ (m : Int) ∧ (m : Int) ≤ (m : Int) := by omega
            simp only [Instr.sliceAt, Sem.run_bind, run_underlying ht, Result.andThen_ok, Instr.slice, Option.map_some, Option.map_none, e2, Instr.sliceBounds, Instr.sliceBound, asIntOf, Sem.run_pure, Option.isSome_none, Bool.false_eq_true, if_false, if_pos hb, Int.toNat_natCast, size_run hte]
            have e7 : (σ.with h.nx (σ.blk q.1) (if σ.cap c = 0 then σ.off q.1 + q.2 else σ.off q.1 + q.2 + m * hel0.2.size) (σ.cap c)).ex (some h.nx) = σ.cap c := with_cap ..
            rw [A.den, e7, Option.map_some]
            congr 1
            have e8 : (σ.with h.nx (σ.blk q.1) (if σ.cap c = 0 then σ.off q.1 + q.2 else σ.off q.1 + q.2 + m * hel0.2.size) (σ.cap c)).ad (h.nx, 0) = if m + σ.cap c = m then σ.ad q else (σ.ad q).add (m * hel0.2.size) := by
              by_cases hz : σ.cap c = 0
              · rw [if_pos (by omega)]; simp [Val.ad, with_blk, with_off, hz]
              · rw [if_neg (by omega), ad_add]; simp [Val.ad, with_blk, with_off, hz, Nat.add_assoc]
            rw [e8]
            have e9 : m + σ.cap c - m = 0 + σ.cap c := by omega
            rw [e9, Nat.sub_self]
            by_cases hz : m + σ.cap c = m
            · rw [if_pos hz, if_pos hz]
            · rw [if_neg hz, if_neg hz]
          · rcases hj with h1 | h1
            · subst h1; exact .inr ⟨Nat.le_refl _, Nat.lt_succ_self _⟩
            · exact .inl h1
          · obtain ⟨h1, h2, h3⟩ := r.g j hj
            exact ⟨s.dom j h1, by rw [s.blk j h1]; exact h2, by rw [s.off j h1]; exact h3⟩
        · cases hs
      · cases hs
  · cases hs
end
end Go.Proofs.YtibompboimeedaaGreatDoor.Ev
