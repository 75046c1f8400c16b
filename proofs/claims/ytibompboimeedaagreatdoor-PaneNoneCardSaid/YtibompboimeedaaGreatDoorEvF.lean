/-
  The evaluator tells the truth: comparisons, cuts, structs.
-/
import Derived.Test.YtibompboimeedaaGreatDoorEvE
namespace Go.Proofs.YtibompboimeedaaGreatDoor.Ev
section
variable {P : Program} {σ : Val}
theorem eqB_eq : ∀ (a b : List UInt8), eqB a b = (a == b)
  | [], [] => rfl
  | [], _ :: _ => rfl
  | _ :: _, [] => rfl
  | a :: l, b :: r => by
    simp only [eqB, eqB_eq l r]
    rw [Bool.eq_iff_iff]
    simp [Nat.beq_eq, UInt8.toNat_inj]
theorem toList_eq (a : List UInt8) : (⟨⟨a⟩⟩ : ByteArray).toList = a := by
  rw [ByteArray.toList_eq]
theorem some_inj {α : Type} {a b : α} (h : some a = some b) : a = b := by injection h
theorem strA_ok {op : BinOp} {t : TypeId} {a b : List UInt8} {r : A} (h : strA op a b = some r) : Tells P σ (binOp op t (.string ⟨⟨a⟩⟩) (.string ⟨⟨b⟩⟩)) r := by
  cases op
  case eql => obtain rfl := some_inj h; exact ⟨fun w => by simp [binOp, Op.stringOp, A.den, eqB_eq, toList_eq], by simp [A.ok]⟩
  case neq => obtain rfl := some_inj h; exact ⟨fun w => by simp [binOp, Op.stringOp, A.den, eqB_eq, toList_eq], by simp [A.ok]⟩
  case add =>
    have h' : cond (Nat.ble (Nat.add a.length b.length) 1000000) (some (A.s (a ++ b))) none = some r := h
    cases hb : Nat.ble (Nat.add a.length b.length) 1000000 with
    | false => rw [hb] at h'; cases h'
    | true =>
      rw [hb] at h'
      obtain rfl := some_inj h'
      have hle : a.length + b.length ≤ 1000000 := by simpa [Nat.ble_eq] using hb
      refine ⟨fun w => ?_, by simp [A.ok]⟩
      have e : ((⟨⟨a⟩⟩ : ByteArray) ++ (⟨⟨b⟩⟩ : ByteArray)) = (⟨⟨a ++ b⟩⟩ : ByteArray) := by
        apply ByteArray.ext; simp
      have hn : ¬ (((a.length + b.length : Nat) : Int) > IntKind.i64.max) := by simp [IntKind.max, IntKind.bits, IntKind.signed]; omega
      simp only [binOp, Op.stringOp, A.den]
      show Sem.run P (if (((a.length + b.length : Nat) : Int) > IntKind.i64.max) then _ else _) w = _
      rw [if_neg hn, e]; rfl
  all_goals exact absurd h (by simp [strA])
theorem eqNe_ok {op : BinOp} {x : Bool} {r : A} (h : eqNe op x = some r) : (op = .eql ∧ r = .b x) ∨ (op = .neq ∧ r = .b (!x)) := by
  cases op
  case eql => exact .inl ⟨rfl, (some_inj h).symm⟩
  case neq => exact .inr ⟨rfl, (some_inj h).symm⟩
  all_goals exact absurd h (by simp [eqNe])
/-- Two values that the model compares. -/
theorem eql_ok {op : BinOp} {t : TypeId} {a b : Value} {x : Bool} {r : A} (h : eqNe op x = some r) (he : ∀ w, (binOp .eql t a b).run P w = .ok (.bool x) w) (hn : ∀ w, (binOp .neq t a b).run P w = .ok (.bool (!x)) w) : Tells P σ (binOp op t a b) r := by
  rcases eqNe_ok h with ⟨rfl, rfl⟩ | ⟨rfl, rfl⟩
  · exact ⟨fun w => by rw [he w]; rfl, by simp [A.ok]⟩
  · exact ⟨fun w => by rw [hn w]; rfl, by simp [A.ok]⟩
theorem equal_ok {op : BinOp} {t : TypeId} {a b : Value} {x : Bool} {r : A} (h : eqNe op x = some r) (he : ∀ w, (Op.equal t a b).run P w = .ok x w)
    (e1 : binOp .eql t a b = (do pure (.bool (← Op.equal t a b)))) (e2 : binOp .neq t a b = (do pure (.bool (!(← Op.equal t a b))))) : Tells P σ (binOp op t a b) r :=
  eql_ok h (fun w => by rw [e1]; simp [he w]) (fun w => by rw [e2]; simp [he w])
theorem bool_ok {op : BinOp} {t : TypeId} {a b : Bool} {r : A} (hd : isBoolD ((tabOf P).t t) = true) (h : eqNe op (a == b) = some r) : Tells P σ (binOp op t (.bool a) (.bool b)) r := by
  cases ht : (tabOf P).t t with
  | none => rw [ht] at hd; cases hd
  | some ti =>
    rw [ht] at hd
    have hu : P.underlying t = some .bool := by
      rw [(t_ok ht).d]
      obtain ⟨d, s, by_, z, e⟩ := ti
      cases d <;> first | rfl | cases hd
    exact eql_ok h (fun w => run_eql_bool w t a b hu) (fun w => run_neq_bool w t a b hu)
theorem dOf {t : TypeId} {ti : TI} {f : Option TI → Bool} (ht : (tabOf P).t t = some ti) (hd : f ((tabOf P).t t) = true) : f (some ti) = true := by rw [ht] at hd; exact hd
theorem nilEq_ok {op : BinOp} {x y : Option (Nat × Nat)} {r : A} (h : nilEq op x y = some r) : ∃ b, eqNe op b = some r ∧ ((x = none ∧ b = y.isNone) ∨ ((∃ z, x = some z) ∧ y = none ∧ b = false)) := by
  cases x with
  | none => cases y with
    | none => exact ⟨true, h, .inl ⟨rfl, rfl⟩⟩
    | some z => exact ⟨false, h, .inl ⟨rfl, rfl⟩⟩
  | some z => cases y with
    | none => exact ⟨false, h, .inr ⟨⟨z, rfl⟩, rfl, rfl⟩⟩
    | some u => exact absurd h (by simp [nilEq])
theorem in_ptr0 (d : Nat) {t e : TypeId} (y : Option Addr) (hu : P.underlying t = some (.pointer e)) (w : World) : (Op.equalIn (d + 1) t (.pointer none) (.pointer y)).run P w = .ok y.isNone w := by
  simp [Op.equalIn, run_underlying hu]
theorem in_ptr1 (d : Nat) {t e : TypeId} (x : Addr) (hu : P.underlying t = some (.pointer e)) (w : World) : (Op.equalIn (d + 1) t (.pointer (some x)) (.pointer none)).run P w = .ok false w := by
  simp [Op.equalIn, run_underlying hu]
theorem in_sl0 (d : Nat) {t e : TypeId} (y : Option Addr) (n a m b : Nat) (hu : P.underlying t = some (.slice e)) (w : World) : (Op.equalIn (d + 1) t (.slice none n a) (.slice y m b)).run P w = .ok y.isNone w := by
  simp [Op.equalIn, run_underlying hu]
theorem in_sl1 (d : Nat) {t e : TypeId} (x : Addr) (n a m b : Nat) (hu : P.underlying t = some (.slice e)) (w : World) : (Op.equalIn (d + 1) t (.slice (some x) n a) (.slice none m b)).run P w = .ok false w := by
  simp [Op.equalIn, run_underlying hu]
theorem in_fn0 (d : Nat) {t : TypeId} {p q : Array TypeId} {v : Bool} (hu : P.underlying t = some (.func p q v)) (w : World) : (Op.equalIn (d + 1) t .nilFunc .nilFunc).run P w = .ok true w := by
  simp [Op.equalIn, run_underlying hu]
theorem in_fn1 (d : Nat) {t : TypeId} {p q : Array TypeId} {v : Bool} (f : Fn) (a c : Array Value) (hu : P.underlying t = some (.func p q v)) (w : World) : (Op.equalIn (d + 1) t (.func f a c) .nilFunc).run P w = .ok false w := by
  simp [Op.equalIn, run_underlying hu]
theorem ptr_ok {op : BinOp} {t : TypeId} {x y : Option (Nat × Nat)} {r : A} (hd : isPtrD ((tabOf P).t t) = true) (h : nilEq op x y = some r) : Tells P σ (binOp op t (.pointer (x.map σ.ad)) (.pointer (y.map σ.ad))) r := by
  cases ht : (tabOf P).t t with
  | none => rw [ht] at hd; cases hd
  | some ti =>
    rw [ht] at hd
    obtain ⟨e, hu⟩ : ∃ e, P.underlying t = some (.pointer e) := by
      rw [(t_ok ht).d]
      obtain ⟨d, s, by_, z, e⟩ := ti
      cases d <;> first | exact ⟨_, rfl⟩ | cases hd
    obtain ⟨b, h1, h2⟩ := nilEq_ok h
    refine equal_ok h1 (fun w => ?_) ?_ ?_
    · rcases h2 with ⟨rfl, rfl⟩ | ⟨⟨z, rfl⟩, rfl, rfl⟩
      · have := in_ptr0 9999 (y.map σ.ad) hu w
        rw [Option.isNone_map] at this
        exact this
      · exact in_ptr1 9999 _ hu w
    · rcases h2 with ⟨rfl, rfl⟩ | ⟨⟨z, rfl⟩, rfl, rfl⟩ <;> first | (cases y <;> rfl) | rfl
    · rcases h2 with ⟨rfl, rfl⟩ | ⟨⟨z, rfl⟩, rfl, rfl⟩ <;> first | (cases y <;> rfl) | rfl
theorem sl_ok {op : BinOp} {t : TypeId} {x y : Option (Nat × Nat)} {n m a b : Nat} {r : A} (hd : isSlD ((tabOf P).t t) = true) (h : nilEq op x y = some r) : Tells P σ (binOp op t (.slice (x.map σ.ad) n a) (.slice (y.map σ.ad) m b)) r := by
  cases ht : (tabOf P).t t with
  | none => rw [ht] at hd; cases hd
  | some ti =>
    rw [ht] at hd
    obtain ⟨e, hu⟩ : ∃ e, P.underlying t = some (.slice e) := by
      rw [(t_ok ht).d]
      obtain ⟨d, s, by_, z, e⟩ := ti
      cases d <;> first | exact ⟨_, rfl⟩ | cases hd
    obtain ⟨c, h1, h2⟩ := nilEq_ok h
    refine equal_ok h1 (fun w => ?_) ?_ ?_
    · rcases h2 with ⟨rfl, rfl⟩ | ⟨⟨z, rfl⟩, rfl, rfl⟩
      · have := in_sl0 9999 (y.map σ.ad) n a m b hu w
        rw [Option.isNone_map] at this
        exact this
      · exact in_sl1 9999 _ _ _ _ _ hu w
    · rfl
    · rfl
theorem fn_ok {op : BinOp} {t : TypeId} {x : Value} {b : Bool} {r : A} (hx : (∃ f a c, x = .func f a c) ∧ b = false ∨ x = .nilFunc ∧ b = true) (hd : isFnD ((tabOf P).t t) = true) (h : eqNe op b = some r) : Tells P σ (binOp op t x .nilFunc) r := by
  cases ht : (tabOf P).t t with
  | none => rw [ht] at hd; cases hd
  | some ti =>
    rw [ht] at hd
    obtain ⟨p, q, v, hu⟩ : ∃ p q v, P.underlying t = some (.func p q v) := by
      rw [(t_ok ht).d]
      obtain ⟨d, s, by_, z, e⟩ := ti
      cases d <;> first | exact ⟨_, _, _, rfl⟩ | cases hd
    refine equal_ok h (fun w => ?_) ?_ ?_
    · rcases hx with ⟨⟨f, a, c, rfl⟩, rfl⟩ | ⟨rfl, rfl⟩
      · exact in_fn1 9999 f a c hu w
      · exact in_fn0 9999 hu w
    · rcases hx with ⟨⟨f, a, c, rfl⟩, rfl⟩ | ⟨rfl, rfl⟩ <;> rfl
    · rcases hx with ⟨⟨f, a, c, rfl⟩, rfl⟩ | ⟨rfl, rfl⟩ <;> rfl
theorem eqI_eq (k l : IntKind) (a b : Int) : eqI k a l b = (a == b) := by
  cases a <;> cases b <;> simp only [eqI]
  · rw [Bool.eq_iff_iff]; simp [Nat.beq_eq]; omega
  · symm; rw [beq_eq_false_iff_ne]; intro h; cases h
  · symm; rw [beq_eq_false_iff_ne]; intro h; cases h
  · rw [Bool.eq_iff_iff]; simp [Nat.beq_eq]
theorem eq1_ok {n d : Nat} {t : TypeId} {a b : A} {x : Bool} (hk : kindD (P.underlying t) = n) (h : eq1 n a b = some x) (w : World) : (Op.equalIn (d + 1) t (a.den σ) (b.den σ)).run P w = .ok x w := by
  cases a <;> try (revert h; simp [eq1]; done)
  · rename_i u
    cases b <;> try (revert h; simp [eq1]; done)
    rename_i v
    have h' : cond (Nat.beq n 1) (some (u == v)) none = some x := h
    cases hb : Nat.beq n 1 with
    | false => rw [hb] at h'; cases h'
    | true =>
      rw [hb] at h'
      obtain rfl := some_inj h'
      have hn : n = 1 := Nat.eq_of_beq_eq_true hb
      have hu : P.underlying t = some .bool := by
        rw [hn] at hk
        revert hk
        unfold kindD
        split <;> intro hk <;> first | assumption | (exact absurd hk (by decide))
      simp only [A.den]
      exact run_equalIn_bool w d t u v hu
  · rename_i k u
    cases b <;> try (revert h; simp [eq1]; done)
    rename_i l v
    have h' : cond (and (Nat.beq n 2) (decide (k = l))) (some (eqI k u l v)) none = some x := h
    cases hb : (and (Nat.beq n 2) (decide (k = l))) with
    | false => rw [hb] at h'; cases h'
    | true =>
      rw [hb] at h'
      obtain rfl := some_inj h'
      rw [Bool.and_eq_true, decide_eq_true_iff] at hb
      have hn : n = 2 := Nat.eq_of_beq_eq_true hb.1
      obtain rfl := hb.2
      obtain ⟨k', hu⟩ : ∃ k', P.underlying t = some (.int k') := by
        rw [hn] at hk
        revert hk
        unfold kindD
        split <;> intro hk <;> first | exact ⟨_, by assumption⟩ | (exact absurd hk (by decide))
      simp only [A.den, eqI_eq]
      exact run_equalIn_int w d t k k' u v hu
  · rename_i u
    cases b <;> try (revert h; simp [eq1]; done)
    rename_i v
    have h' : cond (Nat.beq n 3) (some (eqB u v)) none = some x := h
    cases hb : Nat.beq n 3 with
    | false => rw [hb] at h'; cases h'
    | true =>
      rw [hb] at h'
      obtain rfl := some_inj h'
      have hn : n = 3 := Nat.eq_of_beq_eq_true hb
      have hu : P.underlying t = some .string := by
        rw [hn] at hk
        revert hk
        unfold kindD
        split <;> intro hk <;> first | assumption | (exact absurd hk (by decide))
      simp only [A.den, eqB_eq]
      have := run_equalIn_string w d t ⟨⟨u⟩⟩ ⟨⟨v⟩⟩ hu
      rw [toList_eq, toList_eq] at this
      exact this
theorem kind_plain {t : TypeId} {n : Nat} (hk : kindD (P.underlying t) = n + 1) (w : World) : (isAgg t).run P w = .ok false w := by
  unfold isAgg
  revert hk
  unfold kindD
  split <;> intro hk <;> first
    | (rename_i hu; simp [run_underlying hu])
    | (exact absurd hk (by simp))
theorem eqFields_ok {d : Nat} : ∀ {fs : List Field} {k : Nat} {ks : List Nat} {a b : List A} {x : Bool} (xs ys : Array Value), eqGo P fs k = some ks → eqC ks a b = some x →
    xs.toList.drop k = A.dens σ a → ys.toList.drop k = A.dens σ b → ∀ w, (Op.eqFields (d + 1) xs ys fs).run P w = .ok x w
  | [], k, ks, a, b, x, xs, ys, hg, hc, hx, hy, w => by
    obtain rfl := some_inj hg
    cases a <;> cases b <;> try (revert hc; simp [eqC]; done)
    obtain rfl := some_inj hc
    simp [Op.eqFields]
  | f :: fs, k, ks, a, b, x, xs, ys, hg, hc, hx, hy, w => by
    have hg' : cond (and (and (f.name != "_") (Nat.beq f.offset k)) ((P.info? f.type).elim false fun i => Nat.beq i.size 1)) (match kindD (P.underlying f.type) with | 0 => none | n + 1 => (match eqGo P fs (k + 1) with | some r => some ((n + 1) :: r) | none => none)) none = some ks := hg
    cases hb : (and (and (f.name != "_") (Nat.beq f.offset k)) ((P.info? f.type).elim false fun i => Nat.beq i.size 1)) with
    | false => rw [hb] at hg'; cases hg'
    | true =>
      rw [hb, cond_true] at hg'
      rw [Bool.and_eq_true, Bool.and_eq_true] at hb
      obtain ⟨⟨hname, hoff⟩, _⟩ := hb
      have hoff : f.offset = k := Nat.eq_of_beq_eq_true hoff
      cases hk : kindD (P.underlying f.type) with
      | zero => rw [hk] at hg'; cases hg'
      | succ n =>
        rw [hk] at hg'
        cases hr : eqGo P fs (k + 1) with
        | none => rw [hr] at hg'; cases hg'
        | some r =>
          rw [hr] at hg'
          obtain rfl := some_inj hg'
          cases a with
          | nil => cases b <;> exact absurd hc (by simp [eqC])
          | cons u a =>
            cases b with
            | nil => exact absurd hc (by simp [eqC])
            | cons v b =>
              have hxk : xs[k]? = some (u.den σ) := by
                have := congrArg (fun l => l[0]?) hx
                simpa [A.dens, List.getElem?_drop] using this
              have hyk : ys[k]? = some (v.den σ) := by
                have := congrArg (fun l => l[0]?) hy
                simpa [A.dens, List.getElem?_drop] using this
              have hx1 : xs.toList.drop (k + 1) = A.dens σ a := by
                have := congrArg List.tail hx
                simpa [A.dens] using this
              have hy1 : ys.toList.drop (k + 1) = A.dens σ b := by
                have := congrArg List.tail hy
                simpa [A.dens] using this
              have hc' : (match eq1 (n + 1) u v with | some true => eqC r a b | some false => some false | none => none) = some x := hc
              have p1 : ∀ w, (part f.type xs f.offset).run P w = .ok (u.den σ) w := fun w => by
                unfold part; rw [hoff]; simp [kind_plain hk, hxk]
              have p2 : ∀ w, (part f.type ys f.offset).run P w = .ok (v.den σ) w := fun w => by
                unfold part; rw [hoff]; simp [kind_plain hk, hyk]
              have hname : f.name ≠ "_" := by simpa using hname
              cases he : eq1 (n + 1) u v with
              | none => rw [he] at hc'; cases hc'
              | some y =>
                rw [he] at hc'
                have p3 : ∀ w, (Op.equalIn (d + 1) f.type (u.den σ) (v.den σ)).run P w = .ok y w := fun w => eq1_ok hk he w
                simp only [Op.eqFields, if_pos hname, Sem.run_bind, p1, p2, p3, Result.andThen_ok]
                cases y with
                | true => simp only [Bool.not_true, Bool.false_eq_true, if_false]; exact eqFields_ok xs ys hr hc' hx1 hy1 w
                | false => obtain rfl := some_inj hc'; simp
theorem agg_ok {op : BinOp} {t : TypeId} {a b : List A} {r : A} (h : aggA (tabOf P) op t a b = some r) : Tells P σ (binOp op t (.agg ⟨A.dens σ a⟩) (.agg ⟨A.dens σ b⟩)) r ∧ P.eqGuardType P.depth t = false := by
  unfold aggA at h
  split at h
  · cases h
  · rename_i ti ht
    split at h
    · cases h
    · rename_i n ns hn
      split at h
      · rename_i x hx
        have hq := (t_ok ht).eq
        rw [hn] at hq
        unfold eqType at hq
        split at hq
        · rename_i fs hu
          cases hb : (and (not (P.stoodInHeld t)) (not (P.eqGuardType P.depth t))) with
          | false => rw [hb] at hq; cases hq
          | true =>
            rw [hb, cond_true] at hq
            rw [Bool.and_eq_true, Bool.not_eq_true', Bool.not_eq_true'] at hb
            cases hg : eqGo P fs.toList 0 with
            | none => rw [hg] at hq; cases hq
            | some ks =>
              rw [hg] at hq
              simp only [Option.getD_some] at hq
              subst hq
              have hf : P.fieldsOf t = fs := by unfold Program.fieldsOf; rw [hu]
              have run : ∀ w, (Op.equalIn 10000 t (.agg ⟨A.dens σ a⟩) (.agg ⟨A.dens σ b⟩)).run P w = .ok x w := fun w => by
                rw [run_equalIn_struct w 9999 t _ _ (by rw [hf]; exact hu) hb.1, hf]
                exact eqFields_ok (d := 9998) _ _ hg hx rfl rfl w
              exact ⟨eql_ok h (fun w => by rw [run_eql_struct, run w]; rfl) (fun w => by rw [run_neq_struct, run w]; rfl), hb.2⟩
        · cases hq
      · cases h
theorem binA_ok {op : BinOp} {t : TypeId} {a b r : A} (h : binA (tabOf P) op t a b = some r) : Tells P σ (binOp op t (a.den σ) (b.den σ)) r := by
  cases a <;> cases b <;> first
    | exact intA_ok h
    | exact strA_ok h
    | (revert h; simp [binA]; done)
    | skip
  all_goals simp only [binA] at h
  case b.b x y =>
    cases hb : isBoolD ((tabOf P).t t) with
    | false => rw [hb] at h; cases h
    | true => rw [hb] at h; exact bool_ok hb h
  case p.p x y =>
    cases hb : isPtrD ((tabOf P).t t) with
    | false => rw [hb] at h; cases h
    | true => rw [hb] at h; exact ptr_ok hb h
  case sl.sl =>
    cases hb : isSlD ((tabOf P).t t) with
    | false => rw [hb] at h; cases h
    | true => rw [hb] at h; exact sl_ok hb h
  case fn.nf =>
    cases hb : isFnD ((tabOf P).t t) with
    | false => rw [hb] at h; cases h
    | true => rw [hb] at h; exact fn_ok (.inl ⟨⟨_, _, _, rfl⟩, rfl⟩) hb h
  case yl.nf =>
    cases hb : isFnD ((tabOf P).t t) with
    | false => rw [hb] at h; cases h
    | true => rw [hb] at h; exact fn_ok (.inl ⟨⟨_, _, _, rfl⟩, rfl⟩) hb h
  case nf.nf =>
    cases hb : isFnD ((tabOf P).t t) with
    | false => rw [hb] at h; cases h
    | true => rw [hb] at h; exact fn_ok (.inr ⟨rfl, rfl⟩) hb h
  case agg.agg => exact (agg_ok h).1
/-- The look ahead of a comparison. -/
theorem guard_ok {op : BinOp} {t : TypeId} {x y : Operand} {a b r : A} (h : binA (tabOf P) op t a b = some r) (w : World) : (eqGuard op t x y (a.den σ) (b.den σ)).run P w = .ok () w := by
  cases a <;> cases b <;> try (first | (revert h; simp [binA]; done) | (simp only [A.den, eqGuard]; cases op <;> rfl))
  simp only [A.den]
  exact run_eqGuard_agg w op t x y _ _ (agg_ok (σ := σ) h).2
end
end Go.Proofs.YtibompboimeedaaGreatDoor.Ev
