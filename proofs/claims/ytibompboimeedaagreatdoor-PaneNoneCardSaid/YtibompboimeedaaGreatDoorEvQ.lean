/-
  An operation looks at its operands alone.
-/
import Derived.Test.YtibompboimeedaaGreatDoorEvP
namespace Go.Proofs.YtibompboimeedaaGreatDoor.Ev
section
variable {T : Tab} {env env' : Tr A}
theorem opds_congr : ∀ {xs : List Operand}, (∀ x ∈ xs, opd T env x = opd T env' x) → opds T env xs = opds T env' xs
  | [], _ => rfl
  | x :: xs, h => by simp only [opds, h x (List.mem_cons_self ..), opds_congr fun y hy => h y (List.mem_cons_of_mem _ hy)]
theorem parts_congr : ∀ {xs : List (Nat × Operand)}, (∀ x ∈ xs.map (·.2), opd T env x = opd T env' x) → parts T env xs = parts T env' xs
  | [], _ => rfl
  | (i, x) :: xs, h => by simp only [parts, h x (by simp), parts_congr fun y hy => h y (by simp only [List.map_cons]; exact List.mem_cons_of_mem _ hy)]
theorem opdO_congr {o : Option Operand} (h : ∀ x ∈ o.toList, opd T env x = opd T env' x) : opdO T env o = opdO T env' o := by
  cases o with
  | none => rfl
  | some x => simp only [opdO, h x (by simp)]
theorem biA_congr {b : Builtin} {ts : List TypeId} {xs : List Operand} (h : ∀ x ∈ xs, opd T env x = opd T env' x) : biA T env b ts xs = biA T env' b ts xs := by
  unfold biA
  split
  · split
    · simp only [lenA, h _ (List.mem_cons_self ..)]
    · rfl
  · split
    · simp only [capA, h _ (List.mem_cons_self ..)]
    · rfl
  · split
    · simp only [mmA, h _ (List.mem_cons_self ..), h _ (List.mem_cons_of_mem _ (List.mem_cons_self ..))]
    · rfl
  · split
    · simp only [mmA, h _ (List.mem_cons_self ..), h _ (List.mem_cons_of_mem _ (List.mem_cons_self ..))]
    · rfl
  · rfl
theorem pure_congr {op : Op} (h : ∀ x ∈ opnds op, opd T env x = opd T env' x) : pureA op T env = pureA op T env' := by
  cases op
  case move x => exact h x (by simp [opnds])
  case assign x => exact h x (by simp [opnds])
  case pick c a b => show pickA T env c a b = pickA T env' c a b; simp only [pickA, h c (by simp [opnds]), h a (by simp [opnds]), h b (by simp [opnds])]
  case build t ps => show buildA T env t _ = buildA T env' t _; simp only [buildA, parts_congr (T := T) (env := env) (env' := env') (xs := ps.toList) h]
  case nilCheck x => show nilA T env x = nilA T env' x; simp only [nilA, h x (by simp [opnds])]
  case binOp op t x y u => show binO T env op t x y = binO T env' op t x y; simp only [binO, h x (by simp [opnds]), h y (by simp [opnds])]
  case unOp op t x => show unO T env op x = unO T env' op x; simp only [unO, h x (by simp [opnds])]
  case convert s t x => show convO T env s t x = convO T env' s t x; simp only [convO, h x (by simp [opnds])]
  case slice t x lo hi mx =>
    show sliceO T env t x lo hi mx = sliceO T env' t x lo hi mx
    simp only [sliceO, h x (by simp [opnds]), opdO_congr (T := T) (env := env) (env' := env') (o := lo) (fun y hy => h y (by simp [opnds] at *; simp [hy])), opdO_congr (T := T) (env := env) (env' := env') (o := hi) (fun y hy => h y (by simp [opnds] at *; simp [hy])),
      opdO_congr (T := T) (env := env) (env' := env') (o := mx) (fun y hy => h y (by simp [opnds] at *; simp [hy]))]
  case fieldAddr s x f => show fAddrA T env s x f = fAddrA T env' s x f; simp only [fAddrA, h x (by simp [opnds])]
  case field s x f => show fieldA T env s x f = fieldA T env' s x f; simp only [fieldA, h x (by simp [opnds])]
  case indexAddr t x ix => show iAddrA T env t x ix = iAddrA T env' t x ix; simp only [iAddrA, ixO, h x (by simp [opnds]), h ix (by simp [opnds])]
  case index t x ix => show indexA T env t x ix = indexA T env' t x ix; simp only [indexA, ixO, h x (by simp [opnds]), h ix (by simp [opnds])]
  case extract x ix => show extrA T env x ix = extrA T env' x ix; simp only [extrA, h x (by simp [opnds])]
  case makeFunc f fs cs =>
    show mkFn T env f fs.toList cs.toList = mkFn T env' f fs.toList cs.toList
    simp only [mkFn, opds_congr (T := T) (env := env) (env' := env') (xs := fs.toList) (fun y hy => h y (by simp only [opnds, List.mem_append]; exact .inl hy)), opds_congr (T := T) (env := env) (env' := env') (xs := cs.toList) (fun y hy => h y (by simp only [opnds, List.mem_append]; exact .inr hy))]
  case call c =>
    show biC T env c = biC T env' c
    unfold biC
    split
    · exact biA_congr fun y hy => h y (by simp only [opnds, List.mem_append]; exact .inr hy)
    · rfl
  all_goals rfl
theorem new_congr {op : Op} {n : Nat} (h : ∀ x ∈ opnds op, opd T env x = opd T env' x) : newA op T env n = newA op T env' n := by
  cases op
  case box e x => show boxA T env n e x = boxA T env' n e x; simp only [boxA, h x (by simp [opnds])]
  case buildSlice t l ps => show bslA T env n t l _ = bslA T env' n t l _; simp only [bslA, parts_congr (T := T) (env := env) (env' := env') (xs := ps.toList) h]
  case makeSlice t l c => show mslA T env n t l c = mslA T env' n t l c; simp only [mslA, ixO, h l (by simp [opnds]), h c (by simp [opnds])]
  all_goals rfl
theorem oper_congr {ev : Job → Option Out} {op : Op} {k : H} (h : ∀ x ∈ opnds op, opd T env x = opd T env' x) : operA op T ev env k = operA op T ev env' k := by
  have hp := pure_congr (T := T) h
  cases op
  case load t x => show loadO T env k t x = loadO T env' k t x; simp only [loadO, h x (by simp [opnds])]
  case store t a x => show storeO T env k t a x = storeO T env' k t a x; simp only [storeO, h a (by simp [opnds]), h x (by simp [opnds])]
  case convert s t x => show convM T env k s t x = convM T env' k s t x; simp only [convM, h x (by simp [opnds])]
  case slice t x lo hi mx =>
    have e1 : sliceO T env t x lo hi mx = sliceO T env' t x lo hi mx := hp
    show sliceM T env k t x lo hi mx = sliceM T env' k t x lo hi mx
    have e2 : cutOff T env k t x lo hi mx = cutOff T env' k t x lo hi mx := by
      unfold cutOff
      split
      · rename_i l
        simp only [ixO, h x (by simp [opnds]), h l (by simp [opnds])]
      · rfl
    simp only [sliceM, e1, e2]
  case range t x => show rangeO T env k t x = rangeO T env' k t x; simp only [rangeO, h x (by simp [opnds])]
  case next x s => show nextO T env k x s = nextO T env' k x s; simp only [nextO, h x (by simp [opnds])]
  case alloc e => rfl
  case box e x => exact congrArg (nb k) (new_congr (T := T) (op := .box e x) (n := k.nx) h)
  case buildSlice t l ps => exact congrArg (nb k) (new_congr (T := T) (op := .buildSlice t l ps) (n := k.nx) h)
  case makeSlice t l c => exact congrArg (nb k) (new_congr (T := T) (op := .makeSlice t l c) (n := k.nx) h)
  case call c =>
    show callC T ev env k c = callC T ev env' k c
    unfold callC
    split
    · rename_i f hf
      have e1 : opd T env f = opd T env' f := h f (by simp [opnds, hf])
      have e2 : opds T env c.args.toList = opds T env' c.args.toList := opds_congr fun y hy => h y (by simp only [opnds, List.mem_append]; exact .inr hy)
      simp only [callA, target, e1, e2]
    · rename_i b hb
      have hx : ∀ x ∈ c.args.toList, opd T env x = opd T env' x := fun y hy => h y (by simp only [opnds, List.mem_append]; exact .inr hy)
      have e3 : ∀ b ts, biA T env b ts c.args.toList = biA T env' b ts c.args.toList := fun b ts => biA_congr hx
      unfold memBi
      split
      · split
        · rename_i t u x y e1 e2
          simp only [appendO, hx x (by rw [e2]; simp), hx y (by rw [e2]; simp)]
        · rfl
      · split
        · rename_i t l x y e1 e2
          simp only [copyO, hx x (by rw [e2]; simp), hx y (by rw [e2]; simp)]
        · rfl
      · split
        · rename_i t l x e1 e2
          simp only [clearO, hx x (by rw [e2]; simp)]
        · rfl
      · rw [e3]
    · rfl
  all_goals exact congrArg (pv k) hp
/-- The slots that a list names, alone. -/
noncomputable def only (env : Tr A) : List Nat → Tr A
  | [] => .lf
  | t :: l => (only env l).put t (env.get t)
theorem only_get : ∀ {l : List Nat} {t : Nat}, (only env l).get t = if t ∈ l then env.get t else none
  | [], t => by simp [only, Tr.get_lf]
  | x :: l, t => by
    simp only [only, Tr.get_put, only_get (l := l)]
    by_cases h1 : t = x
    · subst h1; simp
    · simp [h1]
theorem tmpsOf_mem : ∀ {l : List Operand} {t : Nat}, Operand.tmp t ∈ l → t ∈ tmpsOf l
  | x :: l, t, h => by
    rcases List.mem_cons.1 h with h | h
    · subst h; simp [tmpsOf]
    · have := tmpsOf_mem h
      cases x <;> simp [tmpsOf, this]
theorem only_opd {op : Op} : ∀ x ∈ opnds op, opd T env x = opd T (only env (tmpsOf (opnds op))) x := by
  intro x hx
  cases x with
  | tmp t =>
    show env.get t = (only env (tmpsOf (opnds op))).get t
    rw [only_get, if_pos (tmpsOf_mem hx)]
  | const v => rfl
  | global g => rfl
  | func f => rfl
end
end Go.Proofs.YtibompboimeedaaGreatDoor.Ev
