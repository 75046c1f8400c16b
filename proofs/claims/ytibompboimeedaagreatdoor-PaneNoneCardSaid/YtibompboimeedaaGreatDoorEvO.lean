/-
  The evaluator tells the truth: code.
-/
import Derived.Test.YtibompboimeedaaGreatDoorEvN
namespace Go.Proofs.YtibompboimeedaaGreatDoor.Ev
section
variable {P : Program}
theorem Left.trans {σ τ : Val} {r : Option Nat} {h h2 k : H} {w w2 v : World} {n : Nat} {e e' : Exit} {env : Tr A} {ds : List Nat} {a : Act} (x : Kept σ h w τ h2 w2) (h1 : h.nx ≤ h2.nx) (h3 : h2.nx ≤ k.nx) (y : Left P τ r h2 w2 n e env ds k e' a v) :
    Left P σ r h w n e env ds k e' a v := by
  obtain ⟨rfl, ρ, y1, y2⟩ := y
  exact ⟨rfl, ρ, x.trans y1 h1 h3, y2⟩
theorem Kept.free {a b : Val} {h k : H} {w v : World} (x : Kept a h w b k v) {m : Nat} (hm : Free a h.nx m) (hk : h.nx ≤ k.nx) : Free b k.nx m := fun j h1 h2 hd => by
  rcases x.dom j hd with h3 | h3
  · exact hm j (by omega) h2 h3
  · omega
/-- Operations in their order. -/
theorem ops_ok {ev : Job → Option Out} (T : Truth P ev) {ops : Array Oper} {r : Option Nat} {n : Nat} {ds : List Nat} : ∀ (l : List Oper) (i : Nat) {env e : Tr A} {h k : H}, ops.toList.drop i = l → opsA l (tabOf P) ev ops.toList n env h = some (e, k) →
    h.nx ≤ k.nx ∧ ∀ {σ : Val} {a : Act} {w : World}, At P σ r env n ds h a w → Free σ h.nx k.nx → ∀ m (Q : Exit → Act → World → Prop), (∀ τ a' v, Kept σ h w τ k v → At P τ r e n ds k a' v → Q .normal a' v) →
      wpOpsIn (fe σ r) m P ops Q (List.range' i l.length) a w
  | [], i, env, e, h, k, hd, hs => by
    obtain ⟨rfl, rfl⟩ := pair_inj (show some (env, h) = some (e, k) from hs)
    exact ⟨Nat.le_refl _, fun hat _ m Q hQ => hQ _ _ _ (.refl _ _ _) hat⟩
  | o :: l, i, env, e, h, k, hd, hs => by
    have hs' : opsK (opsA l (tabOf P) ev ops.toList n) (op1 (tabOf P) ev ops.toList n o env h) = some (e, k) := hs
    have hi : ops[i]? = some o := by
      have := congrArg (fun l => l[0]?) hd
      simpa [List.getElem?_drop] using this
    have hd' : ops.toList.drop (i + 1) = l := by
      have := congrArg List.tail hd
      simpa using this
    cases h1 : op1 (tabOf P) ev ops.toList n o env h with
    | none => rw [h1] at hs'; cases hs'
    | some x =>
      obtain ⟨e1, k1⟩ := x
      rw [h1] at hs'
      have hs2 : opsA l (tabOf P) ev ops.toList n e1 k1 = some (e, k) := hs'
      obtain ⟨n2, ih⟩ := ops_ok T l (i + 1) (ds := ds) (r := r) hd' hs2
      unfold op1 at h1
      cases hw : wantedA ops.toList env o with
      | none => rw [hw] at h1; cases h1
      | some b =>
        rw [hw] at h1
        have h1' : op2 n o env (@Bool.rec (fun _ => Option (A × H)) (some (.tup [], h)) (operA o.op (tabOf P) ev env h) b) = some (e1, k1) := h1
        cases b with
        | false =>
          have h2 : (match putA env n o.dst (.tup []) with | some e => some (e, h) | none => none) = some (e1, k1) := h1'
          cases hp : putA env n o.dst (.tup []) with
          | none => rw [hp] at h2; cases h2
          | some e2 =>
            rw [hp] at h2
            obtain ⟨rfl, rfl⟩ := pair_inj h2
            refine ⟨n2, fun {σ a w} hat hf m Q hQ => ?_⟩
            have hwt := wanted_ok hw hat.env
            simp only [List.length_cons, List.range'_succ, wpOpsIn, hi, hwt, Bool.false_eq_true, if_false]
            refine ⟨fun f _ => fe_fn σ r f, ih ⟨hat.rel, ?_, by rw [put_defers]; exact hat.defers, hat.ds, hat.r⟩ hf m Q hQ⟩
            exact putA_ok hp hat.env (by simp [A.ok, A.oks])
        | true =>
          have h2 : op2 n o env (operA o.op (tabOf P) ev env h) = some (e1, k1) := h1'
          unfold op2 at h2
          cases ho : operA o.op (tabOf P) ev env h with
          | none => rw [ho] at h2; cases h2
          | some x =>
            obtain ⟨x, k2⟩ := x
            rw [ho] at h2
            simp only at h2
            cases hp : putA env n o.dst x with
            | none => rw [hp] at h2; cases h2
            | some e2 =>
              rw [hp] at h2
              obtain ⟨rfl, rfl⟩ := pair_inj h2
              obtain ⟨n1, step⟩ := oper_wp T (r := r) (n := n) (ds := ds) ho
              refine ⟨Nat.le_trans n1 n2, fun {σ a w} hat hf m Q hQ => ?_⟩
              have hwt := wanted_ok hw hat.env
              simp only [List.length_cons, List.range'_succ, wpOpsIn, hi, hwt, if_true]
              refine step hat (hf.mono (Nat.le_refl _) n2) m _ Q fun τ v g1 g2 => ?_
              rw [← fe_same g1.kept.same hat.r]
              refine ih ⟨g1.rel, ?_, ?_, fun d hd => g1.kept.same.dom d (hat.ds d hd), fun l hl => g1.kept.same.dom l (hat.r l hl)⟩ (g1.free hf n1) m Q fun ρ a' v' x1 x2 => hQ ρ a' v' (g1.kept.trans x1 n1 n2) x2
              · have := hat.env.keep g1.kept.same
                exact putA_ok hp this g2
              · rw [put_defers, hat.defers, marks_same g1.kept.same hat.ds]
theorem least {p : Nat → Prop} (h : ∃ n, p n) : ∃ m, p m ∧ ∀ g, p g → m ≤ g := by
  obtain ⟨n, hn⟩ := h
  induction n using Nat.strongRecOn with
  | _ n ih =>
    by_cases hl : ∃ g, g < n ∧ p g
    · obtain ⟨g, h1, h2⟩ := hl; exact ih g h1 h2
    · refine ⟨n, hn, fun g hg => ?_⟩
      rcases Nat.lt_or_ge g n with h1 | h1
      · exact absurd ⟨g, h1, hg⟩ hl
      · exact h1
/-- A loop, by what the evaluator has left of fuel. -/
theorem wpIn_loop_fuel {F : Fence} {n : Nat} {Q : Exit → Act → World → Prop} {c : Code} {a : Act} {w : World} (J : Nat → Act → World → Prop) {f : Nat} (h0 : J f a w)
    (round : ∀ f a w, J f a w → c.wpIn F n P (Exit.then (fun a' w' => ∃ g, g < f ∧ J g a' w') Q) a w) : (Code.loop c).wpIn F n P Q a w := by
  classical
  refine wpIn_loop (fun a w => ∃ f, J f a w) (fun a w => if h : ∃ f, J f a w then Classical.choose (least h) else 0) ⟨f, h0⟩ fun a w hI => ?_
  refine wpIn_mono (round (Classical.choose (least hI)) a w (Classical.choose_spec (least hI)).1) fun e a' w' he => ?_
  cases e
  case normal =>
    obtain ⟨g, hg, hJ⟩ := he
    refine ⟨⟨g, hJ⟩, ?_⟩
    rw [dif_pos ⟨g, hJ⟩, dif_pos hI]
    exact Nat.lt_of_le_of_lt ((Classical.choose_spec (least (p := fun f => J f a' w') ⟨g, hJ⟩)).2 g hJ) hg
  all_goals exact he
end
end Go.Proofs.YtibompboimeedaaGreatDoor.Ev
