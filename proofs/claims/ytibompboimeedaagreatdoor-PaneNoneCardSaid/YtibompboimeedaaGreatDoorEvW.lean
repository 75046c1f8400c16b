/-
  What the evaluator's answer says of a call in a world.
-/
import Derived.Test.YtibompboimeedaaGreatDoorEvV
import Derived.Test.YtibompboimeedaaGreatDoorEvX
import Derived.Below
namespace Go.Proofs.YtibompboimeedaaGreatDoor.Ev
open RowKit
section
variable {P : Program} {X : Nat → Option (List A → H → Option (A × H))}
/-- A call without arguments of which the evaluator says that it answers true. -/
theorem runs_calls (hm : P.follows .mixedOrders = true) (hX : Told P X) {n f : Nat} {h : H} (hr : runs (tabOf P) X n f h = true) {σ : Val} {w : World} (r : Rel P.globals.size σ h w) (hf : ∀ j, h.nx ≤ j → ¬ σ.dom j)
    (hw : ∀ j b, h.t.get j = some b → b.wr = false) : Calls P f #[] w fun e v => e = .returned (.bool true) ∧ Below w.heap.size w v := by
  unfold runs at hr
  split at hr
  · rename_i k hk
    obtain ⟨_, _, h3⟩ := truth_all hm hX n _ _ hk
    refine (callsIn_wide.1 (h3 σ w r (fun j h1 _ => hf j h1) (by simp [A.oks]) 0)).mono ?_
    rintro e v ⟨τ, rfl, g, _⟩
    exact ⟨rfl, g.kept.os, g.kept.tape, g.kept.output, g.kept.size, fun i hi => g.kept.frame i hi fun j x hj hx => by rw [hw j x hj] at hx; cases hx⟩
  · cases hr
/-- What is known when a call begins: one of the package's variables, cell by cell. -/
noncomputable def start (g : Nat) (ty : TypeId) (l : List A) (G : Nat) : H := ⟨Tr.lf.put g (some (.cells ty (Tr.ofL .lf 0 l) l.length none false)), G⟩
def first (G : Nat) : Val := ⟨fun j => j < G, id, fun _ => 0, fun _ => 0⟩
theorem start_rel {g : Nat} {ty : TypeId} {l : List A} {w : World} {cs : Array Value} {fr : Nat × Nat} (hg : g < P.globals.size) (hb : w.heap[g]? = some (.cells cs ty fr)) (hl : l.length ≤ cs.size)
    (hc : ∀ (k : Nat) (a : A), l[k]? = some a → cs[k]? = some (a.den (first P.globals.size)) ∧ a.ok (first P.globals.size).dom) : Rel P.globals.size (first P.globals.size) (start g ty l P.globals.size) w := by
  have one : ∀ {j b}, (start g ty l P.globals.size).t.get j = some b → j = g ∧ b = .cells ty (Tr.ofL .lf 0 l) l.length none false := fun {j b} h => by
    have h' : (Tr.lf.put g (some (.cells ty (Tr.ofL .lf 0 l) l.length none false))).get j = some b := h
    rw [Tr.get_put] at h'
    by_cases e : j = g
    · rw [if_pos e] at h'; exact ⟨e, (some_inj h').symm⟩
    · rw [if_neg e, Tr.get_lf] at h'; cases h'
  refine ⟨fun j b h => ?_, fun j b h => ?_, fun j b i c h1 h2 _ => (one h1).1.trans (one h2).1.symm, fun j hj => ⟨hj, rfl, rfl⟩⟩
  · obtain ⟨rfl, rfl⟩ := one h
    refine ⟨cs, fr.1, fr.2, hb, ?_, fun k a ha => ?_, (fun x hx => by cases hx), (fun hx => by cases hx), (fun _ hx => by cases hx)⟩
    · show 0 + l.length + 0 ≤ cs.size
      omega
    · rw [Tr.get_ofL] at ha
      split at ha
      · show cs[0 + k]? = _ ∧ _
        rw [Nat.zero_add]
        exact hc k a (by simpa using ha)
      · rw [Tr.get_lf] at ha; cases ha
  · obtain ⟨rfl, _⟩ := one h
    exact hg
theorem start_runs (hm : P.follows .mixedOrders = true) (hX : Told P X) {n f g : Nat} {l : List A} (hr : ∀ ty, runs (tabOf P) X n f (start g ty l P.globals.size) = true) {w : World} {cs : Array Value} {fr : Nat × Nat} {ty : TypeId} (hg : g < P.globals.size)
    (hb : w.heap[g]? = some (.cells cs ty fr)) (hl : l.length ≤ cs.size) (hc : ∀ (k : Nat) (a : A), l[k]? = some a → cs[k]? = some (a.den (first P.globals.size)) ∧ a.ok (first P.globals.size).dom) :
    Calls P f #[] w fun e v => e = .returned (.bool true) ∧ Below w.heap.size w v := by
  refine runs_calls hm hX (hr ty) (start_rel hg hb hl hc) (fun j h1 h2 => ?_) fun j b h => ?_
  · have h1' : P.globals.size ≤ j := h1
    have h2' : j < P.globals.size := h2
    omega
  · have h' : (Tr.lf.put g (some (.cells ty (Tr.ofL .lf 0 l) l.length none false))).get j = some b := h
    rw [Tr.get_put] at h'
    by_cases e : j = g
    · rw [if_pos e] at h'; rw [← some_inj h']; rfl
    · rw [if_neg e, Tr.get_lf] at h'; cases h'
end
end Go.Proofs.YtibompboimeedaaGreatDoor.Ev
