/-
  How a closed statement's row is closed; what a card asks of the program's own tables.
-/
import Derived.Test.YtibompboimeedaaGreatDoorEvRun
import Derived.Test.YtibompboimeedaaGreatDoorCards
import Derived.Test.YtibompboimeedaaGreatDoorTie
import Derived.Carry
import Derived.ChangeOld
import Derived.ClosedOfChecked
namespace Go.Proofs.YtibompboimeedaaGreatDoor
open Go.ChangeShapes Go.WideShapes Go.ChangeAt Go.RowKit

theorem ownNone : ownKnob Tryz.prog.godebug = none := by kernel_rfl
def spanCells : Array Value := #[.int .i32 (-2147483648), .int .i32 31, .int .i64 0, .int .i32 127, .int .i32 159, .int .i64 0, .int .i32 768, .int .i32 879, .int .i64 0, .int .i32 4352, .int .i32 4447, .int .i64 2, .int .i32 8203, .int .i32 8207, .int .i64 0, .int .i32 11904, .int .i32 12350, .int .i64 2, .int .i32 12353, .int .i32 13311, .int .i64 2, .int .i32 13312, .int .i32 19903, .int .i64 2, .int .i32 19968, .int .i32 40959, .int .i64 2, .int .i32 40960, .int .i32 42191, .int .i64 2, .int .i32 44032, .int .i32 55203, .int .i64 2, .int .i32 55296, .int .i32 57343, .int .i64 0, .int .i32 63744, .int .i32 64255, .int .i64 2, .int .i32 65024, .int .i32 65039, .int .i64 0, .int .i32 65072, .int .i32 65135, .int .i64 2, .int .i32 65280, .int .i32 65376, .int .i64 2, .int .i32 65504, .int .i32 65510, .int .i64 2, .int .i32 127744, .int .i32 128591, .int .i64 2, .int .i32 129280, .int .i32 129535, .int .i64 2, .int .i32 131072, .int .i32 262141, .int .i64 2, .int .i32 1114112, .int .i32 2147483647, .int .i64 0]
/-- The settled world, the table as its initialiser lays it. -/
noncomputable def laidWorld (os : Os) : World :=
  { World.holding Tryz.prog os ⟨#[], #[], []⟩ with heap := (World.holding Tryz.prog os ⟨#[], #[], []⟩).heap.modify 0 fun
      | .cells _ t frozen => .cells spanCells t frozen
      | o => o }
theorem laidOut : laidOutB Tryz.prog = true := by kernel_rfl
section
variable {H : Type} {enc : TypeId × Value → H} {W W' : World}
/-- All arguments read as they did, where all that was there stands. -/
theorem trodAll_below (hb : Below W.heap.size W W') : ∀ {ts : List TypeId} {vs : List Value} {ds : List (DataW H)} {ps : List MemPlace}, (ts.all fun t => Tryz.prog.readableRec t && decide (t < Tryz.prog.types.size)) = true →
    DataW.TrodAll enc Tryz.prog W 0 (fun _ => true) true ts vs ds ps → DataW.TrodAll enc Tryz.prog W' 0 (fun b => decide (b < W.heap.size)) true ts vs ds ps := by
  intro ts
  induction ts with
  | nil =>
    intro vs ds ps _ h
    obtain ⟨rfl, rfl, rfl⟩ := trodAll_nil h
    exact trodAll_mk0
  | cons t ts ih =>
    intro vs ds ps ht h
    have hlt := DataW.TrodAll.lt h
    simp only [List.all_cons, Bool.and_eq_true, decide_eq_true_eq] at ht
    obtain ⟨v, vs', d, ds', p, q, rfl, rfl, rfl, h0, hr⟩ := trodAll_cons h
    exact trodAll_cons_mk (Below.trod laidOut ht.1.1 ht.1.2 h0 hb (fun x hx => hlt x (List.mem_append_left _ hx))) (ih ht.2 hr)

set_option maxRecDepth 100000 in
/-- HOW A STATEMENT's ROW IS CLOSED. -/
theorem close {s : ChangeSpec} {f : Func} {args : Array Value} {ds gs : List (DataW H)} {before : List MemPlace} (hv : s.vars = [])
    (hW : DataW.Whole enc Tryz.prog f.params.toList s.vars false W args.toList ds gs before) (hfn : (s.fn H (ds ++ [])).results = [.lit (.bool true)] ∧ (s.fn H (ds ++ [])).args = ds ∧ (s.fn H (ds ++ [])).vars = []) (hres : f.resultTypes = #[4])
    (hts : (f.params.toList.all fun t => Tryz.prog.readableRec t && decide (t < Tryz.prog.types.size)) = true) (hb : Below W.heap.size W W') :
    s.post enc Tryz.prog f false true false false W args (.bool true) W' := by
  have hW' := hW
  obtain ⟨p, q, hA, hV, rfl, _, _⟩ := hW
  rw [hv] at hV
  obtain ⟨rfl, rfl⟩ := trodVars_none hV
  obtain ⟨h1, h2, h3⟩ := hfn
  refine ⟨ds, [], p ++ [], [], p, [], hW', ?_, ?_, ?_, hb.frame _, fun h => by cases h⟩
  · rw [h1, hres]
    exact trodAll_cons_mk (shut_bool Tryz.underlying4 _) trodAll_mk0
  · rw [h2]
    exact trodAll_below hb hts hA
  · rw [h3, hv]
    rfl
end
namespace Sum
theorem and_mk {a b : Bool} (h1 : a = true) (h2 : b = true) : (a && b) = true := by rw [h1, h2]; rfl
set_option maxRecDepth 100000 in
theorem tables : laidOutB Tryz.checked.prog = true ∧ mapsRowed Tryz.checked.prog = true ∧ Tryz.checked.prog.plainKeys = true :=
  Go.ClosedOfChecked.closed_of_checked Tryz.checked (by kernel_rfl) (by kernel_rfl) (by kernel_rfl)
set_option maxRecDepth 100000 in
theorem mayEnter : Tryz.checked.prog.mayEnter = true := by kernel_rfl
set_option maxRecDepth 100000 in
theorem lifts : (Rows.paneNoneRow.lifted == Tryz.checked.prog.liftsFinal) = true := by kernel_rfl
set_option maxRecDepth 100000 in
theorem make : (Tryz.checked.prog.make == some Rows.paneNoneRow.make) = true := by kernel_rfl
end Sum
end Go.Proofs.YtibompboimeedaaGreatDoor
