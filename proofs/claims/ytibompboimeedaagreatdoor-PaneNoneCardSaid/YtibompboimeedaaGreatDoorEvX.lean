/-
  Three functions of the library's whose answer the evaluator is told.
-/
import Derived.Test.YtibompboimeedaaGreatDoorEvD
namespace Go.Proofs.YtibompboimeedaaGreatDoor.Ev
noncomputable def idxB : List UInt8 → Nat → Nat → Int
  | [], _, _ => -1
  | b :: l, c, k => bif b.toNat.beq c then (k : Int) else idxB l c (k + 1)
/-- Cells that are bytes. -/
noncomputable def bytesOf : List A → Option (List UInt8)
  | [] => some []
  | .i .u8 (.ofNat n) :: l => cond (Nat.blt n 256) (match bytesOf l with
    | some r => some (UInt8.ofNat n :: r)
    | none => none) none
  | _ => none
/-- (*strings.Builder).copyCheck, of a Builder that stands alone. -/
noncomputable def xCheck (bt : Nat) (args : List A) (h : H) : Option (A × H) :=
  match args with
  | [.p (some (j, 0))] => (match h.t.get j with
    | some (.cells e tr 2 none true) => cond (Nat.beq e bt) (match tr.get 0 with
      | some (.p none) => (match storeC h j 0 [.p (some (j, 0))] with
        | some k => some (.tup [], k)
        | none => none)
      | some (.p (some (i, 0))) => cond (Nat.beq i j) (some (.tup [], h)) none
      | _ => none) none
    | _ => none)
  | _ => none
/-- (*strings.Builder).String. -/
noncomputable def xString (bt u8 : Nat) (args : List A) (h : H) : Option (A × H) :=
  match args with
  | [.p (some (j, 0))] => (match h.t.get j with
    | some (.cells e tr 2 none true) => cond (Nat.beq e bt) (match tr.get 1 with
      | some (.sl none 0 0 none) => some (.s [], h)
      | some (.sl (some (i, o)) (n + 1) lo c) => (match h.t.get i with
        | some (.cells e2 tr2 E z true) => cond (and (Nat.beq e2 u8) (and (Nat.blt n 9223372036854775807) (and (Nat.ble (n + 1) lo) (Nat.ble (o + (n + 1)) E)))) (match cellsOf h 1 (n + 1) (.sl (some (i, o)) (n + 1) lo c) with
          | some l => (match bytesOf l with
            | some b => some (.s b, h.turn i (.cells e2 tr2 E z false))
            | none => none)
          | none => none) none
        | _ => none)
      | _ => none) none
    | _ => none)
  | _ => none
noncomputable def xIndex (args : List A) (h : H) : Option (A × H) :=
  match args with
  | [.s l, .i .u8 (.ofNat n)] => cond (Nat.blt n 256) (some (.i .i64 (idxB l n 0), h)) none
  | _ => none
/-- The cells of a list, from k on. -/
noncomputable def holds : List A → Tr A → Nat → Bool
  | [], _, _ => true
  | x :: l, tr, k => match tr.get k with
    | some a => and (eqA a x) (holds l tr (k + 1))
    | none => false
/-- A function that answers true wherever the package's variable g holds these cells. -/
noncomputable def xTrue (g : Nat) (l : List A) (args : List A) (h : H) : Option (A × H) :=
  match args with
  | [] => (match h.t.get g with
    | some (.cells _ tr _ _ _) => cond (holds l tr 0) (some (.b true, h)) none
    | _ => none)
  | _ => none
def isF : Option Nat → Nat → Bool
  | some b, f => Nat.beq f b
  | none, _ => false
noncomputable def xs (bt u8 cc st ib : Nat) (bg : Option Nat) (g : Nat) (l : List A) (f : Nat) : Option (List A → H → Option (A × H)) :=
  cond (Nat.beq f cc) (some (xCheck bt)) (cond (Nat.beq f st) (some (xString bt u8)) (cond (Nat.beq f ib) (some xIndex) (cond (isF bg f) (some (xTrue g l)) none)))
end Go.Proofs.YtibompboimeedaaGreatDoor.Ev
