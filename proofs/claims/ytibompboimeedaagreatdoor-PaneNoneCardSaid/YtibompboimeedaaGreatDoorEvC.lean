/-
  The evaluator: what it reckons.
-/
import Derived.Test.YtibompboimeedaaGreatDoorEvB
import GoSem.Dispatch
namespace Go.Proofs.YtibompboimeedaaGreatDoor.Ev

/-- What is asked of a type: its shape, its cells, its bytes, its zero cells; are its values, if they are structs, equal where their cells are. -/
structure TI where
  d : TypeDesc
  size : Nat
  bytes : Nat
  zero : Option (List A)
  eq : List Nat

noncomputable def abs1 : Value → Option A
  | .bool x => some (.b x)
  | .int k n => some (.i k n)
  | .string s => some (.s s.data.toList)
  | .pointer none => some (.p none)
  | .slice none 0 0 => some (.sl none 0 0 none)
  | .nilFunc => some .nf
  | .nilIface => some .ni
  | _ => none
noncomputable def absL : List Value → Option (List A)
  | [] => some []
  | v :: l => match abs1 v with
    | some a => match absL l with
      | some r => some (a :: r)
      | none => none
    | none => none
noncomputable def absV : Value → Option A
  | .agg ⟨l⟩ => (absL l).map .agg
  | .tuple ⟨l⟩ => (absL l).map .tup
  | v => abs1 v
noncomputable def A.cells : A → List A
  | .agg l => l
  | a => [a]
noncomputable def A.one : A → Bool
  | .agg _ | .tup _ => false
  | _ => true
noncomputable def isAggD : TypeDesc → Bool
  | .struct _ | .array _ _ => true
  | _ => false
def kindD : Option TypeDesc → Nat
  | some .bool => 1
  | some (.int _) => 2
  | some .string => 3
  | _ => 0
def eqGo (P : Program) : List Field → Nat → Option (List Nat)
  | [], _ => some []
  | f :: l, k => cond (and (and (f.name != "_") (Nat.beq f.offset k)) ((P.info? f.type).elim false fun i => Nat.beq i.size 1)) (match kindD (P.underlying f.type) with
    | 0 => none
    | n + 1 => (match eqGo P l (k + 1) with
      | some r => some ((n + 1) :: r)
      | none => none)) none
/-- The kinds of a struct's cells, if its values are equal where their cells are. -/
def eqType (P : Program) (t : TypeId) : List Nat :=
  match P.underlying t with
  | some (.struct fs) => cond (and (not (P.stoodInHeld t)) (not (P.eqGuardType P.depth t))) ((eqGo P fs.toList 0).getD []) []
  | _ => []
noncomputable def tiOf (P : Program) (t : TypeId) : Option TI :=
  match P.info? t with
  | none => none
  | some i => match P.underlying t with
    | none => none
    | some d => some ⟨d, i.size, i.bytes, i.zero.bind fun v => match v with | .agg ⟨l⟩ => absL l | v => (abs1 v).map fun a => [a], eqType P t⟩
structure FI where
  fn : Func
  ok : Bool
structure Tab where
  ty : Tr (Option TI)
  fn : Tr FI
  G : Nat
noncomputable def tabT (P : Program) : Nat → Nat → Tr (Option TI) → Tr (Option TI)
  | 0, _, t => t
  | n + 1, k, t => tabT P n (k + 1) (t.put k (some (tiOf P k)))
noncomputable def fiOf (f : Func) : FI := ⟨f, !(f.name == "runtime.NumGoroutine")⟩
noncomputable def tabOf (P : Program) : Tab := ⟨tabT P P.types.size 0 .lf, Tr.ofL .lf 0 (P.funcs.toList.map fiOf), P.globals.size⟩
noncomputable def Tab.t (T : Tab) (t : TypeId) : Option TI := match T.ty.get t with | some x => x | none => none

section
variable (T : Tab) (env : Tr A) (h : H)
/-- An operand. -/
noncomputable def opd (T : Tab) (env : Tr A) (x : Operand) : Option A :=
  @Operand.rec (fun _ => Tab → Tr A → Option A) (fun t _ env => env.get t) (fun v _ _ => absV v) (fun g T _ => @Bool.rec (fun _ => Option A) none (some (.p (some (g, 0)))) (Nat.blt g T.G)) (fun f _ _ => some (.fn f [] [])) x T env
noncomputable def opds : List Operand → Option (List A)
  | [] => some []
  | x :: l => match opd T env x with
    | some a => match opds l with
      | some r => some (a :: r)
      | none => none
    | none => none
noncomputable def parts : List (Nat × Operand) → Option (List (Nat × A))
  | [] => some []
  | (i, x) :: l => match opd T env x with
    | some a => match parts l with
      | some r => some ((i, a) :: r)
      | none => none
    | none => none
/-- A Sem that asks of the program alone. -/
noncomputable def clo {α : Type} : Nat → Sem α → Option α
  | 0, _ => none
  | n + 1, s => match s with
    | .pure a => some a
    | .mark _ k => clo n k
    | _ => none
noncomputable def nth {α : Type} (l : List α) : Nat → Option α := List.rec (fun _ => none) (fun a _ ih k => cond (Nat.beq k 0) (some a) (ih (Nat.sub k 1))) l
noncomputable def rd (t : Tr A) : Nat → Nat → Option (List A)
  | _, 0 => some []
  | o, n + 1 => match t.get o with
    | some a => match rd t (o + 1) n with
      | some l => some (a :: l)
      | none => none
    | none => none
noncomputable def wrC (t : Tr A) : Nat → List A → Tr A
  | _, [] => t
  | o, a :: l => wrC (t.put o (some a)) (o + 1) l
noncomputable def allOne : List A → Bool
  | [] => true
  | a :: l => a.one && allOne l
noncomputable def fillA (place : Nat → Option (Nat × Nat)) (cells : List A) : List (Nat × A) → Option (List A)
  | [] => some cells
  | (i, v) :: rest => match place i with
    | none => none
    | some (off, size) =>
      bif v.cells.length.beq size && (off + size).ble cells.length && allOne v.cells then fillA place (cells.take off ++ v.cells ++ cells.drop (off + size)) rest
      else none
noncomputable def repA (z : List A) : Nat → List A
  | 0 => []
  | n + 1 => z ++ repA z n
noncomputable def eqB : List UInt8 → List UInt8 → Bool
  | [], [] => true
  | a :: l, b :: r => a.toNat.beq b.toNat && eqB l r
  | _, _ => false
noncomputable def eqI : IntKind → Int → IntKind → Int → Bool := fun _ a _ b => match a, b with
  | .ofNat a, .ofNat b => a.beq b
  | .negSucc a, .negSucc b => a.beq b
  | _, _ => false
/-- Are two plain cells equal? -/
noncomputable def eq1 (n : Nat) (a b : A) : Option Bool :=
  match a with
  | .b x => (match b with
    | .b y => cond (Nat.beq n 1) (some (x == y)) none
    | _ => none)
  | .i k x => (match b with
    | .i l y => cond (and (Nat.beq n 2) (decide (k = l))) (some (eqI k x l y)) none
    | _ => none)
  | .s x => (match b with
    | .s y => cond (Nat.beq n 3) (some (eqB x y)) none
    | _ => none)
  | _ => none
noncomputable def eqC : List Nat → List A → List A → Option Bool
  | [], [], [] => some true
  | n :: ns, a :: l, b :: r => (match eq1 n a b with
    | some true => eqC ns l r
    | some false => some false
    | none => none)
  | _, _, _ => none
/-- The numbers of a kind below this one are themselves. -/
def lim : IntKind → Nat
  | .i8 => 128
  | .u8 => 256
  | .i16 => 32768
  | .u16 => 65536
  | .i32 => 2147483648
  | .u32 => 4294967296
  | .i64 => 9223372036854775808
  | .u64 => 18446744073709551616
def signedK : IntKind → Bool
  | .i8 | .i16 | .i32 | .i64 => true
  | _ => false
def wrapF (k : IntKind) (n : Int) : Int :=
  match n with
  | .ofNat m => cond (Nat.blt m (lim k)) n (k.wrap n)
  | .negSucc m => cond (and (signedK k) (Nat.blt m (lim k))) n (k.wrap n)
def ltI : Int → Int → Bool
  | .ofNat a, .ofNat b => Nat.blt a b
  | .negSucc _, .ofNat _ => true
  | .ofNat _, .negSucc _ => false
  | .negSucc a, .negSucc b => Nat.blt b a
def eqZ : Int → Int → Bool
  | .ofNat a, .ofNat b => Nat.beq a b
  | .negSucc a, .negSucc b => Nat.beq a b
  | _, _ => false
noncomputable def intA (op : BinOp) (t : TypeId) (k : IntKind) (a : Int) (l : IntKind) (b : Int) : Option A :=
  let slow : Option A := match clo 3 (binOp op t (.int k a) (.int l b)) with
    | some v => abs1 v
    | none => none
  match op with
  | .shl | .shr => slow
  | op => cond (Nat.beq (lim k) (lim l)) (match op with
    | .add => some (.i k (wrapF k (Int.add a b)))
    | .sub => some (.i k (wrapF k (Int.sub a b)))
    | .mul => some (.i k (wrapF k (Int.mul a b)))
    | .quo => match a, b with
      | .ofNat x, .ofNat (y + 1) => some (.i k (wrapF k (.ofNat (Nat.div x (y + 1)))))
      | _, _ => slow
    | .eql => some (.b (eqZ a b))
    | .neq => some (.b (not (eqZ a b)))
    | .lss => some (.b (ltI a b))
    | .leq => some (.b (not (ltI b a)))
    | .gtr => some (.b (ltI b a))
    | .geq => some (.b (not (ltI a b)))
    | _ => slow) none
noncomputable def strA (op : BinOp) (a b : List UInt8) : Option A :=
  match op with
  | .eql => some (.b (eqB a b))
  | .neq => some (.b (not (eqB a b)))
  | .add => cond (Nat.ble (Nat.add a.length b.length) 1000000) (some (.s (a ++ b))) none
  | _ => none
def eqNe (op : BinOp) (x : Bool) : Option A :=
  match op with
  | .eql => some (.b x)
  | .neq => some (.b (not x))
  | _ => none
def isBoolD : Option TI → Bool
  | some ⟨.bool, _, _, _, _⟩ => true
  | _ => false
def isPtrD : Option TI → Bool
  | some ⟨.pointer _, _, _, _, _⟩ => true
  | _ => false
def isSlD : Option TI → Bool
  | some ⟨.slice _, _, _, _, _⟩ => true
  | _ => false
def isFnD : Option TI → Bool
  | some ⟨.func _ _ _, _, _, _, _⟩ => true
  | _ => false
/-- A place beside nil. -/
def nilEq (op : BinOp) : Option (Nat × Nat) → Option (Nat × Nat) → Option A
  | none, none => eqNe op true
  | some _, none => eqNe op false
  | none, some _ => eqNe op false
  | _, _ => none
noncomputable def aggA (op : BinOp) (t : TypeId) (a b : List A) : Option A :=
  match T.t t with
  | none => none
  | some ti => match ti.eq with
    | [] => none
    | n :: ns => (match eqC (n :: ns) a b with
      | some x => eqNe op x
      | none => none)
noncomputable def binA (op : BinOp) (t : TypeId) (x y : A) : Option A :=
  match x with
  | .i k a => (match y with
    | .i l b => intA op t k a l b
    | _ => none)
  | .s a => (match y with
    | .s b => strA op a b
    | _ => none)
  | .b a => (match y with
    | .b b => cond (isBoolD (T.t t)) (eqNe op (a == b)) none
    | _ => none)
  | .p a => (match y with
    | .p b => cond (isPtrD (T.t t)) (nilEq op a b) none
    | _ => none)
  | .sl a _ _ _ => (match y with
    | .sl b _ _ _ => cond (isSlD (T.t t)) (nilEq op a b) none
    | _ => none)
  | .fn _ _ _ => (match y with
    | .nf => cond (isFnD (T.t t)) (eqNe op false) none
    | _ => none)
  | .yl _ => (match y with
    | .nf => cond (isFnD (T.t t)) (eqNe op false) none
    | _ => none)
  | .nf => (match y with
    | .nf => cond (isFnD (T.t t)) (eqNe op true) none
    | _ => none)
  | .agg a => (match y with
    | .agg b => aggA T op t a b
    | _ => none)
  | _ => none
/-- A bound of a slice. -/
noncomputable def bnd (x : Option A) (least most dflt : Nat) : Option Nat :=
  match x with
  | none => some dflt
  | some (.i _ (.ofNat n)) => bif least.ble n && n.ble most then some n else none
  | _ => none
noncomputable def opdO : Option Operand → Option (Option A)
  | none => some none
  | some x => (opd T env x).map some
/-- The three bounds of a cut. -/
noncomputable def bnds (len cap : Nat) (lo hi mx : Option A) : Option (Nat × Nat × Nat) :=
  match bnd mx 0 cap cap with
  | none => none
  | some m => match bnd hi 0 m len with
    | none => none
    | some u => match bnd lo 0 u 0 with
      | none => none
      | some l => match mx, hi with
        | some _, none => none
        | _, _ => some (l, u, m)
noncomputable def sliceArr (n e : Nat) (j o : Nat) (lo hi mx : Option A) : Option A :=
  match T.t e with
  | none => none
  | some te => match bnds n n lo hi mx with
    | none => none
    | some (l, u, m) => some (.sl (some (j, cond (Nat.beq m l) o (Nat.add o (Nat.mul l te.size)))) (Nat.sub u l) (Nat.sub m l) none)
def shiftR (r : Option (Nat × Nat)) (d : Nat) : Option (Nat × Nat) := match r with
  | none => none
  | some (j, o) => some (j, Nat.add o d)
noncomputable def sliceSl (e : Nat) (r : Option (Nat × Nat)) (len cap : Nat) (c : Option Nat) (lo hi mx : Option A) : Option A :=
  match T.t e with
  | none => none
  | some te => match bnds len cap lo hi mx with
    | none => none
    | some (l, u, m) => match (match mx with | some _ => none | none => c) with
      | none => some (.sl (cond (Nat.beq m l) r (shiftR r (Nat.mul l te.size))) (Nat.sub u l) (Nat.sub m l) none)
      | some c => cond (Nat.blt l m) (some (.sl (shiftR r (Nat.mul l te.size)) (Nat.sub u l) (Nat.sub m l) (some c))) none
noncomputable def sliceStr (s : List UInt8) (lo hi mx : Option A) : Option A :=
  match mx with
  | some _ => none
  | none => match bnds s.length s.length lo hi none with
    | none => none
    | some (l, u, _) => some (.s ((s.take u).drop l))
noncomputable def sliceA (t : TypeId) (x : A) (lo hi mx : Option A) : Option A :=
  match T.t t with
  | none => none
  | some ti => match x with
    | .p r => (match ti.d, r with
      | .array n e, some (j, o) => sliceArr T n e j o lo hi mx
      | _, _ => none)
    | .sl r len cap c => (match ti.d with
      | .slice e => sliceSl T e r len cap c lo hi mx
      | _ => none)
    | .s s => (match ti.d with
      | .string => sliceStr s lo hi mx
      | _ => none)
    | _ => none
noncomputable def sliceO (t : TypeId) (x : Operand) (lo hi mx : Option Operand) : Option A :=
  match opd T env x, opdO T env lo, opdO T env hi, opdO T env mx with
  | some a, some l, some u, some m => sliceA T t a l u m
  | _, _, _, _ => none
noncomputable def pickA (c a b : Operand) : Option A :=
  match opd T env c with
  | some (.b x) => cond x (opd T env a) (opd T env b)
  | _ => none
noncomputable def placesA : List Field → Option (List (Nat × Nat))
  | [] => some []
  | f :: l => (match T.t f.type with
    | some tf => (match placesA l with
      | some r => some ((f.offset, tf.size) :: r)
      | none => none)
    | none => none)
noncomputable def buildA (t : TypeId) (ps : List (Nat × Operand)) : Option A :=
  match T.t t with
  | none => none
  | some ti => match ti.zero with
    | none => none
    | some z => match parts T env ps with
      | none => none
      | some l => match ti.d with
        | .struct fs => (match placesA T fs.toList with
          | some pl => (fillA (nth pl) z l).map .agg
          | none => none)
        | .array _ e => (match T.t e with
          | some te => (fillA (fun i => some (i * te.size, te.size)) z l).map .agg
          | none => none)
        | _ => none
def isThere : A → Bool
  | .p (some _) => true
  | .fn _ _ _ => true
  | .yl _ => true
  | _ => false
noncomputable def nilA (x : Operand) : Option A :=
  match opd T env x with
  | some a => cond (isThere a) (some a) none
  | none => none
noncomputable def binO (op : BinOp) (t : TypeId) (x y : Operand) : Option A :=
  match opd T env x with
  | none => none
  | some a => match opd T env y with
    | none => none
    | some b => binA T op t a b
noncomputable def unA (op : UnOp) : A → Option A
  | .i k n => (match clo 3 (Op.unary op (.int k n)) with
    | some v => abs1 v
    | none => none)
  | .b y => (match op with
    | .not => some (.b (not y))
    | _ => none)
  | _ => none
noncomputable def unO (op : UnOp) (x : Operand) : Option A :=
  match opd T env x with
  | none => none
  | some a => unA op a
noncomputable def convA (d : TypeDesc) : A → Option A
  | .i _ n => (match d with
    | .int k => some (.i k (wrapF k n))
    | .string => some (.s (Utf8.encode n).data.toList)
    | _ => none)
  | .s l => (match d with
    | .string => some (.s l)
    | _ => none)
  | _ => none
noncomputable def convO (s t : TypeId) (x : Operand) : Option A :=
  match opd T env x with
  | none => none
  | some a => match T.t s with
    | none => none
    | some _ => match T.t t with
      | none => none
      | some ti => convA ti.d a
noncomputable def fieldOf (s f : Nat) : Option (Nat × TI) :=
  match T.t s with
  | none => none
  | some ti => match ti.d with
    | .struct fs => (match nth fs.toList f with
      | some fd => (match T.t fd.type with
        | some tf => some (fd.offset, tf)
        | none => none)
      | none => none)
    | _ => none
noncomputable def fAddrA (s : TypeId) (x : Operand) (f : Nat) : Option A :=
  match opd T env x with
  | some (.p r) => (match r with
    | some (j, o) => (match fieldOf T s f with
      | some (d, tf) => cond (Nat.beq tf.size 0) none (some (.p (some (j, Nat.add o d))))
      | none => none)
    | none => none)
  | _ => none
/-- A part of an aggregate's cells. -/
noncomputable def partA (ti : TI) (l : List A) (off : Nat) : Option A :=
  cond (isAggD ti.d) (some (.agg ((l.drop off).take ti.size))) (nth l off)
noncomputable def fieldA (s : TypeId) (x : Operand) (f : Nat) : Option A :=
  match opd T env x with
  | some (.agg l) => (match fieldOf T s f with
    | some (d, tf) => partA tf l d
    | none => none)
  | _ => none
/-- An index. -/
noncomputable def ixO (ix : Operand) : Option Nat :=
  match opd T env ix with
  | some (.i _ n) => (match n with
    | .ofNat i => some i
    | .negSucc _ => none)
  | _ => none
noncomputable def eAddr (e n j o i : Nat) : Option A :=
  match T.t e with
  | some te => cond (Nat.blt i n) (some (.p (some (j, Nat.add o (Nat.mul i te.size))))) none
  | none => none
noncomputable def iAddrA (t : TypeId) (x ix : Operand) : Option A :=
  match T.t t with
  | none => none
  | some ti => match ixO T env ix with
    | none => none
    | some i => match opd T env x with
      | some (.p r) => (match ti.d, r with
        | .array n e, some (j, o) => eAddr T e n j o i
        | _, _ => none)
      | some (.sl r n _ _) => (match ti.d, r with
        | .slice e, some (j, o) => eAddr T e n j o i
        | _, _ => none)
      | _ => none
noncomputable def indexA (t : TypeId) (x ix : Operand) : Option A :=
  match T.t t with
  | none => none
  | some ti => match ixO T env ix with
    | none => none
    | some i => match opd T env x with
      | some (.s l) => (match ti.d with
        | .string => (match nth l i with
          | some b => some (.i .u8 b.toNat)
          | none => none)
        | _ => none)
      | some (.agg l) => (match ti.d with
        | .array n e => (match T.t e with
          | some te => cond (Nat.blt i n) (partA te l (Nat.mul i te.size)) none
          | none => none)
        | _ => none)
      | _ => none
noncomputable def extrA (x : Operand) (ix : Nat) : Option A :=
  match opd T env x with
  | some (.tup l) => nth l ix
  | _ => none
noncomputable def mkFn (f : Fn) (fs cs : List Operand) : Option A :=
  match f with
  | .func f => (match opds T env fs with
    | some a => (match opds T env cs with
      | some b => some (.fn f a b)
      | none => none)
    | none => none)
  | _ => none
noncomputable def lenA (t : TypeId) (x : Operand) : Option A :=
  match T.t t with
  | none => none
  | some ti => match opd T env x with
    | none => none
    | some a => match ti.d with
      | .string => (match a with
        | .s l => some (.i .i64 l.length)
        | _ => none)
      | .array n _ => some (.i .i64 n)
      | .slice _ => (match a with
        | .sl _ n _ _ => some (.i .i64 n)
        | _ => none)
      | _ => none
noncomputable def capA (t : TypeId) (x : Operand) : Option A :=
  match T.t t with
  | none => none
  | some ti => match opd T env x with
    | some (.sl _ _ c none) => (match ti.d with
      | .slice _ => some (.i .i64 c)
      | _ => none)
    | _ => none
noncomputable def mmA (mx : Bool) (x y : Operand) : Option A :=
  match opd T env x with
  | some (.i k a) => (match opd T env y with
    | some (.i _ b) => some (.i k (cond (cond mx (ltI a b) (ltI b a)) b a))
    | _ => none)
  | _ => none
/-- What a builtin that does not ask of the heap answers. -/
noncomputable def biA (b : Builtin) (ts : List TypeId) (xs : List Operand) : Option A :=
  match b with
  | .len => (match ts, xs with
    | t :: _, x :: _ => lenA T env t x
    | _, _ => none)
  | .cap => (match ts, xs with
    | t :: _, x :: _ => capA T env t x
    | _, _ => none)
  | .min => (match xs with
    | [x, y] => mmA T env false x y
    | _ => none)
  | .max => (match xs with
    | [x, y] => mmA T env true x y
    | _ => none)
  | _ => none
noncomputable def biC (c : Call) : Option A :=
  match c.callee with
  | .builtin b => biA T env b c.argTypes.toList c.args.toList
  | _ => none
end
/-- Operations that do not ask of the heap. -/
noncomputable def pureA : Op → Tab → Tr A → Option A :=
  @Op.rec (fun _ => Tab → Tr A → Option A)
    (fun x T env => opd T env x)
    (fun x T env => opd T env x)
    (fun c a b T env => pickA T env c a b)
    (fun _ => fun _ _ => none)
    (fun _ _ => fun _ _ => none)
    (fun t ps T env => buildA T env t ps.toList)
    (fun _ _ _ => fun _ _ => none)
    (fun _ _ _ _ => fun _ _ => none)
    (fun _ _ => fun _ _ => none)
    (fun _ _ _ => fun _ _ => none)
    (fun _ => fun _ _ => none)
    (fun _ => fun _ _ => none)
    (fun x T env => nilA T env x)
    (fun op t x y _u T env => binO T env op t x y)
    (fun op _t x T env => unO T env op x)
    (fun s t x T env => convO T env s t x)
    (fun _ _ => fun _ _ => none)
    (fun _ _ => fun _ _ => none)
    (fun f fs cs T env => mkFn T env f fs.toList cs.toList)
    (fun _ _ => fun _ _ => none)
    (fun _ _ => fun _ _ => none)
    (fun _ _ _ => fun _ _ => none)
    (fun t x lo hi mx T env => sliceO T env t x lo hi mx)
    (fun s x f T env => fAddrA T env s x f)
    (fun s x f T env => fieldA T env s x f)
    (fun t x ix T env => iAddrA T env t x ix)
    (fun t x ix T env => indexA T env t x ix)
    (fun _ _ _ _ => fun _ _ => none)
    (fun _ _ _ _ => fun _ _ => none)
    (fun _ _ _ => fun _ _ => none)
    (fun _ _ _ _ => fun _ _ => none)
    (fun _ _ => fun _ _ => none)
    (fun _ _ => fun _ _ => none)
    (fun _ => fun _ _ => none)
    (fun _ _ _ _ => fun _ _ => none)
    (fun x ix T env => extrA T env x ix)
    (fun c T env => biC T env c)
    (fun _ => fun _ _ => none)
    (fun _ => fun _ _ => none)
    (fun _ => fun _ _ => none)
    (fun _ _ => fun _ _ => none)
    (fun _ _ _ => fun _ _ => none)
    (fun _ _ => fun _ _ => none)
section
variable (T : Tab) (env : Tr A) (h : H)
/-- Reads. -/
noncomputable def cellA (ti : TI) (tr : Tr A) (o : Nat) : Option A :=
  cond (isAggD ti.d) ((rd tr o ti.size).map .agg) (tr.get o)
noncomputable def loadA (t : TypeId) : A → Option A
  | .p r => (match r with
    | some (j, o) => (match h.t.get j with
      | some (.cells _ tr _ _ _) => (match T.t t with
        | some ti => cellA ti tr o
        | none => none)
      | _ => none)
    | none => none)
  | _ => none
/-- New blocks, whatever the heap; n: the block's number. -/
noncomputable def allocA (n : Nat) (e : TypeId) : Option (A × Blk) :=
  match T.t e with
  | none => none
  | some ti => match ti.zero with
    | none => none
    | some z => some (.p (some (n, 0)), .cells e (Tr.ofL .lf 0 z) z.length none true)
noncomputable def boxA (n : Nat) (e : TypeId) (x : Operand) : Option (A × Blk) :=
  match opd T env x with
  | none => none
  | some a => cond (allOne a.cells) (some (.p (some (n, 0)), .cells e (Tr.ofL .lf 0 a.cells) a.cells.length none true)) none
noncomputable def elemT (t : TypeId) : Option (Nat × TI) :=
  match T.t t with
  | none => none
  | some ti => match ti.d with
    | .slice e => (match T.t e with
      | some te => some (e, te)
      | none => none)
    | _ => none
noncomputable def bslA (n : Nat) (t : TypeId) (len : Nat) (ps : List (Nat × Operand)) : Option (A × Blk) :=
  match elemT T t with
  | none => none
  | some (e, te) => match parts T env ps with
    | none => none
    | some l => match te.zero with
      | none => none
      | some z => cond (and (Nat.ble (Nat.mul len te.size) 16777216) (and (Nat.beq z.length te.size) (allOne z))) (match fillA (fun i => some (i * te.size, te.size)) (repA z len) l with
        | some cs => some (.sl (some (n, 0)) len len none, .cells e (Tr.ofL .lf 0 cs) cs.length none true)
        | none => none) none
noncomputable def mslA (n : Nat) (t : TypeId) (ln cp : Operand) : Option (A × Blk) :=
  match elemT T t with
  | none => none
  | some (e, te) => match ixO T env ln with
    | none => none
    | some l => match ixO T env cp with
      | none => none
      | some c => match te.zero with
        | none => none
        | some z => cond (and (and (Nat.ble l c) (Nat.ble c 1000000)) (and (Nat.ble te.bytes 1000000) (Nat.beq z.length te.size)))
            (some (.sl (some (n, 0)) l c none, .cells e (Tr.ofL .lf 0 (repA z c)) (c * te.size) none true)) none
noncomputable def newA : Op → Tab → Tr A → Nat → Option (A × Blk) :=
  @Op.rec (fun _ => Tab → Tr A → Nat → Option (A × Blk))
    (fun _ => fun _ _ _ => none)
    (fun _ => fun _ _ _ => none)
    (fun _ _ _ => fun _ _ _ => none)
    (fun e T env n => allocA T n e)
    (fun e x T env n => boxA T env n e x)
    (fun _ _ => fun _ _ _ => none)
    (fun t l ps T env n => bslA T env n t l ps.toList)
    (fun _ _ _ _ => fun _ _ _ => none)
    (fun _ _ => fun _ _ _ => none)
    (fun _ _ _ => fun _ _ _ => none)
    (fun _ => fun _ _ _ => none)
    (fun _ => fun _ _ _ => none)
    (fun _ => fun _ _ _ => none)
    (fun _ _ _ _ _ => fun _ _ _ => none)
    (fun _ _ _ => fun _ _ _ => none)
    (fun _ _ _ => fun _ _ _ => none)
    (fun _ _ => fun _ _ _ => none)
    (fun _ _ => fun _ _ _ => none)
    (fun _ _ _ => fun _ _ _ => none)
    (fun _ _ => fun _ _ _ => none)
    (fun _ _ => fun _ _ _ => none)
    (fun t l c T env n => mslA T env n t l c)
    (fun _ _ _ _ _ => fun _ _ _ => none)
    (fun _ _ _ => fun _ _ _ => none)
    (fun _ _ _ => fun _ _ _ => none)
    (fun _ _ _ => fun _ _ _ => none)
    (fun _ _ _ => fun _ _ _ => none)
    (fun _ _ _ _ => fun _ _ _ => none)
    (fun _ _ _ _ => fun _ _ _ => none)
    (fun _ _ _ => fun _ _ _ => none)
    (fun _ _ _ _ => fun _ _ _ => none)
    (fun _ _ => fun _ _ _ => none)
    (fun _ _ => fun _ _ _ => none)
    (fun _ => fun _ _ _ => none)
    (fun _ _ _ _ => fun _ _ _ => none)
    (fun _ _ => fun _ _ _ => none)
    (fun _ => fun _ _ _ => none)
    (fun _ => fun _ _ _ => none)
    (fun _ => fun _ _ _ => none)
    (fun _ => fun _ _ _ => none)
    (fun _ _ => fun _ _ _ => none)
    (fun _ _ _ => fun _ _ _ => none)
    (fun _ _ => fun _ _ _ => none)
noncomputable def bytesA (l : List UInt8) : List A := l.map fun b => .i .u8 b.toNat
/-- The cells of n elements of a slice or a string. -/
noncomputable def cellsOf (size n : Nat) : A → Option (List A)
  | .sl none _ _ _ => some []
  | .sl (some (j, o)) _ _ _ => bif (n * size).beq 0 then some [] else match h.t.get j with
    | some (.cells _ tr _ _ _) => rd tr o (n * size)
    | _ => none
  | .s l => some (bytesA (l.take n))
  | _ => none
/-- Cells written from an offset on. -/
noncomputable def storeC (j o : Nat) (cs : List A) : Option H :=
  match h.t.get j with
  | some (.cells e tr E c true) => bif allOne cs && (o + cs.length).ble E then some (h.turn j (.cells e (wrC tr o cs) E c true)) else none
  | _ => none
noncomputable def storeA (t : TypeId) (a x : A) : Option H :=
  match a, T.t t with
  | .p (some (j, o)), some ti => bif x.cells.length.beq ti.size then storeC h j o x.cells else none
  | _, _ => none
/-- The row of which append may or may not have turned the block: nothing more is said of it. -/
noncomputable def loseA (e : TypeId) (te : TI) (r : Option (Nat × Nat)) (lo : Nat) (c : Option Nat) : Option H :=
  match c with
  | none => some h
  | some x => (match r with
    | none => none
    | some (j, o) => (match h.t.get j with
      | some (.cells e' _ E cz wr) => (match cz with
        | some (y, z) => cond (and (and wr (Nat.beq x y)) (and (Nat.beq z te.size) (and (Nat.ble (Nat.add o (Nat.mul lo te.size)) E) (Nat.beq e' e)))) (some (h.drop j)) none
        | none => none)
      | _ => none))
noncomputable def zOk (te : TI) : Bool :=
  match te.zero with
  | some z => Nat.beq z.length te.size
  | none => false
noncomputable def growA (e : TypeId) (te : TI) (r : Option (Nat × Nat)) (len lo : Nat) (c : Option Nat) (new : List A) (need : Nat) : Option (A × H) :=
  cond (and (and (Nat.ble need 100000) (Nat.ble te.bytes 100000)) (and (zOk te) (and (allOne new) (Nat.beq (Nat.mul (Nat.sub need len) te.size) new.length)))) (match cellsOf h te.size len (.sl r len lo c) with
    | none => none
    | some old => cond (Nat.beq old.length (Nat.mul len te.size)) (match loseA h e te r lo c with
      | none => none
      | some k => some (.sl (some (h.nx, 0)) need need (some h.nx), k.new (.cells e (Tr.ofL .lf 0 (old ++ new)) (Nat.mul need te.size) (some (h.nx, te.size)) true))) none) none
noncomputable def roomA (te : TI) (r : Option (Nat × Nat)) (len lo : Nat) (c : Option Nat) (new : List A) (n : Nat) : Option (A × H) :=
  match r with
  | none => some (.sl none (Nat.add len n) lo c, h)
  | some (j, o) => (match new with
    | [] => some (.sl (some (j, o)) (Nat.add len n) lo c, h)
    | b :: bs => (match storeC h j (Nat.add o (Nat.mul len te.size)) (b :: bs) with
      | some k => some (.sl (some (j, o)) (Nat.add len n) lo c, k)
      | none => none))
/-- append: to a row that surely has room; to one that surely has none; or whichever. -/
noncomputable def appendA (e : TypeId) (te : TI) (r : Option (Nat × Nat)) (len lo : Nat) (c : Option Nat) (new : List A) (n : Nat) : Option (A × H) :=
  cond (Nat.ble (Nat.add len n) lo) (roomA h te r len lo c new n) (growA h e te r len lo c new (Nat.add len n))
noncomputable def asBytes : List A → Option (List UInt8)
  | [] => some []
  | a :: l => (match a with
    | .i .u8 n => (asBytes l).map fun r => UInt8.ofNat n.toNat :: r
    | _ => none)
noncomputable def asRunes : List A → Option (List UInt8)
  | [] => some []
  | a :: l => (match a with
    | .i .i32 n => (asRunes l).map fun r => (Utf8.encode n).data.toList ++ r
    | _ => none)
def intD : TypeDesc → Option IntKind
  | .int k => some k
  | _ => none
def srcD : TypeDesc → Bool
  | .slice _ | .string => true
  | _ => false
/-- What is appended: so many elements, these cells. -/
noncomputable def addend (te : TI) (u : TypeId) (v : A) : Option (List A × Nat) :=
  match T.t u with
  | none => none
  | some tu => match intD tu.d with
    | some _ => (match v with
      | .i _ n => (match n with
        | .ofNat n => cond (and (Nat.ble n 100000) (Nat.ble te.bytes 1000000)) (match te.zero with
          | some z => cond (Nat.beq z.length te.size) (some (repA z n, n)) none
          | none => none) none
        | .negSucc _ => none)
      | _ => none)
    | none => cond (srcD tu.d) (match v with
      | .s l => some (bytesA l, l.length)
      | .sl q n m d => (match cellsOf h te.size n (.sl q n m d) with
        | some new => some (new, n)
        | none => none)
      | _ => none) none
noncomputable def appendO (t u : TypeId) (x y : Operand) : Option (A × H) :=
  match elemT T t with
  | none => none
  | some (e, te) => match opd T env y with
    | none => none
    | some v => match addend T h te u v with
      | none => none
      | some (new, n) => match opd T env x with
        | some (.sl r len lo c) => appendA h e te r len lo c new n
        | _ => none
def lenV : A → Option Nat
  | .sl _ n _ _ => some n
  | .s l => some l.length
  | _ => none
noncomputable def putCells (r : Option (Nat × Nat)) (new : List A) : Option H :=
  match r with
  | none => some h
  | some (j, o) => (match new with
    | [] => some h
    | b :: bs => storeC h j o (b :: bs))
noncomputable def copyO (t : TypeId) (x y : Operand) : Option (A × H) :=
  match elemT T t with
  | none => none
  | some (_, te) => match opd T env y with
    | none => none
    | some v => match lenV v with
      | none => none
      | some m => match opd T env x with
        | some (.sl r len _ _) => (match cellsOf h te.size (cond (Nat.ble m len) m len) v with
          | none => none
          | some new => (match putCells h r new with
            | some k => some (.i .i64 (cond (Nat.ble m len) m len : Nat), k)
            | none => none))
        | _ => none
noncomputable def clearO (t : TypeId) (x : Operand) : Option (A × H) :=
  match elemT T t with
  | none => none
  | some (_, te) => match opd T env x with
    | some (.sl r n _ _) => (match te.zero with
      | none => none
      | some z => (match putCells h r (repA z n) with
        | some k => some (.tup [], k)
        | none => none))
    | _ => none
noncomputable def memBi (b : Builtin) (ts : List TypeId) (xs : List Operand) : Option (A × H) :=
  match b with
  | .append => (match ts, xs with
    | [t, u], [x, y] => appendO T env h t u x y
    | _, _ => none)
  | .copy => (match ts, xs with
    | t :: _, [x, y] => copyO T env h t x y
    | _, _ => none)
  | .clear => (match ts, xs with
    | t :: _, [x] => clearO T env h t x
    | _, _ => none)
  | b => (match biA T env b ts xs with
    | some a => some (a, h)
    | none => none)
noncomputable def storeO (t : TypeId) (a x : Operand) : Option (A × H) :=
  match opd T env a with
  | none => none
  | some p => match opd T env x with
    | none => none
    | some v => match storeA T h t p v with
      | some k => some (.tup [], k)
      | none => none
/-- A string as a row; a row as a string. -/
noncomputable def rowOf (e : TypeId) (l : List UInt8) : Option (A × H) :=
  match T.t e with
  | none => none
  | some te => match intD te.d with
    | some .u8 => some (.sl (some (h.nx, 0)) l.length l.length (some h.nx), h.new (.cells e (Tr.ofL .lf 0 (bytesA l)) l.length (some (h.nx, 1)) true))
    | some .i32 => (match absL (Conv.runesFrom ⟨⟨l⟩⟩ l.length 0 #[]).toList with
      | some rs => some (.sl (some (h.nx, 0)) rs.length rs.length (some h.nx), h.new (.cells e (Tr.ofL .lf 0 rs) rs.length (some (h.nx, 1)) true))
      | none => none)
    | _ => none
noncomputable def strOf (e : TypeId) (n : Nat) (v : A) : Option A :=
  match T.t e with
  | none => none
  | some te => match cellsOf h 1 n v with
    | none => none
    | some l => match intD te.d with
      | some .u8 => (asBytes l).map .s
      | some .i32 => (asRunes l).map .s
      | _ => none
noncomputable def convM (s t : TypeId) (x : Operand) : Option (A × H) :=
  match opd T env x with
  | none => none
  | some a => match T.t s with
    | none => none
    | some si => match T.t t with
      | none => none
      | some ti => match a with
        | .s l => (match ti.d with
          | .slice e => rowOf T h e l
          | d => (convA d (.s l)).map fun b => (b, h))
        | .sl r n lo c => (match si.d, ti.d with
          | .slice e, .string => (strOf T h e n (.sl r n lo c)).map fun b => (b, h)
          | _, _ => none)
        | a => (convA ti.d a).map fun b => (b, h)
noncomputable def rangeO (t : TypeId) (x : Operand) : Option (A × H) :=
  match T.t t with
  | none => none
  | some ti => match ti.d with
    | .string => (match opd T env x with
      | some (.s l) => some (.p (some (h.nx, 0)), h.new (.iter l 0))
      | _ => none)
    | _ => none
noncomputable def nextAt (j : Nat) : Option (A × H) :=
  match h.t.get j with
  | some (.iter s pos) =>
    cond (Nat.blt pos s.length) (some (.tup [.b true, .i .i64 pos, .i .i32 (Utf8.decode ⟨⟨s⟩⟩ pos).1], h.turn j (.iter s (pos + (Utf8.decode ⟨⟨s⟩⟩ pos).2)))) (some (.tup [.b false], h))
  | _ => none
noncomputable def nextO (x : Operand) (isString : Bool) : Option (A × H) :=
  match opd T env x with
  | some (.p (some (j, o))) => cond (and isString (Nat.beq o 0)) (nextAt h j) none
  | _ => none
/-- All that is known is cut off: the place is the old one, if there is no surplus. -/
noncomputable def cutOff (t : TypeId) (x : Operand) (lo hi mx : Option Operand) : Option (A × H) :=
  match lo, hi, mx with
  | some l, none, none => (match elemT T t with
    | none => none
    | some _ => (match opd T env x with
      | some (.sl (some _) n lo (some _)) => (match ixO T env l with
        | some k => cond (and (Nat.beq k n) (Nat.beq n lo)) (some (.sl (some (h.nx, 0)) 0 0 (some h.nx), ⟨h.t, h.nx + 1⟩)) none
        | none => none)
      | _ => none))
  | _, _, _ => none
noncomputable def sliceM (t : TypeId) (x : Operand) (lo hi mx : Option Operand) : Option (A × H) :=
  match sliceO T env t x lo hi mx with
  | some a => some (a, h)
  | none => cutOff T env h t x lo hi mx
def pv : Option A → Option (A × H)
  | some a => some (a, h)
  | none => none
noncomputable def nb : Option (A × Blk) → Option (A × H)
  | some (a, b) => some (a, h.new b)
  | none => none
noncomputable def loadO (t : TypeId) (x : Operand) : Option (A × H) :=
  match opd T env x with
  | some p => pv h (loadA T h t p)
  | none => none
end

/-- What is asked. -/
inductive Job where
  | code (r : Option Nat) (c : Code) (env : Tr A) (n : Nat) (ds : List Nat) (h : H)
  | pass (s c : Code) (env : Tr A) (n : Nat) (ds : List Nat) (h : H) (r : Option Nat)
  | call (f : FuncId) (args : List A) (h : H)
  | round (l : Nat) (args : List A) (h : H)
/-- What is answered. -/
inductive Out where
  | left (e : Exit) (env : Tr A) (ds : List Nat) (h : H)
  | val (a : A) (h : H)

/-- Is an operation's guard met? -/
def isB (want : Bool) : A → Bool
  | .b x => (match x with | true => want | false => not want)
  | _ => false
noncomputable def slotB (env : Tr A) (want : Bool) (g : Oper) : Option Bool :=
  match g.dst with
  | some d => (match env.get d with
    | some a => some (isB want a)
    | none => none)
  | none => some false
noncomputable def wantedA (ops : List Oper) (env : Tr A) (o : Oper) : Option Bool :=
  match o.guard with
  | none => some true
  | some (j, want) => (match nth ops j with
    | some g => slotB env want g
    | none => some false)
noncomputable def putA (env : Tr A) (n : Nat) (d : Option Tmp) (a : A) : Option (Tr A) :=
  match d with
  | none => some env
  | some t => bif t.blt n then some (env.put t (some a)) else none
noncomputable def args0 (env : Tr A) : Nat → List A → Tr A
  | _, [] => env
  | k, a :: l => args0 (env.put k (some a)) (k + 1) l
section
variable (T : Tab) (X : Nat → Option (List A → H → Option (A × H))) (ev : Job → Option Out)
noncomputable def target (env : Tr A) (f : Operand) (xs : List Operand) : Option (Sum (Nat × List A) (Nat × List A)) :=
  match opds T env xs with
  | none => none
  | some l => match opd T env f with
    | some (.fn f a b) => some (.inl (f, a ++ l ++ b))
    | some (.yl j) => some (.inr (j, l))
    | _ => none
noncomputable def outA : Option Out → Option (A × H)
  | some (.val a k) => some (a, k)
  | _ => none
noncomputable def callA (env : Tr A) (h : H) (f : Operand) (xs : List Operand) : Option (A × H) :=
  match target T env f xs with
  | none => none
  | some (.inl (f, l)) => outA (ev (.call f l h))
  | some (.inr (j, l)) => outA (ev (.round j l h))
noncomputable def callC (env : Tr A) (h : H) (c : Call) : Option (A × H) :=
  match c.callee with
  | .value f => callA T ev env h f c.args.toList
  | .builtin b => memBi T env h b c.argTypes.toList c.args.toList
  | _ => none
end
/-- One operation that is carried out. -/
noncomputable def operA : Op → Tab → (Job → Option Out) → Tr A → H → Option (A × H) :=
  @Op.rec (fun _ => Tab → (Job → Option Out) → Tr A → H → Option (A × H))
    (fun x T ev env h => pv h (opd T env x))
    (fun x T ev env h => pv h (opd T env x))
    (fun c a b T ev env h => pv h (pickA T env c a b))
    (fun e T ev env h => nb h (allocA T h.nx e))
    (fun e x T ev env h => nb h (boxA T env h.nx e x))
    (fun t ps T ev env h => pv h (buildA T env t ps.toList))
    (fun t l ps T ev env h => nb h (bslA T env h.nx t l ps.toList))
    (fun _ _ _ _ => fun _ _ _ _ => none)
    (fun t x T ev env h => loadO T env h t x)
    (fun t a x T ev env h => storeO T env h t a x)
    (fun _ => fun _ _ _ _ => none)
    (fun _ => fun _ _ _ _ => none)
    (fun x T ev env h => pv h (nilA T env x))
    (fun op t x y _u T ev env h => pv h (binO T env op t x y))
    (fun op _t x T ev env h => pv h (unO T env op x))
    (fun s t x T ev env h => convM T env h s t x)
    (fun _ _ => fun _ _ _ _ => none)
    (fun _ _ => fun _ _ _ _ => none)
    (fun f fs cs T ev env h => pv h (mkFn T env f fs.toList cs.toList))
    (fun _ _ => fun _ _ _ _ => none)
    (fun _ _ => fun _ _ _ _ => none)
    (fun t l c T ev env h => nb h (mslA T env h.nx t l c))
    (fun t x lo hi mx T ev env h => sliceM T env h t x lo hi mx)
    (fun s x f T ev env h => pv h (fAddrA T env s x f))
    (fun s x f T ev env h => pv h (fieldA T env s x f))
    (fun t x ix T ev env h => pv h (iAddrA T env t x ix))
    (fun t x ix T ev env h => pv h (indexA T env t x ix))
    (fun _ _ _ _ => fun _ _ _ _ => none)
    (fun _ _ _ _ => fun _ _ _ _ => none)
    (fun _ _ _ => fun _ _ _ _ => none)
    (fun _ _ _ _ => fun _ _ _ _ => none)
    (fun t x T ev env h => rangeO T env h t x)
    (fun x s T ev env h => nextO T env h x s)
    (fun _ => fun _ _ _ _ => none)
    (fun _ _ _ _ => fun _ _ _ _ => none)
    (fun x ix T ev env h => pv h (extrA T env x ix))
    (fun c T ev env h => callC T ev env h c)
    (fun _ => fun _ _ _ _ => none)
    (fun _ => fun _ _ _ _ => none)
    (fun _ => fun _ _ _ _ => none)
    (fun _ _ => fun _ _ _ _ => none)
    (fun _ _ _ => fun _ _ _ _ => none)
    (fun _ _ => fun _ _ _ _ => none)
end Go.Proofs.YtibompboimeedaaGreatDoor.Ev
