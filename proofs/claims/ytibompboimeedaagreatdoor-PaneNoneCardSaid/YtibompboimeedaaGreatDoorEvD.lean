/-
  The evaluator: statements that draw their order; code; calls.
-/
import Derived.Test.YtibompboimeedaaGreatDoorEvC
namespace Go.Proofs.YtibompboimeedaaGreatDoor.Ev

noncomputable def bind1 (e : Edge) : Bool := match e.ground with
  | .textOnly _ | .gcOnly _ => false
  | _ => true
noncomputable def maskE (t : Tr Nat) : List Edge → Nat → Nat
  | [], s => s
  | e :: l, s => bif bind1 e then maskE t l (s ||| 2 ^ e.on ||| match t.get e.on with | some m => m | none => 0) else maskE t l s
/-- What must come ahead of each operation. -/
noncomputable def befT : List Oper → Nat → Tr Nat → Tr Nat
  | [], _, t => t
  | o :: l, i, t => befT l (i + 1) (t.put i (some (maskE t o.after.toList 0)))
noncomputable def tmpsOf : List Operand → List Nat
  | [] => []
  | .tmp t :: l => t :: tmpsOf l
  | _ :: l => tmpsOf l
noncomputable def opnds : Op → List Operand
  | .alloc _ | .ready _ | .waits _ => []
  | .move x | .assign x | .box _ x | .load _ x | .nilCheck x | .unOp _ _ x | .convert _ _ x | .sliceToArrayPointer _ x | .makeInterface _ x
  | .makeChan _ x | .fieldAddr _ x _ | .field _ x _ | .range _ x | .next x _ | .entry x | .typeAssert x _ _ _ | .extract x _ | .panic x | .recv _ x _ => [x]
  | .pick c a b => [c, a, b]
  | .build _ ps | .buildSlice _ _ ps => ps.toList.map (·.2)
  | .store _ a v | .binOp _ _ a v _ | .makeSlice _ a v | .indexAddr _ a v | .index _ a v | .lookup _ a v _ | .mapEntry _ a v | .send a v => [a, v]
  | .makeFunc _ first captured => first.toList ++ captured.toList
  | .makeMap _ r => r.toList
  | .slice _ x l h m => x :: (l.toList ++ h.toList ++ m.toList)
  | .mapUpdate _ m k v | .entryStore _ m k v | .insert _ m k v => [m, k, v]
  | .call c => (match c.callee with | .value f => [f] | .invoke r _ => [r] | .builtin _ => []) ++ c.args.toList
  | _ => []
/-- Who writes a slot. -/
noncomputable def writer : List Oper → Nat → Nat → Option Nat
  | [], _, _ => none
  | o :: l, i, t => match o.dst with
    | some d => bif d.beq t then some i else writer l (i + 1) t
    | none => writer l (i + 1) t
noncomputable def known (ops : List Oper) (bt : Tr Nat) (i m : Nat) : List Nat → Bool
  | [] => true
  | t :: l => (match writer ops 0 t with | some k => m.testBit k || (match bt.get k with | some mk => mk.testBit i | none => false) | none => true) && known ops bt i m l
noncomputable def freshDst : List Oper → List Nat → Bool
  | [], _ => true
  | o :: l, seen => match o.dst with
    | some d => !(seen.any fun x => x.beq d) && freshDst l (d :: seen)
    | none => freshDst l seen
/-- 0: asks of slots alone; 1: reads; 2: lays a new block; 3: the rest; 4: slots alone, or the rest. -/
def kindB : Builtin → Nat
  | .len | .cap | .min | .max => 0
  | _ => 3
noncomputable def kindC (c : Call) : Nat :=
  match c.callee with
  | .builtin b => kindB b
  | _ => 3
noncomputable def kindOf : Op → Nat :=
  @Op.rec (fun _ => Nat)
    (fun x => 0)
    (fun x => 0)
    (fun c a b => 0)
    (fun e => 2)
    (fun e x => 2)
    (fun t ps => 0)
    (fun t l ps => 2)
    (fun _ _ _ _ => 3)
    (fun t x => 1)
    (fun _ _ _ => 3)
    (fun _ => 3)
    (fun _ => 3)
    (fun x => 0)
    (fun op t x y _u => 0)
    (fun op _t x => 0)
    (fun s t x => 4)
    (fun _ _ => 3)
    (fun _ _ => 3)
    (fun f fs cs => 0)
    (fun _ _ => 3)
    (fun _ _ => 3)
    (fun t l c => 2)
    (fun t x lo hi mx => 0)
    (fun s x f => 0)
    (fun s x f => 0)
    (fun t x ix => 0)
    (fun t x ix => 0)
    (fun _ _ _ _ => 3)
    (fun _ _ _ _ => 3)
    (fun _ _ _ => 3)
    (fun _ _ _ _ => 3)
    (fun _ _ => 3)
    (fun _ _ => 3)
    (fun _ => 3)
    (fun _ _ _ _ => 3)
    (fun x ix => 0)
    (fun c => kindC c)
    (fun _ => 3)
    (fun _ => 3)
    (fun _ => 3)
    (fun _ _ => 3)
    (fun _ _ _ => 3)
    (fun _ _ => 3)
mutual
noncomputable def eqA : A → A → Bool
  | .b x, .b y => x == y
  | .i k a, .i l b => decide (k = l) && eqI k a l b
  | .s a, .s b => eqB a b
  | .p none, .p none => true
  | .p (some (j, o)), .p (some (i, u)) => j.beq i && o.beq u
  | .sl r n lo c, .sl q m la d => (match r, q with | none, none => true | some (j, o), some (i, u) => j.beq i && o.beq u | _, _ => false) && n.beq m && lo.beq la &&
      (match c, d with | none, none => true | some x, some y => x.beq y | _, _ => false)
  | .fn f a b, .fn g c d => f.beq g && eqAs a c && eqAs b d
  | .yl l, .yl m => l.beq m
  | .agg l, .agg m => eqAs l m
  | .tup l, .tup m => eqAs l m
  | .nf, .nf => true
  | .ni, .ni => true
  | _, _ => false
noncomputable def eqAs : List A → List A → Bool
  | [], [] => true
  | a :: l, b :: r => eqA a b && eqAs l r
  | _, _ => false
end
/-- A new block that no call has needed yet: whose, its number, the block. -/
structure Pend where
  op : Nat
  id : Nat
  blk : Blk
/-- A read: whose, of what, what it gave. -/
structure Look where
  op : Nat
  t : TypeId
  p : A
  a : A
structure Dr where
  env : Tr A
  h : H
  xs : List Pend
  ch : List Nat
  hs : List H
  lk : List Look
  al : List Pend
noncomputable def addP (m : Nat) : List Pend → Tr Blk → Tr Blk
  | [], t => t
  | p :: l, t => bif m.testBit p.op then addP m l (t.put p.id (some p.blk)) else addP m l t
noncomputable def addAll : List Pend → Tr Blk → Tr Blk
  | [], t => t
  | p :: l, t => addAll l (t.put p.id (some p.blk))
noncomputable def restP (m : Nat) : List Pend → List Pend
  | [] => []
  | p :: l => bif m.testBit p.op then restP m l else p :: restP m l
section
variable (T : Tab) (ev : Job → Option Out)
noncomputable def drPut (n : Nat) (d : Option Tmp) (s : Dr) (a : A) : Option Dr :=
  match putA s.env n d a with
  | some e => some { s with env := e }
  | none => none
noncomputable def drPure (n : Nat) (o : Oper) (s : Dr) : Option Dr :=
  match pureA o.op T s.env with
  | some a => drPut n o.dst s a
  | none => none
noncomputable def drLook (n i m : Nat) (d : Option Tmp) (s : Dr) (t : TypeId) (x : Operand) : Option Dr :=
  match opd T s.env x with
  | none => none
  | some p => match loadA T ⟨addP m s.xs s.h.t, s.h.nx⟩ t p with
    | none => none
    | some a => match putA s.env n d a with
      | some e => some { s with env := e, lk := ⟨i, t, p, a⟩ :: s.lk }
      | none => none
noncomputable def drNew (n i : Nat) (o : Oper) (s : Dr) : Option Dr :=
  match newA o.op T s.env s.h.nx with
  | none => none
  | some (a, b) => match putA s.env n o.dst a with
    | some e => some { s with env := e, h := ⟨s.h.t, s.h.nx + 1⟩, xs := ⟨i, s.h.nx, b⟩ :: s.xs, al := ⟨i, s.h.nx, b⟩ :: s.al }
    | none => none
noncomputable def lastIn (m : Nat) : List Nat → Bool
  | [] => true
  | c :: _ => m.testBit c
noncomputable def drChain (n i m : Nat) (o : Oper) (s : Dr) : Option Dr :=
  cond (lastIn m s.ch) (match operA o.op T ev s.env ⟨addP m s.xs s.h.t, s.h.nx⟩ with
    | none => none
    | some (a, k) => match putA s.env n o.dst a with
      | some e => some { s with env := e, h := k, xs := restP m s.xs, ch := i :: s.ch, hs := k :: s.hs }
      | none => none) none
noncomputable def drWanted (n i m : Nat) (o : Oper) (s : Dr) : Option Dr :=
  match kindOf o.op with
  | 0 => drPure T n o s
  | 1 => (match o.op with
    | .load t x => drLook T n i m o.dst s t x
    | _ => none)
  | 2 => drNew T n i o s
  | 3 => drChain T ev n i m o s
  | _ => (match drPure T n o s with
    | some r => some r
    | none => drChain T ev n i m o s)
def guardIn (m : Nat) : Option (Nat × Bool) → Bool
  | none => true
  | some (j, _) => m.testBit j
/-- One operation of a statement that draws its order. -/
noncomputable def drOper (ops : List Oper) (n : Nat) (bt : Tr Nat) (i : Nat) (o : Oper) (s : Dr) : Option Dr :=
  match bt.get i with
  | none => none
  | some m =>
    cond (and (and (Nat.blt m (Nat.pow 2 i)) (guardIn m o.guard)) (known ops bt i m (tmpsOf (opnds o.op))))
      (match wantedA ops s.env o with
      | none => none
      | some w => cond w (drWanted T ev n i m o s) (drPut n o.dst s (.tup []))) none
noncomputable def drOps (ops : List Oper) (n : Nat) (bt : Tr Nat) : List Oper → Nat → Dr → Option Dr
  | [], _, s => some s
  | o :: l, i, s => match drOper T ev ops n bt i o s with
    | some s' => drOps ops n bt l (i + 1) s'
    | none => none
noncomputable def anyNeeds (bt : Tr Nat) (j : Nat) : List Nat → Bool
  | [] => false
  | c :: l => (match bt.get c with | some m => m.testBit j | none => true) || anyNeeds bt j l
/-- The new blocks that no chain operation so far has needed. -/
noncomputable def still (bt : Tr Nat) (cs : List Nat) : List Pend → List Pend
  | [] => []
  | p :: l => bif anyNeeds bt p.op cs then still bt cs l else p :: still bt cs l
/-- A read holds at each of the heaps at which it may come: chain operations from the last to the first, the heap behind each; the new blocks. -/
noncomputable def lookOk (bt : Tr Nat) (xs : List Pend) (l : Look) (m : Nat) : List Nat → List H → Bool
  | [], k :: _ => at_ [] k
  | c :: cs, k :: ks =>
    match bt.get c with
    | none => false
    | some mc =>
      bif mc.testBit l.op then lookOk bt xs l m cs ks
      else at_ (c :: cs) k && bif m.testBit c then true else lookOk bt xs l m cs ks
  | _, [] => false
where
  at_ (cs : List Nat) (k : H) : Bool := match loadA T ⟨addP m (still bt cs xs) k.t, k.nx⟩ l.t l.p with
    | some a => eqA a l.a
    | none => false
noncomputable def looksOk (bt : Tr Nat) (xs : List Pend) (ch : List Nat) (hs : List H) : List Look → Bool
  | [] => true
  | l :: r => (match bt.get l.op with | some m => lookOk T bt xs l m ch hs | none => false) && looksOk bt xs ch hs r
noncomputable def drawnA (ops : Array Oper) (n : Nat) (env : Tr A) (h : H) : Option (Tr A × H) :=
  let l := ops.toList
  let bt := befT l 0 .lf
  bif freshDst l [] then
    match drOps T ev l n bt l 0 ⟨env, h, [], [], [h], [], []⟩ with
    | some s => bif looksOk T bt s.al s.ch s.hs s.lk then some (s.env, ⟨addAll s.xs s.h.t, s.h.nx⟩) else none
    | none => none
  else none
noncomputable def op2 (n : Nat) (o : Oper) (env : Tr A) (r : Option (A × H)) : Option (Tr A × H) :=
  match r with
  | none => none
  | some (a, k) => (match putA env n o.dst a with
    | some e => some (e, k)
    | none => none)
noncomputable def op1 (ops : List Oper) (n : Nat) (o : Oper) (env : Tr A) (h : H) : Option (Tr A × H) :=
  match wantedA ops env o with
  | none => none
  | some w => op2 n o env (@Bool.rec (fun _ => Option (A × H)) (some (.tup [], h)) (operA o.op T ev env h) w)
noncomputable def opsK (f : Tr A → H → Option (Tr A × H)) : Option (Tr A × H) → Option (Tr A × H)
  | some (e, k) => f e k
  | none => none
end
/-- Operations in their order. -/
noncomputable def opsA : List Oper → Tab → (Job → Option Out) → List Oper → Nat → Tr A → H → Option (Tr A × H) :=
  @List.rec Oper (fun _ => Tab → (Job → Option Out) → List Oper → Nat → Tr A → H → Option (Tr A × H)) (fun _ _ _ _ env h => some (env, h))
    (fun o _ ih T ev ops n env h => opsK (ih T ev ops n) (op1 T ev ops n o env h))
section
variable (T : Tab) (ev : Job → Option Out)
noncomputable def resA (env : Tr A) (h : H) : List ResultVar → Option (List A)
  | [] => some []
  | .tmp t :: l => match env.get t, resA env h l with
    | some a, some r => some (a :: r)
    | _, _ => none
  | .cell p t :: l => match env.get p with
    | some a => match loadA T h t a, resA env h l with
      | some a, some r => some (a :: r)
      | _, _ => none
    | none => none
noncomputable def dropMarks (h : H) : List Nat → Option H
  | [] => some h
  | d :: l => match h.t.get d with
    | some .df => dropMarks (h.drop d) l
    | _ => none
noncomputable def setPs (env : Tr A) (n : Nat) : List Tmp → List A → Option (Tr A)
  | [], [] => some env
  | t :: l, a :: r => bif t.blt n then setPs (env.put t (some a)) n l r else none
  | _, _ => none
variable (X : Nat → Option (List A → H → Option (A × H)))
def envH (ds : List Nat) : Option (Tr A × H) → Option Out
  | some (e, k) => some (.left .normal e ds k)
  | none => none
noncomputable def thenA (r : Option Nat) (n : Nat) (c : Code) : Option Out → Option Out
  | some (.left .normal e ds k) => ev (.code r c e n ds k)
  | x => x
noncomputable def blockA (id : Nat) : Option Out → Option Out
  | some (.left (.exit i) e ds k) => cond (Nat.beq i id) (some (.left .normal e ds k)) (some (.left (.exit i) e ds k))
  | x => x
noncomputable def condA (r : Option Nat) (c : Operand) (a b : Code) (env : Tr A) (n : Nat) (ds : List Nat) (h : H) : Option Out :=
  match opd T env c with
  | some (.b x) => ev (.code r (cond x a b) env n ds h)
  | _ => none
/-- The block for the rounds' deferred calls. -/
noncomputable def around (r : Option Nat) (h : H) (ds : List Nat) : Option (H × Nat × List Nat) :=
  match r with
  | none => some (h.new .df, h.nx, h.nx :: ds)
  | some l => match h.t.get l with
    | some (.lp _ _ _ _ _ _ _ d) => some (h, d, ds)
    | _ => none
noncomputable def endRf (r : Option Nat) (env : Tr A) (n : Nat) (ds : List Nat) (l : Nat) : Option Out → Option Out
  | some (.val _ k) => (match k.t.get l with
    | some (.lp .ready none _ _ _ _ _ _) => some (.left .normal env ds (k.drop l))
    | some (.lp .done (some c) _ _ _ _ _ _) => ev (.code r c env n ds (k.drop l))
    | _ => none)
  | _ => none
noncomputable def rfA (r : Option Nat) (f : Operand) (ps : Array Tmp) (asg body : Code) (env : Tr A) (n : Nat) (ds : List Nat) (h : H) : Option Out :=
  match opd T env f with
  | some (.fn g fs cs) => (match around r h ds with
    | some (h1, d, ds) => endRf ev r env n ds h1.nx (ev (.call g (fs ++ .yl h1.nx :: cs) (h1.new (.lp .ready none env n ps asg body d))))
    | none => none)
  | _ => none
end
noncomputable def codeA : Code → Tab → (Job → Option Out) → Option Nat → Tr A → Nat → List Nat → H → Option Out :=
  @Code.rec (fun _ => Tab → (Job → Option Out) → Option Nat → Tr A → Nat → List Nat → H → Option Out)
    (fun _ _ _ env _ ds h => some (.left .normal env ds h))
    (fun _ ops draw T ev _ env n ds h => envH ds (@Bool.rec (fun _ => Option (Tr A × H)) (opsA ops.toList T ev ops.toList n env h) (drawnA T ev ops n env h) draw))
    (fun a b _ _ _ ev r env n ds h => thenA ev r n b (ev (.code r a env n ds h)))
    (fun c a b _ _ T ev r env n ds h => condA T ev r c a b env n ds h)
    (fun id c _ _ ev r env n ds h => blockA id (ev (.code r c env n ds h)))
    (fun c _ _ ev r env n ds h => thenA ev r n (.loop c) (ev (.code r c env n ds h)))
    (fun f ps asg body _ _ T ev r env n ds h => rfA T ev r f ps asg body env n ds h)
    (fun id _ _ _ env _ ds h => some (.left (.exit id) env ds h))
    (fun c _ _ ev r env n ds h => ev (.pass c c env n ds h r))
    (fun _ _ _ _ env _ ds h => some (.left .normal env ds h))
    (fun l _ _ _ env _ ds h => some (.left (.goto l) env ds h))
    (fun _ _ _ env _ ds h => some (.left .ret env ds h))
    (fun _ _ _ _ _ _ _ _ => none)
section
variable (T : Tab) (ev : Job → Option Out) (X : Nat → Option (List A → H → Option (A × H)))
noncomputable def passA (s : Code) (n : Nat) (r : Option Nat) : Option Out → Option Out
  | some (.left (.goto l) e ds k) => (match findLabel s l with
    | some rest => ev (.pass s rest e n ds k r)
    | none => some (.left (.goto l) e ds k))
  | x => x
noncomputable def results1 (fn : Func) (env : Tr A) (ds : List Nat) (h : H) : Option Out :=
  match dropMarks h ds with
  | none => none
  | some k => match resA T env k fn.results.toList with
    | none => none
    | some l => some (.val (match l with | [a] => a | l => .tup l) k)
noncomputable def leaveA (fn : Func) : Option Out → Option Out
  | some (.left .normal env ds h) => results1 T fn env ds h
  | some (.left .ret env ds h) => results1 T fn env ds h
  | _ => none
noncomputable def enterA (f : FuncId) (args : List A) (h : H) : Option Out :=
  match T.fn.get f with
  | some ⟨fn, true⟩ => (match fn.body with
    | some c => leaveA T fn (ev (.code none c (args0 .lf 0 args) (Nat.max fn.ntmps args.length) [] h))
    | none => none)
  | _ => none
noncomputable def knownA (x : List A → H → Option (A × H)) (args : List A) (h : H) : Option Out :=
  match x args h with
  | some (a, k) => some (.val a k)
  | none => none
/-- How a round ends. -/
def jumpOf : Exit → Option (Option Code)
  | .normal => some none
  | .ret => some (some .ret)
  | .exit i => some (some (.exit i))
  | .goto i => some (some (.goto i))
  | _ => none
noncomputable def endRound (l : Nat) : Option Out → Option Out
  | some (.left x _ [] k) => (match k.t.get l with
    | some (.lp _ _ env n ps asg body d) => (match jumpOf x with
      | some none => some (.val (.b true) (k.turn l (.lp .ready none env n ps asg body d)))
      | some (some c) => some (.val (.b false) (k.turn l (.lp .done (some c) env n ps asg body d)))
      | none => none)
    | _ => none)
  | _ => none
noncomputable def midRound (l n : Nat) (body : Code) : Option Out → Option Out
  | some (.left .normal e [] k) => (match k.t.get l with
    | some (.lp .ready p env m ps asg b d) => endRound l (ev (.code (some l) body e n [] (k.turn l (.lp .busy p env m ps asg b d))))
    | _ => none)
  | _ => none
noncomputable def roundA (l : Nat) (args : List A) (h : H) : Option Out :=
  match h.t.get l with
  | some (.lp .ready _ env n ps asg body _) => (match setPs env n ps.toList args with
    | some e => midRound ev l n body (ev (.code (some l) asg e n [] h))
    | none => none)
  | _ => none
end
noncomputable def callJ (f : FuncId) (args : List A) (h : H) (T : Tab) (ev : Job → Option Out) (X : Nat → Option (List A → H → Option (A × H))) : Option Out :=
  match X f with
  | some x => knownA x args h
  | none => enterA T ev f args h
noncomputable def step : Job → Tab → (Job → Option Out) → (Nat → Option (List A → H → Option (A × H))) → Option Out :=
  @Job.rec (fun _ => Tab → (Job → Option Out) → (Nat → Option (List A → H → Option (A × H))) → Option Out)
    (fun r c env n ds h T ev _ => codeA c T ev r env n ds h)
    (fun s c env n ds h r _ ev _ => passA ev s n r (ev (.code r c env n ds h)))
    callJ
    (fun l args h _ ev _ => roundA ev l args h)
noncomputable def ev (T : Tab) (X : Nat → Option (List A → H → Option (A × H))) : Nat → Job → Option Out :=
  @Nat.rec (fun _ => Job → Option Out) (fun _ => none) (fun _ ih j => step j T ih X)
/-- Does a call without arguments answer true? -/
noncomputable def runs (T : Tab) (X : Nat → Option (List A → H → Option (A × H))) (n f : Nat) (h : H) : Bool :=
  match ev T X n (.call f [] h) with
  | some (.val (.b true) _) => true
  | _ => false
end Go.Proofs.YtibompboimeedaaGreatDoor.Ev
