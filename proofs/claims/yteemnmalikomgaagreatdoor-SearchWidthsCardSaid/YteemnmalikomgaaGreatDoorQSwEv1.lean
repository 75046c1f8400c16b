import Derived.Test.YteemnmalikomgaaGreatDoorQSwEv0
import GoSem.Dispatch
noncomputable section
namespace Go.Proofs.YteemnmalikomgaaGreatDoor.Ev
structure TI where
 d:TypeDesc
 size:Nat
 bytes:Nat
 zero:Option (List A)
 eq:List Nat
def sD:Value→Option A
 | .bool x=>some (.b x)
 | .int k n=>some (.i k n)
 | .string s=>some (.s s.data.toList)
 | .pointer none=>some (.p none)
 | .slice none 0 0=>some (.sl none 0 0 none)
 | .nilFunc=>some .nf
 | .nilIface=>some .ni
 | _=>none
def qc:List Value→Option (List A)
 | []=>some []
 | v::l=>match sD v with
  | some a=>match qc l with
   | some r=>some (a::r)
   | none=>none
  | none=>none
def Tp:Value→Option A
 | .agg ⟨l⟩=>(qc l).map .agg
 | .tuple ⟨l⟩=>(qc l).map .tup
 | v=>sD v
def A.cells:A→List A
 | .agg l=>l
 | a=>[a]
def A.one:A→Bool
 | .agg _ | .tup _=>false
 | _=>true
def qd:TypeDesc→Bool
 | .struct _ | .array _ _=>true
 | _=>false
def oP:Option TypeDesc→Nat
 | some .bool=>1
 | some (.int _)=>2
 | some .string=>3
 | _=>0
def Dc (P:Program):List Field→Nat→Option (List Nat)
 | [],_=>some []
 | f::l,k=>cond (and (and (f.name != "_") (Nat.beq f.offset k)) ((P.info? f.type).elim false fun i=>Nat.beq i.size 1)) (match oP (P.underlying f.type) with
  | 0=>none
  | n+1=>(match Dc P l (k+1) with
   | some r=>some ((n+1)::r)
   | none=>none)) none
def qZ:Option TypeInfo→Bool
 | some i=>(match i.zero with
  | some (.pointer none)=>true
  | _=>false)
 | none=>false
def eqType (P:Program) (t:TypeId):List Nat :=
 match P.underlying t with
 | some (.struct fs)=>cond (and (not (P.stoodInHeld t)) (not (P.eqGuardType P.depth t))) ((Dc P fs.toList 0).getD []) []
 | some (.pointer _)=>cond (qZ (P.info? t)) [9] []
 | _=>[]
def Nr (P:Program) (t:TypeId):Option TI :=
 match P.info? t with
 | none=>none
 | some i=>match P.underlying t with
  | none=>none
  | some d=>some ⟨d,i.size,i.bytes,i.zero.bind fun v=>match v with | .agg ⟨l⟩=>qc l | v=>(sD v).map fun a=>[a],eqType P t⟩
structure FI where
 fn:Func
 ok:Bool
structure Tab where
 ty:Tr (Option TI)
 fn:Tr FI
 G:Nat
def Ik (P:Program):Nat→Nat→Tr (Option TI)→Tr (Option TI)
 | 0,_,t=>t
 | n+1,k,t=>Ik P n (k+1) (t.put k (some (Nr P k)))
def Yb (f:Func):FI:=⟨f,!(f.name == "runtime.NumGoroutine")⟩
def ah (P:Program):Tab:=⟨Ik P P.types.size 0 .lf,Tr.fC .lf 0 (P.funcs.toList.map Yb),P.globals.size⟩
def Tab.t (T:Tab) (t:TypeId):Option TI:=match T.ty.get t with | some x=>x | none=>none
section
variable (T:Tab) (env:Tr A) (h:H)
def aZ (T:Tab) (env:Tr A) (x:Operand):Option A :=
 @Operand.rec (fun _=>Tab→Tr A→Option A) (fun t _ env=>env.get t) (fun v _ _=>Tp v) (fun g T _=> @Bool.rec (fun _=>Option A) none (some (.p (some (g,0)))) (Nat.blt g T.G)) (fun f _ _=>some (.fn f [] [])) x T env
def mW:List Operand→Option (List A)
 | []=>some []
 | x::l=>match aZ T env x with
  | some a=>match mW l with
   | some r=>some (a::r)
   | none=>none
  | none=>none
def parts:List (Nat×Operand)→Option (List (Nat×A))
 | []=>some []
 | (i,x)::l=>match aZ T env x with
  | some a=>match parts l with
   | some r=>some ((i,a)::r)
   | none=>none
  | none=>none
def Ey {α:Type}:Nat→Sem α→Option α
 | 0,_=>none
 | n+1,s=>match s with
  | .pure a=>some a
  | .mark _ k=>Ey n k
  | _=>none
def nth {α:Type} (l:List α):Nat→Option α:=List.rec (fun _=>none) (fun a _ ih k=>cond (Nat.beq k 0) (some a) (ih (Nat.sub k 1))) l
def rd (t:Tr A):Nat→Nat→Option (List A)
 | _,0=>some []
 | o,n+1=>match t.get o with
  | some a=>match rd t (o+1) n with
   | some l=>some (a::l)
   | none=>none
  | none=>none
def Qq (t:Tr A):Nat→List A→Tr A
 | _,[]=>t
 | o,a::l=>Qq (t.put o (some a)) (o+1) l
def dU:List A→Bool
 | []=>true
 | a::l=>a.one && dU l
def q8 (place:Nat→Option (Nat×Nat)) (cells:List A):List (Nat×A)→Option (List A)
 | []=>some cells
 | (i,v)::rest=>match place i with
  | none=>none
  | some (off,size) =>
   bif v.cells.length.beq size && (off+size).ble cells.length && dU v.cells then q8 place (cells.take off++v.cells++cells.drop (off+size)) rest
   else none
def iX (z:List A):Nat→List A
 | 0=>[]
 | n+1=>z++iX z n
def Bc:List UInt8→List UInt8→Bool
 | [],[]=>true
 | a::l,b::r=>a.toNat.beq b.toNat && Bc l r
 | _,_=>false
def Lb:IntKind→Int→IntKind→Int→Bool:=fun _ a _ b=>match a,b with
 | .ofNat a,.ofNat b=>a.beq b
 | .negSucc a,.negSucc b=>a.beq b
 | _,_=>false
def eq1 (n:Nat) (a b:A):Option Bool :=
 match a with
 | .b x=>(match b with
  | .b y=>cond (Nat.beq n 1) (some (x == y)) none
  | _=>none)
 | .i k x=>(match b with
  | .i l y=>cond (and (Nat.beq n 2) (decide (k=l))) (some (Lb k x l y)) none
  | _=>none)
 | .s x=>(match b with
  | .s y=>cond (Nat.beq n 3) (some (Bc x y)) none
  | _=>none)
 | _=>none
def Bd:List Nat→List A→List A→Option Bool
 | [],[],[]=>some true
 | n::ns,a::l,b::r=>(match eq1 n a b with
  | some true=>Bd ns l r
  | some false=>some false
  | none=>none)
 | _,_,_=>none
def lim:IntKind→Nat
 | .i8=>128
 | .u8=>256
 | .i16=>32768
 | .u16=>65536
 | .i32=>2147483648
 | .u32=>4294967296
 | .i64=>9223372036854775808
 | .u64=>18446744073709551616
def yK:IntKind→Bool
 | .i8 | .i16 | .i32 | .i64=>true
 | _=>false
def yL (k:IntKind) (n:Int):Int :=
 match n with
 | .ofNat m=>cond (Nat.blt m (lim k)) n (k.wrap n)
 | .negSucc m=>cond (and (yK k) (Nat.blt m (lim k))) n (k.wrap n)
def Bf:Int→Int→Bool
 | .ofNat a,.ofNat b=>Nat.blt a b
 | .negSucc _,.ofNat _=>true
 | .ofNat _,.negSucc _=>false
 | .negSucc a,.negSucc b=>Nat.blt b a
def UK:Int→Int→Bool
 | .ofNat a,.ofNat b=>Nat.beq a b
 | .negSucc a,.negSucc b=>Nat.beq a b
 | _,_=>false
def Ns (op:BinOp) (t:TypeId) (k:IntKind) (a:Int) (l:IntKind) (b:Int):Option A :=
 let slow:Option A:=match Ey 3 (binOp op t (.int k a) (.int l b)) with
  | some v=>sD v
  | none=>none
 match op with
 | .shl | .shr=>slow
 | op=>cond (Nat.beq (lim k) (lim l)) (match op with
  | .add=>some (.i k (yL k (Int.add a b)))
  | .sub=>some (.i k (yL k (Int.sub a b)))
  | .mul=>some (.i k (yL k (Int.mul a b)))
  | .quo=>match a,b with
   | .ofNat x,.ofNat (y+1)=>some (.i k (yL k (.ofNat (Nat.div x (y+1)))))
   | _,_=>slow
  | .eql=>some (.b (UK a b))
  | .neq=>some (.b (not (UK a b)))
  | .lss=>some (.b (Bf a b))
  | .leq=>some (.b (not (Bf b a)))
  | .gtr=>some (.b (Bf b a))
  | .geq=>some (.b (not (Bf a b)))
  | _=>slow) none
def Tq (op:BinOp) (a b:List UInt8):Option A :=
 match op with
 | .eql=>some (.b (Bc a b))
 | .neq=>some (.b (not (Bc a b)))
 | .add=>cond (Nat.ble (Nat.add a.length b.length) 1000000) (some (.s (a++b))) none
 | _=>none
def jK (op:BinOp) (x:Bool):Option A :=
 match op with
 | .eql=>some (.b x)
 | .neq=>some (.b (not x))
 | _=>none
def Df:Option TI→Bool
 | some ⟨.bool,_,_,_,_⟩=>true
 | _=>false
def Il:Option TI→Bool
 | some ⟨.pointer _,_,_,_,_⟩=>true
 | _=>false
def Nt:Option TI→Bool
 | some ⟨.slice _,_,_,_,_⟩=>true
 | _=>false
def vk:Option TI→Bool
 | some ⟨.func _ _ _,_,_,_,_⟩=>true
 | _=>false
def yM (op:BinOp):Option (Nat×Nat)→Option (Nat×Nat)→Option A
 | none,none=>jK op true
 | some _,none=>jK op false
 | none,some _=>jK op false
 | _,_=>none
def Tt (op:BinOp) (t:TypeId) (a b:List A):Option A :=
 match T.t t with
 | none=>none
 | some ti=>match ti.eq with
  | []=>none
  | n::ns=>(match Bd (n::ns) a b with
   | some x=>jK op x
   | none=>none)
def Dh (op:BinOp) (t:TypeId) (x y:A):Option A :=
 match x with
 | .i k a=>(match y with
  | .i l b=>Ns op t k a l b
  | _=>none)
 | .s a=>(match y with
  | .s b=>Tq op a b
  | _=>none)
 | .b a=>(match y with
  | .b b=>cond (Df (T.t t)) (jK op (a == b)) none
  | _=>none)
 | .p a=>(match y with
  | .p b=>cond (Il (T.t t)) (yM op a b) none
  | _=>none)
 | .sl a _ _ _=>(match y with
  | .sl b _ _ _=>cond (Nt (T.t t)) (yM op a b) none
  | _=>none)
 | .fn _ _ _=>(match y with
  | .nf=>cond (vk (T.t t)) (jK op false) none
  | _=>none)
 | .yl _=>(match y with
  | .nf=>cond (vk (T.t t)) (jK op false) none
  | _=>none)
 | .nf=>(match y with
  | .nf=>cond (vk (T.t t)) (jK op true) none
  | _=>none)
 | .agg a=>(match y with
  | .agg b=>Tt T op t a b
  | _=>none)
 | _=>none
def bnd (x:Option A) (least most dflt:Nat):Option Nat :=
 match x with
 | none=>some dflt
 | some (.i _ (.ofNat n))=>bif least.ble n && n.ble most then some n else none
 | _=>none
def zQ:Option Operand→Option (Option A)
 | none=>some none
 | some x=>(aZ T env x).map some
def Im (len cap:Nat) (lo hi mx:Option A):Option (Nat×Nat×Nat) :=
 match bnd mx 0 cap cap with
 | none=>none
 | some m=>match bnd hi 0 m len with
  | none=>none
  | some u=>match bnd lo 0 u 0 with
   | none=>none
   | some l=>match mx,hi with
    | some _,none=>none
    | _,_=>some (l,u,m)
def Io (n e:Nat) (j o:Nat) (lo hi mx:Option A):Option A :=
 match T.t e with
 | none=>none
 | some te=>match Im n n lo hi mx with
  | none=>none
  | some (l,u,m)=>some (.sl (some (j,cond (Nat.beq m l) o (Nat.add o (Nat.mul l te.size)))) (Nat.sub u l) (Nat.sub m l) none)
def qg (r:Option (Nat×Nat)) (d:Nat):Option (Nat×Nat):=match r with
 | none=>none
 | some (j,o)=>some (j,Nat.add o d)
def Lc (e:Nat) (r:Option (Nat×Nat)) (len cap:Nat) (c:Option Nat) (lo hi mx:Option A):Option A :=
 match T.t e with
 | none=>none
 | some te=>match Im len cap lo hi mx with
  | none=>none
  | some (l,u,m)=>match (match mx with | some _=>none | none=>c) with
   | none=>some (.sl (cond (Nat.beq m l) r (qg r (Nat.mul l te.size))) (Nat.sub u l) (Nat.sub m l) none)
   | some c=>cond (Nat.blt l m) (some (.sl (qg r (Nat.mul l te.size)) (Nat.sub u l) (Nat.sub m l) (some c))) none
def Ip (s:List UInt8) (lo hi mx:Option A):Option A :=
 match mx with
 | some _=>none
 | none=>match Im s.length s.length lo hi none with
  | none=>none
  | some (l,u,_)=>some (.s ((s.take u).drop l))
def Iq (t:TypeId) (x:A) (lo hi mx:Option A):Option A :=
 match T.t t with
 | none=>none
 | some ti=>match x with
  | .p r=>(match ti.d,r with
   | .array n e,some (j,o)=>Io T n e j o lo hi mx
   | _,_=>none)
  | .sl r len cap c=>(match ti.d with
   | .slice e=>Lc T e r len cap c lo hi mx
   | _=>none)
  | .s s=>(match ti.d with
   | .string=>Ip s lo hi mx
   | _=>none)
  | _=>none
def mD (t:TypeId) (x:Operand) (lo hi mx:Option Operand):Option A :=
 match aZ T env x,zQ T env lo,zQ T env hi,zQ T env mx with
 | some a,some l,some u,some m=>Iq T t a l u m
 | _,_,_,_=>none
def vo (c a b:Operand):Option A :=
 match aZ T env c with
 | some (.b x)=>cond x (aZ T env a) (aZ T env b)
 | _=>none
def yN:List Field→Option (List (Nat×Nat))
 | []=>some []
 | f::l=>(match T.t f.type with
  | some tf=>(match yN l with
   | some r=>some ((f.offset,tf.size)::r)
   | none=>none)
  | none=>none)
def qh (t:TypeId) (ps:List (Nat×Operand)):Option A :=
 match T.t t with
 | none=>none
 | some ti=>match ti.zero with
  | none=>none
  | some z=>match parts T env ps with
   | none=>none
   | some l=>match ti.d with
    | .struct fs=>(match yN T fs.toList with
     | some pl=>(q8 (nth pl) z l).map .agg
     | none=>none)
    | .array _ e=>(match T.t e with
     | some te=>(q8 (fun i=>some (i*te.size,te.size)) z l).map .agg
     | none=>none)
    | _=>none
def Vu:A→Bool
 | .p (some _)=>true
 | .fn _ _ _=>true
 | .yl _=>true
 | _=>false
def zR (x:Operand):Option A :=
 match aZ T env x with
 | some a=>cond (Vu a) (some a) none
 | none=>none
def vw (op:BinOp) (t:TypeId) (x y:Operand):Option A :=
 match aZ T env x with
 | none=>none
 | some a=>match aZ T env y with
  | none=>none
  | some b=>Dh T op t a b
def XW (op:UnOp):A→Option A
 | .i k n=>(match Ey 3 (Op.unary op (.int k n)) with
  | some v=>sD v
  | none=>none)
 | .b y=>(match op with
  | .not=>some (.b (not y))
  | _=>none)
 | _=>none
def Ir (op:UnOp) (x:Operand):Option A :=
 match aZ T env x with
 | none=>none
 | some a=>XW op a
def Bg (d:TypeDesc):A→Option A
 | .i _ n=>(match d with
  | .int k=>some (.i k (yL k n))
  | .string=>some (.s (Utf8.encode n).data.toList)
  | _=>none)
 | .s l=>(match d with
  | .string=>some (.s l)
  | _=>none)
 | _=>none
def q9 (s t:TypeId) (x:Operand):Option A :=
 match aZ T env x with
 | none=>none
 | some a=>match T.t s with
  | none=>none
  | some _=>match T.t t with
   | none=>none
   | some ti=>Bg ti.d a
def yO (s f:Nat):Option (Nat×TI) :=
 match T.t s with
 | none=>none
 | some ti=>match ti.d with
  | .struct fs=>(match nth fs.toList f with
   | some fd=>(match T.t fd.type with
    | some tf=>some (fd.offset,tf)
    | none=>none)
   | none=>none)
  | _=>none
def qj (s:TypeId) (x:Operand) (f:Nat):Option A :=
 match aZ T env x with
 | some (.p r)=>(match r with
  | some (j,o)=>(match yO T s f with
   | some (d,tf)=>cond (Nat.beq tf.size 0) none (some (.p (some (j,Nat.add o d))))
   | none=>none)
  | none=>none)
 | _=>none
def Nu (ti:TI) (l:List A) (off:Nat):Option A :=
 cond (qd ti.d) (some (.agg ((l.drop off).take ti.size))) (nth l off)
def ql (s:TypeId) (x:Operand) (f:Nat):Option A :=
 match aZ T env x with
 | some (.agg l)=>(match yO T s f with
  | some (d,tf)=>Nu tf l d
  | none=>none)
 | _=>none
def xJ (ix:Operand):Option Nat :=
 match aZ T env ix with
 | some (.i _ n)=>(match n with
  | .ofNat i=>some i
  | .negSucc _=>none)
 | _=>none
def FV (e n j o i:Nat):Option A :=
 match T.t e with
 | some te=>cond (Nat.blt i n) (some (.p (some (j,Nat.add o (Nat.mul i te.size))))) none
 | none=>none
def qm (t:TypeId) (x ix:Operand):Option A :=
 match T.t t with
 | none=>none
 | some ti=>match xJ T env ix with
  | none=>none
  | some i=>match aZ T env x with
   | some (.p r)=>(match ti.d,r with
    | .array n e,some (j,o)=>FV T e n j o i
    | _,_=>none)
   | some (.sl r n _ _)=>(match ti.d,r with
    | .slice e,some (j,o)=>FV T e n j o i
    | _,_=>none)
   | _=>none
def qo (t:TypeId) (x ix:Operand):Option A :=
 match T.t t with
 | none=>none
 | some ti=>match xJ T env ix with
  | none=>none
  | some i=>match aZ T env x with
   | some (.s l)=>(match ti.d with
    | .string=>(match nth l i with
     | some b=>some (.i .u8 b.toNat)
     | none=>none)
    | _=>none)
   | some (.agg l)=>(match ti.d with
    | .array n e=>(match T.t e with
     | some te=>cond (Nat.blt i n) (Nu te l (Nat.mul i te.size)) none
     | none=>none)
    | _=>none)
   | _=>none
def vC (x:Operand) (ix:Nat):Option A :=
 match aZ T env x with
 | some (.tup l)=>nth l ix
 | _=>none
def zS (f:Fn) (fs cs:List Operand):Option A :=
 match f with
 | .func f=>(match mW T env fs with
  | some a=>(match mW T env cs with
   | some b=>some (.fn f a b)
   | none=>none)
  | none=>none)
 | _=>none
def Nw (t:TypeId) (x:Operand):Option A :=
 match T.t t with
 | none=>none
 | some ti=>match aZ T env x with
  | none=>none
  | some a=>match ti.d with
   | .string=>(match a with
    | .s l=>some (.i .i64 l.length)
    | _=>none)
   | .array n _=>some (.i .i64 n)
   | .slice _=>(match a with
    | .sl _ n _ _=>some (.i .i64 n)
    | _=>none)
   | _=>none
def Ny (t:TypeId) (x:Operand):Option A :=
 match T.t t with
 | none=>none
 | some ti=>match aZ T env x with
  | some (.sl _ _ c none)=>(match ti.d with
   | .slice _=>some (.i .i64 c)
   | _=>none)
  | _=>none
def Ld (mx:Bool) (x y:Operand):Option A :=
 match aZ T env x with
 | some (.i k a)=>(match aZ T env y with
  | some (.i _ b)=>some (.i k (cond (cond mx (Bf a b) (Bf b a)) b a))
  | _=>none)
 | _=>none
def Bh (b:Builtin) (ts:List TypeId) (xs:List Operand):Option A :=
 match b with
 | .len=>(match ts,xs with
  | t::_,x::_=>Nw T env t x
  | _,_=>none)
 | .cap=>(match ts,xs with
  | t::_,x::_=>Ny T env t x
  | _,_=>none)
 | .min=>(match xs with
  | [x,y]=>Ld T env false x y
  | _=>none)
 | .max=>(match xs with
  | [x,y]=>Ld T env true x y
  | _=>none)
 | _=>none
def Le (c:Call):Option A :=
 match c.callee with
 | .builtin b=>Bh T env b c.argTypes.toList c.args.toList
 | _=>none
end
def yP:Op→Tab→Tr A→Option A :=
 @Op.rec (fun _=>Tab→Tr A→Option A)
  (fun x T env=>aZ T env x)
  (fun x T env=>aZ T env x)
  (fun c a b T env=>vo T env c a b)
  (fun _=>fun _ _=>none)
  (fun _ _=>fun _ _=>none)
  (fun t ps T env=>qh T env t ps.toList)
  (fun _ _ _=>fun _ _=>none)
  (fun _ _ _ _=>fun _ _=>none)
  (fun _ _=>fun _ _=>none)
  (fun _ _ _=>fun _ _=>none)
  (fun _=>fun _ _=>none)
  (fun _=>fun _ _=>none)
  (fun x T env=>zR T env x)
  (fun op t x y _u T env=>vw T env op t x y)
  (fun op _t x T env=>Ir T env op x)
  (fun s t x T env=>q9 T env s t x)
  (fun _ _=>fun _ _=>none)
  (fun _ _=>fun _ _=>none)
  (fun f fs cs T env=>zS T env f fs.toList cs.toList)
  (fun _ _=>fun _ _=>none)
  (fun _ _=>fun _ _=>none)
  (fun _ _ _=>fun _ _=>none)
  (fun t x lo hi mx T env=>mD T env t x lo hi mx)
  (fun s x f T env=>qj T env s x f)
  (fun s x f T env=>ql T env s x f)
  (fun t x ix T env=>qm T env t x ix)
  (fun t x ix T env=>qo T env t x ix)
  (fun _ _ _ _=>fun _ _=>none)
  (fun _ _ _ _=>fun _ _=>none)
  (fun _ _ _=>fun _ _=>none)
  (fun _ _ _ _=>fun _ _=>none)
  (fun _ _=>fun _ _=>none)
  (fun _ _=>fun _ _=>none)
  (fun _=>fun _ _=>none)
  (fun _ _ _ _=>fun _ _=>none)
  (fun x ix T env=>vC T env x ix)
  (fun c T env=>Le T env c)
  (fun _=>fun _ _=>none)
  (fun _=>fun _ _=>none)
  (fun _=>fun _ _=>none)
  (fun _ _=>fun _ _=>none)
  (fun _ _ _=>fun _ _=>none)
  (fun _ _=>fun _ _=>none)
section
variable (T:Tab) (env:Tr A) (h:H)
def XG (ti:TI) (tr:Tr A) (o:Nat):Option A :=
 cond (qd ti.d) ((rd tr o ti.size).map .agg) (tr.get o)
def ru (t:TypeId):A→Option A
 | .p r=>(match r with
  | some (j,o)=>(match h.t.get j with
   | some (.cells _ tr _ _ _)=>(match T.t t with
    | some ti=>XG ti tr o
    | none=>none)
   | _=>none)
  | none=>none)
 | _=>none
def sZ (n:Nat) (e:TypeId):Option (A×bZ) :=
 match T.t e with
 | none=>none
 | some ti=>match ti.zero with
  | none=>none
  | some z=>some (.p (some (n,0)),.cells e (Tr.fC .lf 0 z) z.length none true)
def vD (n:Nat) (e:TypeId) (x:Operand):Option (A×bZ) :=
 match aZ T env x with
 | none=>none
 | some a=>cond (dU a.cells) (some (.p (some (n,0)),.cells e (Tr.fC .lf 0 a.cells) a.cells.length none true)) none
def rz (t:TypeId):Option (Nat×TI) :=
 match T.t t with
 | none=>none
 | some ti=>match ti.d with
  | .slice e=>(match T.t e with
   | some te=>some (e,te)
   | none=>none)
  | _=>none
def vE (n:Nat) (t:TypeId) (len:Nat) (ps:List (Nat×Operand)):Option (A×bZ) :=
 match rz T t with
 | none=>none
 | some (e,te)=>match parts T env ps with
  | none=>none
  | some l=>match te.zero with
   | none=>none
   | some z=>cond (and (Nat.ble (Nat.mul len te.size) 16777216) (and (Nat.beq z.length te.size) (dU z))) (match q8 (fun i=>some (i*te.size,te.size)) (iX z len) l with
    | some cs=>some (.sl (some (n,0)) len len none,.cells e (Tr.fC .lf 0 cs) cs.length none true)
    | none=>none) none
def vF (n:Nat) (t:TypeId) (ln cp:Operand):Option (A×bZ) :=
 match rz T t with
 | none=>none
 | some (e,te)=>match xJ T env ln with
  | none=>none
  | some l=>match xJ T env cp with
   | none=>none
   | some c=>match te.zero with
    | none=>none
    | some z=>cond (and (and (Nat.ble l c) (Nat.ble c 1000000)) (and (Nat.ble te.bytes 1000000) (Nat.beq z.length te.size)))
      (some (.sl (some (n,0)) l c none,.cells e (Tr.fC .lf 0 (iX z c)) (c*te.size) none true)) none
def Iu:Op→Tab→Tr A→Nat→Option (A×bZ) :=
 @Op.rec (fun _=>Tab→Tr A→Nat→Option (A×bZ))
  (fun _=>fun _ _ _=>none)
  (fun _=>fun _ _ _=>none)
  (fun _ _ _=>fun _ _ _=>none)
  (fun e T _env n=>sZ T n e)
  (fun e x T env n=>vD T env n e x)
  (fun _ _=>fun _ _ _=>none)
  (fun t l ps T env n=>vE T env n t l ps.toList)
  (fun _ _ _ _=>fun _ _ _=>none)
  (fun _ _=>fun _ _ _=>none)
  (fun _ _ _=>fun _ _ _=>none)
  (fun _=>fun _ _ _=>none)
  (fun _=>fun _ _ _=>none)
  (fun _=>fun _ _ _=>none)
  (fun _ _ _ _ _=>fun _ _ _=>none)
  (fun _ _ _=>fun _ _ _=>none)
  (fun _ _ _=>fun _ _ _=>none)
  (fun _ _=>fun _ _ _=>none)
  (fun _ _=>fun _ _ _=>none)
  (fun _ _ _=>fun _ _ _=>none)
  (fun _ _=>fun _ _ _=>none)
  (fun _ _=>fun _ _ _=>none)
  (fun t l c T env n=>vF T env n t l c)
  (fun _ _ _ _ _=>fun _ _ _=>none)
  (fun _ _ _=>fun _ _ _=>none)
  (fun _ _ _=>fun _ _ _=>none)
  (fun _ _ _=>fun _ _ _=>none)
  (fun _ _ _=>fun _ _ _=>none)
  (fun _ _ _ _=>fun _ _ _=>none)
  (fun _ _ _ _=>fun _ _ _=>none)
  (fun _ _ _=>fun _ _ _=>none)
  (fun _ _ _ _=>fun _ _ _=>none)
  (fun _ _=>fun _ _ _=>none)
  (fun _ _=>fun _ _ _=>none)
  (fun _=>fun _ _ _=>none)
  (fun _ _ _ _=>fun _ _ _=>none)
  (fun _ _=>fun _ _ _=>none)
  (fun _=>fun _ _ _=>none)
  (fun _=>fun _ _ _=>none)
  (fun _=>fun _ _ _=>none)
  (fun _=>fun _ _ _=>none)
  (fun _ _=>fun _ _ _=>none)
  (fun _ _ _=>fun _ _ _=>none)
  (fun _ _=>fun _ _ _=>none)
def iE (l:List UInt8):List A:=l.map fun b=>.i .u8 b.toNat
def cellsOf (size n:Nat):A→Option (List A)
 | .sl none _ _ _=>some []
 | .sl (some (j,o)) _ _ _=>bif (n*size).beq 0 then some [] else match h.t.get j with
  | some (.cells _ tr _ _ _)=>rd tr o (n*size)
  | _=>none
 | .s l=>some (iE (l.take n))
 | _=>none
def mE (j o:Nat) (cs:List A):Option H :=
 match h.t.get j with
 | some (.cells e tr E c true)=>bif dU cs && (o+cs.length).ble E then some (h.turn j (.cells e (Qq tr o cs) E c true)) else none
 | _=>none
def Iw (t:TypeId) (a x:A):Option H :=
 match a,T.t t with
 | .p (some (j,o)),some ti=>bif x.cells.length.beq ti.size then mE h j o x.cells else none
 | _,_=>none
def FX (e:TypeId) (te:TI) (r:Option (Nat×Nat)) (lo:Nat) (c:Option Nat):Option H :=
 match c with
 | none=>some h
 | some x=>(match r with
  | none=>none
  | some (j,o)=>(match h.t.get j with
   | some (.cells e' _ E cz wr)=>(match cz with
    | some (y,z)=>cond (and (and wr (Nat.beq x y)) (and (Nat.beq z te.size) (and (Nat.ble (Nat.add o (Nat.mul lo te.size)) E) (Nat.beq e' e)))) (some (h.drop j)) none
    | none=>none)
   | _=>none))
def XY (te:TI):Bool :=
 match te.zero with
 | some z=>Nat.beq z.length te.size
 | none=>false
def vG (e:TypeId) (te:TI) (r:Option (Nat×Nat)) (len lo:Nat) (c:Option Nat) (new:List A) (need:Nat):Option (A×H) :=
 cond (and (and (Nat.ble need 100000) (Nat.ble te.bytes 100000)) (and (XY te) (and (dU new) (Nat.beq (Nat.mul (Nat.sub need len) te.size) new.length)))) (match cellsOf h te.size len (.sl r len lo c) with
  | none=>none
  | some old=>cond (Nat.beq old.length (Nat.mul len te.size)) (match FX h e te r lo c with
   | none=>none
   | some k=>some (.sl (some (h.nx,0)) need need (some h.nx),k.new (.cells e (Tr.fC .lf 0 (old++new)) (Nat.mul need te.size) (some (h.nx,te.size)) true))) none) none
def yQ (te:TI) (r:Option (Nat×Nat)) (len lo:Nat) (c:Option Nat) (new:List A) (n:Nat):Option (A×H) :=
 match r with
 | none=>some (.sl none (Nat.add len n) lo c,h)
 | some (j,o)=>(match new with
  | []=>some (.sl (some (j,o)) (Nat.add len n) lo c,h)
  | b::bs=>(match mE h j (Nat.add o (Nat.mul len te.size)) (b::bs) with
   | some k=>some (.sl (some (j,o)) (Nat.add len n) lo c,k)
   | none=>none))
def Lf (e:TypeId) (te:TI) (r:Option (Nat×Nat)) (len lo:Nat) (c:Option Nat) (new:List A) (n:Nat):Option (A×H) :=
 cond (Nat.ble (Nat.add len n) lo) (yQ h te r len lo c new n) (vG h e te r len lo c new (Nat.add len n))
def pz:List A→Option (List UInt8)
 | []=>some []
 | a::l=>(match a with
  | .i .u8 n=>(pz l).map fun r=>UInt8.ofNat n.toNat::r
  | _=>none)
def pE:List A→Option (List UInt8)
 | []=>some []
 | a::l=>(match a with
  | .i .i32 n=>(pE l).map fun r=>(Utf8.encode n).data.toList++r
  | _=>none)
def intD:TypeDesc→Option IntKind
 | .int k=>some k
 | _=>none
def Yc:TypeDesc→Bool
 | .slice _ | .string=>true
 | _=>false
def addend (te:TI) (u:TypeId) (v:A):Option (List A×Nat) :=
 match T.t u with
 | none=>none
 | some tu=>match intD tu.d with
  | some _=>(match v with
   | .i _ n=>(match n with
    | .ofNat n=>cond (and (Nat.ble n 100000) (Nat.ble te.bytes 1000000)) (match te.zero with
     | some z=>cond (Nat.beq z.length te.size) (some (iX z n,n)) none
     | none=>none) none
    | .negSucc _=>none)
   | _=>none)
  | none=>cond (Yc tu.d) (match v with
   | .s l=>some (iE l,l.length)
   | .sl q n m d=>(match cellsOf h te.size n (.sl q n m d) with
    | some new=>some (new,n)
    | none=>none)
   | _=>none) none
def tq (t u:TypeId) (x y:Operand):Option (A×H) :=
 match rz T t with
 | none=>none
 | some (e,te)=>match aZ T env y with
  | none=>none
  | some v=>match addend T h te u v with
   | none=>none
   | some (new,n)=>match aZ T env x with
    | some (.sl r len lo c)=>Lf h e te r len lo c new n
    | _=>none
def lZ:A→Option Nat
 | .sl _ n _ _=>some n
 | .s l=>some l.length
 | _=>none
def putCells (r:Option (Nat×Nat)) (new:List A):Option H :=
 match r with
 | none=>some h
 | some (j,o)=>(match new with
  | []=>some h
  | b::bs=>mE h j o (b::bs))
def Bj (t:TypeId) (x y:Operand):Option (A×H) :=
 match rz T t with
 | none=>none
 | some (_,te)=>match aZ T env y with
  | none=>none
  | some v=>match lZ v with
   | none=>none
   | some m=>match aZ T env x with
    | some (.sl r len _ _)=>(match cellsOf h te.size (cond (Nat.ble m len) m len) v with
     | none=>none
     | some new=>(match putCells h r new with
      | some k=>some (.i .i64 (cond (Nat.ble m len) m len:Nat),k)
      | none=>none))
    | _=>none
def xK (t:TypeId) (x:Operand):Option (A×H) :=
 match rz T t with
 | none=>none
 | some (_,te)=>match aZ T env x with
  | some (.sl r n _ _)=>(match te.zero with
   | none=>none
   | some z=>(match putCells h r (iX z n) with
    | some k=>some (.tup [],k)
    | none=>none))
  | _=>none
def yR (b:Builtin) (ts:List TypeId) (xs:List Operand):Option (A×H) :=
 match b with
 | .append=>(match ts,xs with
  | [t,u],[x,y]=>tq T env h t u x y
  | _,_=>none)
 | .copy=>(match ts,xs with
  | t::_,[x,y]=>Bj T env h t x y
  | _,_=>none)
 | .clear=>(match ts,xs with
  | t::_,[x]=>xK T env h t x
  | _,_=>none)
 | b=>(match Bh T env b ts xs with
  | some a=>some (a,h)
  | none=>none)
def nW (t:TypeId) (a x:Operand):Option (A×H) :=
 match aZ T env a with
 | none=>none
 | some p=>match aZ T env x with
  | none=>none
  | some v=>match Iw T h t p v with
   | some k=>some (.tup [],k)
   | none=>none
def rowOf (e:TypeId) (l:List UInt8):Option (A×H) :=
 match T.t e with
 | none=>none
 | some te=>match intD te.d with
  | some .u8=>some (.sl (some (h.nx,0)) l.length l.length (some h.nx),h.new (.cells e (Tr.fC .lf 0 (iE l)) l.length (some (h.nx,1)) false))
  | some .i32=>(match qc (Conv.runesFrom ⟨⟨l⟩⟩ l.length 0 #[]).toList with
   | some rs=>some (.sl (some (h.nx,0)) rs.length rs.length (some h.nx),h.new (.cells e (Tr.fC .lf 0 rs) rs.length (some (h.nx,1)) true))
   | none=>none)
  | _=>none
def strOf (e:TypeId) (n:Nat) (v:A):Option A :=
 match T.t e with
 | none=>none
 | some te=>match cellsOf h 1 n v with
  | none=>none
  | some l=>match intD te.d with
   | some .u8=>(pz l).map .s
   | some .i32=>(pE l).map .s
   | _=>none
def rC (s t:TypeId) (x:Operand):Option (A×H) :=
 match aZ T env x with
 | none=>none
 | some a=>match T.t s with
  | none=>none
  | some si=>match T.t t with
   | none=>none
   | some ti=>match a with
    | .s l=>(match ti.d with
     | .slice e=>rowOf T h e l
     | d=>(Bg d (.s l)).map fun b=>(b,h))
    | .sl r n lo c=>(match si.d,ti.d with
     | .slice e,.string=>(strOf T h e n (.sl r n lo c)).map fun b=>(b,h)
     | _,_=>none)
    | a=>(Bg ti.d a).map fun b=>(b,h)
def kU (t:TypeId) (x:Operand):Option (A×H) :=
 match T.t t with
 | none=>none
 | some ti=>match ti.d with
  | .string=>(match aZ T env x with
   | some (.s l)=>some (.p (some (h.nx,0)),h.new (.iter l 0))
   | _=>none)
  | _=>none
def Iy (j:Nat):Option (A×H) :=
 match h.t.get j with
 | some (.iter s pos) =>
  cond (Nat.blt pos s.length) (some (.tup [.b true,.i .i64 pos,.i .i32 (Utf8.decode ⟨⟨s⟩⟩ pos).1],h.turn j (.iter s (pos+(Utf8.decode ⟨⟨s⟩⟩ pos).2)))) (some (.tup [.b false],h))
 | _=>none
def rD (x:Operand) (isString:Bool):Option (A×H) :=
 match aZ T env x with
 | some (.p (some (j,o)))=>cond (and isString (Nat.beq o 0)) (Iy h j) none
 | _=>none
def nX (t:TypeId) (x:Operand) (lo hi mx:Option Operand):Option (A×H) :=
 match lo,hi,mx with
 | some l,none,none=>(match rz T t with
  | none=>none
  | some _=>(match aZ T env x with
   | some (.sl (some _) n lo (some _))=>(match xJ T env l with
    | some k=>cond (and (Nat.beq k n) (Nat.beq n lo)) (some (.sl (some (h.nx,0)) 0 0 (some h.nx),⟨h.t,h.nx+1⟩)) none
    | none=>none)
   | _=>none))
 | _,_,_=>none
def nY (t:TypeId) (x:Operand) (lo hi mx:Option Operand):Option (A×H) :=
 match mD T env t x lo hi mx with
 | some a=>some (a,h)
 | none=>nX T env h t x lo hi mx
def pv:Option A→Option (A×H)
 | some a=>some (a,h)
 | none=>none
def nb:Option (A×bZ)→Option (A×H)
 | some (a,b)=>some (a,h.new b)
 | none=>none
def rE (t:TypeId) (x:Operand):Option (A×H) :=
 match aZ T env x with
 | some p=>pv h (ru T h t p)
 | none=>none
def Bn (x y:Option (Nat×Nat)):Option Bool :=
 match x with
 | none=>(match y with
  | none=>some true
  | some _=>some false)
 | some (j,o)=>(match y with
  | none=>some false
  | some (i,u)=>cond (Nat.beq j i) (some (Nat.beq o u)) (match h.t.get j with
   | some (.cells _ _ _ _ true)=>(match h.t.get i with
    | some (.cells _ _ _ _ true)=>some false
    | _=>none)
   | _=>none))
def oQ (t:TypeId):Bool :=
 match T.t t with
 | some ⟨.pointer e,_,_,_,_⟩=>(match T.t e with
  | some ti=>not (Nat.beq ti.size 0)
  | none=>false)
 | _=>false
def Nz (op:BinOp) (t:TypeId) (x y:Operand):Option (A×H) :=
 match aZ T env x with
 | some (.p a)=>(match aZ T env y with
  | some (.p b)=>cond (oQ T t) (match Bn h a b with
   | some c=>(match jK op c with
    | some r=>some (r,h)
    | none=>none)
   | none=>none) none
  | _=>none)
 | _=>none
def xL (op:BinOp) (t:TypeId) (x y:Operand):Option (A×H) :=
 match vw T env op t x y with
 | some a=>some (a,h)
 | none=>Nz T env h op t x y
def rF (k:Option (Nat×Nat)):List (Option (Nat×Nat)×Option (Nat×Nat)×Nat)→Nat→Option (Option (Nat×Option (Nat×Nat)))
 | [],_=>some none
 | e::es,i=>match Bn h k e.1 with
  | some true=>some (some (i,e.2.1))
  | some false=>rF k es (i+1)
  | none=>none
def mapD (t:TypeId):Option TypeId :=
 match T.t t with
 | some ⟨.map k e,_,_,_,_⟩=>cond (oQ T k) (match T.t e with
  | some ⟨.pointer _,_,_,_,[9]⟩=>some k
  | _=>none) none
 | _=>none
def xM (r:Option Operand):Option (A×H) :=
 match r with
 | none=>some (.mr (some h.nx),h.new (.mp [] 0))
 | some _=>none
def kF (t:TypeId) (x ix:Operand) (ok:Bool):Option (A×H) :=
 cond ok none (match aZ T env x with
 | some (.mr (some j))=>(match aZ T env ix with
  | some (.p k)=>(match mapD T t with
   | some _=>(match h.t.get j with
    | some (.mp es _)=>(match rF h k es 0 with
     | some (some (_,v))=>some (.p v,h)
     | some none=>some (.p none,h)
     | none=>none)
    | _=>none)
   | none=>none)
  | _=>none)
 | _=>none)
def vH (t:TypeId) (x ix y:Operand):Option (A×H) :=
 match aZ T env x with
 | some (.mr (some j))=>(match aZ T env ix with
  | some (.p k)=>(match aZ T env y with
   | some (.p v)=>(match mapD T t with
    | some _=>(match h.t.get j with
     | some (.mp es c)=>(match rF h k es 0 with
      | some (some (i,_))=>some (.tup [],h.turn j (.mp (es.modify i fun e=>(k,v,e.2.2)) c))
      | some none=>some (.tup [],h.turn j (.mp (es++[(k,v,c)]) (c+1)))
      | none=>none)
     | _=>none)
    | none=>none)
   | _=>none)
  | _=>none)
 | _=>none
end
inductive eU where
 | code (r:Option Nat) (c:Code) (env:Tr A) (n:Nat) (ds:List Nat) (h:H)
 | pass (s c:Code) (env:Tr A) (n:Nat) (ds:List Nat) (h:H) (r:Option Nat)
 | call (f:FuncId) (args:List A) (h:H)
 | round (l:Nat) (args:List A) (h:H)
inductive Out where
 | left (e:Exit) (env:Tr A) (ds:List Nat) (h:H)
 | val (a:A) (h:H)
def jM (want:Bool):A→Bool
 | .b x=>(match x with | true=>want | false=>not want)
 | _=>false
def NG (env:Tr A) (want:Bool) (g:Oper):Option Bool :=
 match g.dst with
 | some d=>(match env.get d with
  | some a=>some (jM want a)
  | none=>none)
 | none=>some false
def gZ (ops:List Oper) (env:Tr A) (o:Oper):Option Bool :=
 match o.guard with
 | none=>some true
 | some (j,want)=>(match nth ops j with
  | some g=>NG env want g
  | none=>some false)
def jL (env:Tr A) (n:Nat) (d:Option Tmp) (a:A):Option (Tr A) :=
 match d with
 | none=>some env
 | some t=>bif t.blt n then some (env.put t (some a)) else none
def vI (env:Tr A):Nat→List A→Tr A
 | _,[]=>env
 | k,a::l=>vI (env.put k (some a)) (k+1) l
section
variable (T:Tab) (X:Nat→Option (List A→H→Option (A×H))) (ev:eU→Option Out)
def target (env:Tr A) (f:Operand) (xs:List Operand):Option (Sum (Nat×List A) (Nat×List A)) :=
 match mW T env xs with
 | none=>none
 | some l=>match aZ T env f with
  | some (.fn f a b)=>some (.inl (f,a++l++b))
  | some (.yl j)=>some (.inr (j,l))
  | _=>none
def WI:Option Out→Option (A×H)
 | some (.val a k)=>some (a,k)
 | _=>none
def NJ (env:Tr A) (h:H) (f:Operand) (xs:List Operand):Option (A×H) :=
 match target T env f xs with
 | none=>none
 | some (.inl (f,l))=>WI (ev (.call f l h))
 | some (.inr (j,l))=>WI (ev (.round j l h))
def nJ (env:Tr A) (h:H) (c:Call):Option (A×H) :=
 match c.callee with
 | .value f=>NJ T ev env h f c.args.toList
 | .builtin b=>yR T env h b c.argTypes.toList c.args.toList
 | _=>none
end
def kG:Op→Tab→(eU→Option Out)→Tr A→H→Option (A×H) :=
 @Op.rec (fun _=>Tab→(eU→Option Out)→Tr A→H→Option (A×H))
  (fun x T _ev env h=>pv h (aZ T env x))
  (fun x T _ev env h=>pv h (aZ T env x))
  (fun c a b T _ev env h=>pv h (vo T env c a b))
  (fun e T _ev _env h=>nb h (sZ T h.nx e))
  (fun e x T _ev env h=>nb h (vD T env h.nx e x))
  (fun t ps T _ev env h=>pv h (qh T env t ps.toList))
  (fun t l ps T _ev env h=>nb h (vE T env h.nx t l ps.toList))
  (fun _ _ _ _=>fun _ _ _ _=>none)
  (fun t x T _ev env h=>rE T env h t x)
  (fun t a x T _ev env h=>nW T env h t a x)
  (fun _=>fun _ _ _ _=>none)
  (fun _=>fun _ _ _ _=>none)
  (fun x T _ev env h=>pv h (zR T env x))
  (fun op t x y _u T _ev env h=>xL T env h op t x y)
  (fun op _t x T _ev env h=>pv h (Ir T env op x))
  (fun s t x T _ev env h=>rC T env h s t x)
  (fun _ _=>fun _ _ _ _=>none)
  (fun _ _=>fun _ _ _ _=>none)
  (fun f fs cs T _ev env h=>pv h (zS T env f fs.toList cs.toList))
  (fun _ r _ _ev _ h=>xM h r)
  (fun _ _=>fun _ _ _ _=>none)
  (fun t l c T _ev env h=>nb h (vF T env h.nx t l c))
  (fun t x lo hi mx T _ev env h=>nY T env h t x lo hi mx)
  (fun s x f T _ev env h=>pv h (qj T env s x f))
  (fun s x f T _ev env h=>pv h (ql T env s x f))
  (fun t x ix T _ev env h=>pv h (qm T env t x ix))
  (fun t x ix T _ev env h=>pv h (qo T env t x ix))
  (fun t x ix ok T _ev env h=>kF T env h t x ix ok)
  (fun t x ix y T _ev env h=>vH T env h t x ix y)
  (fun _ _ _=>fun _ _ _ _=>none)
  (fun _ _ _ _=>fun _ _ _ _=>none)
  (fun t x T _ev env h=>kU T env h t x)
  (fun x s T _ev env h=>rD T env h x s)
  (fun _=>fun _ _ _ _=>none)
  (fun _ _ _ _=>fun _ _ _ _=>none)
  (fun x ix T _ev env h=>pv h (vC T env x ix))
  (fun c T ev env h=>nJ T ev env h c)
  (fun _=>fun _ _ _ _=>none)
  (fun _=>fun _ _ _ _=>none)
  (fun _=>fun _ _ _ _=>none)
  (fun _ _=>fun _ _ _ _=>none)
  (fun _ _ _=>fun _ _ _ _=>none)
  (fun _ _=>fun _ _ _ _=>none)
end Go.Proofs.YteemnmalikomgaaGreatDoor.Ev
namespace Go.Proofs.YteemnmalikomgaaGreatDoor.Ev
def rG (e:Edge):Bool:=match e.ground with
 | .textOnly _ | .gcOnly _=>false
 | _=>true
def rH (t:Tr Nat):List Edge→Nat→Nat
 | [],s=>s
 | e::l,s=>bif rG e then rH t l (s ||| 2 ^ e.on ||| match t.get e.on with | some m=>m | none=>0) else rH t l s
def dX:List Oper→Nat→Tr Nat→Tr Nat
 | [],_,t=>t
 | o::l,i,t=>dX l (i+1) (t.put i (some (rH t o.after.toList 0)))
def tmpsOf:List Operand→List Nat
 | []=>[]
 | .tmp t::l=>t::tmpsOf l
 | _::l=>tmpsOf l
def aK:Op→List Operand
 | .alloc _ | .ready _ | .waits _=>[]
 | .move x | .assign x | .box _ x | .load _ x | .nilCheck x | .unOp _ _ x | .convert _ _ x | .sliceToArrayPointer _ x | .makeInterface _ x
 | .makeChan _ x | .fieldAddr _ x _ | .field _ x _ | .range _ x | .next x _ | .entry x | .typeAssert x _ _ _ | .extract x _ | .panic x | .recv _ x _=>[x]
 | .pick c a b=>[c,a,b]
 | .build _ ps | .buildSlice _ _ ps=>ps.toList.map (·.2)
 | .store _ a v | .binOp _ _ a v _ | .makeSlice _ a v | .indexAddr _ a v | .index _ a v | .lookup _ a v _ | .mapEntry _ a v | .send a v=>[a,v]
 | .makeFunc _ first captured=>first.toList++captured.toList
 | .makeMap _ r=>r.toList
 | .slice _ x l h m=>x::(l.toList++h.toList++m.toList)
 | .mapUpdate _ m k v | .entryStore _ m k v | .insert _ m k v=>[m,k,v]
 | .call c=>(match c.callee with | .value f=>[f] | .invoke r _=>[r] | .builtin _=>[])++c.args.toList
 | _=>[]
def writer:List Oper→Nat→Nat→Option Nat
 | [],_,_=>none
 | o::l,i,t=>match o.dst with
  | some d=>bif d.beq t then some i else writer l (i+1) t
  | none=>writer l (i+1) t
def known (ops:List Oper) (bt:Tr Nat) (i m:Nat):List Nat→Bool
 | []=>true
 | t::l=>(match writer ops 0 t with | some k=>m.testBit k || (match bt.get k with | some mk=>mk.testBit i | none=>false) | none=>true) && known ops bt i m l
def jT:List Oper→List Nat→Bool
 | [],_=>true
 | o::l,seen=>match o.dst with
  | some d=> !(seen.any fun x=>x.beq d) && jT l (d::seen)
  | none=>jT l seen
def XH:Builtin→Nat
 | .len | .cap | .min | .max=>0
 | _=>3
def XI (c:Call):Nat :=
 match c.callee with
 | .builtin b=>XH b
 | _=>3
def kindOf:Op→Nat :=
 @Op.rec (fun _=>Nat)
  (fun _x=>0)
  (fun _x=>0)
  (fun _c _a _b=>0)
  (fun _e=>2)
  (fun _e _x=>2)
  (fun _t _ps=>0)
  (fun _t _l _ps=>2)
  (fun _ _ _ _=>3)
  (fun _t _x=>1)
  (fun _ _ _=>3)
  (fun _=>3)
  (fun _=>3)
  (fun _x=>0)
  (fun _op _t _x _y _u=>0)
  (fun _op _t _x=>0)
  (fun _s _t _x=>4)
  (fun _ _=>3)
  (fun _ _=>3)
  (fun _f _fs _cs=>0)
  (fun _ _=>3)
  (fun _ _=>3)
  (fun _t _l _c=>2)
  (fun _t _x _lo _hi _mx=>0)
  (fun _s _x _f=>0)
  (fun _s _x _f=>0)
  (fun _t _x _ix=>0)
  (fun _t _x _ix=>0)
  (fun _ _ _ _=>3)
  (fun _ _ _ _=>3)
  (fun _ _ _=>3)
  (fun _ _ _ _=>3)
  (fun _ _=>3)
  (fun _ _=>3)
  (fun _=>3)
  (fun _ _ _ _=>3)
  (fun _x _ix=>0)
  (fun c=>XI c)
  (fun _=>3)
  (fun _=>3)
  (fun _=>3)
  (fun _ _=>3)
  (fun _ _ _=>3)
  (fun _ _=>3)
mutual
def nZ:A→A→Bool
 | .b x,.b y=>x == y
 | .i k a,.i l b=>decide (k=l) && Lb k a l b
 | .s a,.s b=>Bc a b
 | .p none,.p none=>true
 | .p (some (j,o)),.p (some (i,u))=>j.beq i && o.beq u
 | .sl r n lo c,.sl q m la d=>(match r,q with | none,none=>true | some (j,o),some (i,u)=>j.beq i && o.beq u | _,_=>false) && n.beq m && lo.beq la &&
   (match c,d with | none,none=>true | some x,some y=>x.beq y | _,_=>false)
 | .fn f a b,.fn g c d=>f.beq g && vJ a c && vJ b d
 | .yl l,.yl m=>l.beq m
 | .agg l,.agg m=>vJ l m
 | .tup l,.tup m=>vJ l m
 | .nf,.nf=>true
 | .ni,.ni=>true
 | _,_=>false
def vJ:List A→List A→Bool
 | [],[]=>true
 | a::l,b::r=>nZ a b && vJ l r
 | _,_=>false
end
structure gX where
 op:Nat
 id:Nat
 blk:bZ
structure Look where
 op:Nat
 t:TypeId
 p:A
 a:A
structure Dr where
 env:Tr A
 h:H
 xs:List gX
 ch:List Nat
 hs:List H
 lk:List Look
 al:List gX
def eF (m:Nat):List gX→Tr bZ→Tr bZ
 | [],t=>t
 | p::l,t=>bif m.testBit p.op then eF m l (t.put p.id (some p.blk)) else eF m l t
def dh:List gX→Tr bZ→Tr bZ
 | [],t=>t
 | p::l,t=>dh l (t.put p.id (some p.blk))
def yS (m:Nat):List gX→List gX
 | []=>[]
 | p::l=>bif m.testBit p.op then yS m l else p::yS m l
section
variable (T:Tab) (ev:eU→Option Out)
def Bo (n:Nat) (d:Option Tmp) (s:Dr) (a:A):Option Dr :=
 match jL s.env n d a with
 | some e=>some { s with env:=e }
 | none=>none
def Bp (n:Nat) (o:Oper) (s:Dr):Option Dr :=
 match yP o.op T s.env with
 | some a=>Bo n o.dst s a
 | none=>none
def Qr (n i m:Nat) (d:Option Tmp) (s:Dr) (t:TypeId) (x:Operand):Option Dr :=
 match aZ T s.env x with
 | none=>none
 | some p=>match ru T ⟨eF m s.xs s.h.t,s.h.nx⟩ t p with
  | none=>none
  | some a=>match jL s.env n d a with
   | some e=>some { s with env:=e,lk:=⟨i,t,p,a⟩::s.lk }
   | none=>none
def UL (n i:Nat) (o:Oper) (s:Dr):Option Dr :=
 match Iu o.op T s.env s.h.nx with
 | none=>none
 | some (a,b)=>match jL s.env n o.dst a with
  | some e=>some { s with env:=e,h:=⟨s.h.t,s.h.nx+1⟩,xs:=⟨i,s.h.nx,b⟩::s.xs,al:=⟨i,s.h.nx,b⟩::s.al }
  | none=>none
def Iz (m:Nat):List Nat→Bool
 | []=>true
 | c::_=>m.testBit c
def yT (n i m:Nat) (o:Oper) (s:Dr):Option Dr :=
 cond (Iz m s.ch) (match kG o.op T ev s.env ⟨eF m s.xs s.h.t,s.h.nx⟩ with
  | none=>none
  | some (a,k)=>match jL s.env n o.dst a with
   | some e=>some { s with env:=e,h:=k,xs:=yS m s.xs,ch:=i::s.ch,hs:=k::s.hs }
   | none=>none) none
def zT (n i m:Nat) (o:Oper) (s:Dr):Option Dr :=
 match kindOf o.op with
 | 0=>Bp T n o s
 | 1=>(match o.op with
  | .load t x=>Qr T n i m o.dst s t x
  | _=>none)
 | 2=>UL T n i o s
 | 3=>yT T ev n i m o s
 | _=>(match Bp T n o s with
  | some r=>some r
  | none=>yT T ev n i m o s)
def tC (m:Nat):Option (Nat×Bool)→Bool
 | none=>true
 | some (j,_)=>m.testBit j
def Bq (ops:List Oper) (n:Nat) (bt:Tr Nat) (i:Nat) (o:Oper) (s:Dr):Option Dr :=
 match bt.get i with
 | none=>none
 | some m =>
  cond (and (and (Nat.blt m (Nat.pow 2 i)) (tC m o.guard)) (known ops bt i m (tmpsOf (aK o.op))))
   (match gZ ops s.env o with
   | none=>none
   | some w=>cond w (zT T ev n i m o s) (Bo n o.dst s (.tup []))) none
def FY (ops:List Oper) (n:Nat) (bt:Tr Nat):List Oper→Nat→Dr→Option Dr
 | [],_,s=>some s
 | o::l,i,s=>match Bq T ev ops n bt i o s with
  | some s'=>FY ops n bt l (i+1) s'
  | none=>none
def fV (bt:Tr Nat) (j:Nat):List Nat→Bool
 | []=>false
 | c::l=>(match bt.get c with | some m=>m.testBit j | none=>true) || fV bt j l
def still (bt:Tr Nat) (cs:List Nat):List gX→List gX
 | []=>[]
 | p::l=>bif fV bt p.op cs then still bt cs l else p::still bt cs l
def jv (bt:Tr Nat) (xs:List gX) (l:Look) (m:Nat):List Nat→List H→Bool
 | [],k::_=>at_ [] k
 | c::cs,k::ks =>
  match bt.get c with
  | none=>false
  | some mc =>
   bif mc.testBit l.op then jv bt xs l m cs ks
   else at_ (c::cs) k && bif m.testBit c then true else jv bt xs l m cs ks
 | _,[]=>false
where
 at_ (cs:List Nat) (k:H):Bool:=match ru T ⟨eF m (still bt cs xs) k.t,k.nx⟩ l.t l.p with
  | some a=>nZ a l.a
  | none=>false
def mX (bt:Tr Nat) (xs:List gX) (ch:List Nat) (hs:List H):List Look→Bool
 | []=>true
 | l::r=>(match bt.get l.op with | some m=>jv T bt xs l m ch hs | none=>false) && mX bt xs ch hs r
def tF (ops:Array Oper) (n:Nat) (env:Tr A) (h:H):Option (Tr A×H) :=
 let l:=ops.toList
 let bt:=dX l 0 .lf
 bif jT l [] then
  match FY T ev l n bt l 0 ⟨env,h,[],[],[h],[],[]⟩ with
  | some s=>bif mX T bt s.al s.ch s.hs s.lk then some (s.env,⟨dh s.xs s.h.t,s.h.nx⟩) else none
  | none=>none
 else none
def op2 (n:Nat) (o:Oper) (env:Tr A) (r:Option (A×H)):Option (Tr A×H) :=
 match r with
 | none=>none
 | some (a,k)=>(match jL env n o.dst a with
  | some e=>some (e,k)
  | none=>none)
def op1 (ops:List Oper) (n:Nat) (o:Oper) (env:Tr A) (h:H):Option (Tr A×H) :=
 match gZ ops env o with
 | none=>none
 | some w=>op2 n o env (@Bool.rec (fun _=>Option (A×H)) (some (.tup [],h)) (kG o.op T ev env h) w)
def WJ (f:Tr A→H→Option (Tr A×H)):Option (Tr A×H)→Option (Tr A×H)
 | some (e,k)=>f e k
 | none=>none
end
def zU:List Oper→Tab→(eU→Option Out)→List Oper→Nat→Tr A→H→Option (Tr A×H) :=
 @List.rec Oper (fun _=>Tab→(eU→Option Out)→List Oper→Nat→Tr A→H→Option (Tr A×H)) (fun _ _ _ _ env h=>some (env,h))
  (fun o _ ih T ev ops n env h=>WJ (ih T ev ops n) (op1 T ev ops n o env h))
section
variable (T:Tab) (ev:eU→Option Out)
def Di (env:Tr A) (h:H):List ResultVar→Option (List A)
 | []=>some []
 | .tmp t::l=>match env.get t,Di env h l with
  | some a,some r=>some (a::r)
  | _,_=>none
 | .cell p t::l=>match env.get p with
  | some a=>match ru T h t a,Di env h l with
   | some a,some r=>some (a::r)
   | _,_=>none
  | none=>none
def lV (h:H):List Nat→Option H
 | []=>some h
 | d::l=>match h.t.get d with
  | some .df=>lV (h.drop d) l
  | _=>none
def FZ (env:Tr A) (n:Nat):List Tmp→List A→Option (Tr A)
 | [],[]=>some env
 | t::l,a::r=>bif t.blt n then FZ (env.put t (some a)) n l r else none
 | _,_=>none
variable (X:Nat→Option (List A→H→Option (A×H)))
def NK (ds:List Nat):Option (Tr A×H)→Option Out
 | some (e,k)=>some (.left .normal e ds k)
 | none=>none
def Br (r:Option Nat) (n:Nat) (c:Code):Option Out→Option Out
 | some (.left .normal e ds k)=>ev (.code r c e n ds k)
 | x=>x
def Qs (id:Nat):Option Out→Option Out
 | some (.left (.exit i) e ds k)=>cond (Nat.beq i id) (some (.left .normal e ds k)) (some (.left (.exit i) e ds k))
 | x=>x
def NP (r:Option Nat) (c:Operand) (a b:Code) (env:Tr A) (n:Nat) (ds:List Nat) (h:H):Option Out :=
 match aZ T env c with
 | some (.b x)=>ev (.code r (cond x a b) env n ds h)
 | _=>none
def around (r:Option Nat) (h:H) (ds:List Nat):Option (H×Nat×List Nat) :=
 match r with
 | none=>some (h.new .df,h.nx,h.nx::ds)
 | some l=>match h.t.get l with
  | some (.lp _ _ _ _ _ _ _ d)=>some (h,d,ds)
  | _=>none
def UM (r:Option Nat) (env:Tr A) (n:Nat) (ds:List Nat) (l:Nat):Option Out→Option Out
 | some (.val _ k)=>(match k.t.get l with
  | some (.lp .ready none _ _ _ _ _ _)=>some (.left .normal env ds (k.drop l))
  | some (.lp .done (some c) _ _ _ _ _ _)=>ev (.code r c env n ds (k.drop l))
  | _=>none)
 | _=>none
def WK (r:Option Nat) (f:Operand) (ps:Array Tmp) (asg body:Code) (env:Tr A) (n:Nat) (ds:List Nat) (h:H):Option Out :=
 match aZ T env f with
 | some (.fn g fs cs)=>(match around r h ds with
  | some (h1,d,ds)=>UM ev r env n ds h1.nx (ev (.call g (fs++.yl h1.nx::cs) (h1.new (.lp .ready none env n ps asg body d))))
  | none=>none)
 | _=>none
end
def UN:Code→Tab→(eU→Option Out)→Option Nat→Tr A→Nat→List Nat→H→Option Out :=
 @Code.rec (fun _=>Tab→(eU→Option Out)→Option Nat→Tr A→Nat→List Nat→H→Option Out)
  (fun _ _ _ env _ ds h=>some (.left .normal env ds h))
  (fun _ ops draw T ev _ env n ds h=>NK ds (@Bool.rec (fun _=>Option (Tr A×H)) (zU ops.toList T ev ops.toList n env h) (tF T ev ops n env h) draw))
  (fun a b _ _ _ ev r env n ds h=>Br ev r n b (ev (.code r a env n ds h)))
  (fun c a b _ _ T ev r env n ds h=>NP T ev r c a b env n ds h)
  (fun id c _ _ ev r env n ds h=>Qs id (ev (.code r c env n ds h)))
  (fun c _ _ ev r env n ds h=>Br ev r n (.loop c) (ev (.code r c env n ds h)))
  (fun f ps asg body _ _ T ev r env n ds h=>WK T ev r f ps asg body env n ds h)
  (fun id _ _ _ env _ ds h=>some (.left (.exit id) env ds h))
  (fun c _ _ ev r env n ds h=>ev (.pass c c env n ds h r))
  (fun _ _ _ _ env _ ds h=>some (.left .normal env ds h))
  (fun l _ _ _ env _ ds h=>some (.left (.goto l) env ds h))
  (fun _ _ _ env _ ds h=>some (.left .ret env ds h))
  (fun _ _ _ _ _ _ _ _=>none)
section
variable (T:Tab) (ev:eU→Option Out) (X:Nat→Option (List A→H→Option (A×H)))
def UO (s:Code) (n:Nat) (r:Option Nat):Option Out→Option Out
 | some (.left (.goto l) e ds k)=>(match findLabel s l with
  | some rest=>ev (.pass s rest e n ds k r)
  | none=>some (.left (.goto l) e ds k))
 | x=>x
def vK (fn:Func) (env:Tr A) (ds:List Nat) (h:H):Option Out :=
 match lV h ds with
 | none=>none
 | some k=>match Di T env k fn.results.toList with
  | none=>none
  | some l=>some (.val (match l with | [a]=>a | l=>.tup l) k)
def WL (fn:Func):Option Out→Option Out
 | some (.left .normal env ds h)=>vK T fn env ds h
 | some (.left .ret env ds h)=>vK T fn env ds h
 | _=>none
def IC (f:FuncId) (args:List A) (h:H):Option Out :=
 match T.fn.get f with
 | some ⟨fn,true⟩=>(match fn.body with
  | some c=>WL T fn (ev (.code none c (vI .lf 0 args) (Nat.max fn.ntmps args.length) [] h))
  | none=>none)
 | _=>none
def Qt (x:List A→H→Option (A×H)) (args:List A) (h:H):Option Out :=
 match x args h with
 | some (a,k)=>some (.val a k)
 | none=>none
def Qu:Exit→Option (Option Code)
 | .normal=>some none
 | .ret=>some (some .ret)
 | .exit i=>some (some (.exit i))
 | .goto i=>some (some (.goto i))
 | _=>none
def endRound (l:Nat):Option Out→Option Out
 | some (.left x _ [] k)=>(match k.t.get l with
  | some (.lp _ _ env n ps asg body d)=>(match Qu x with
   | some none=>some (.val (.b true) (k.turn l (.lp .ready none env n ps asg body d)))
   | some (some c)=>some (.val (.b false) (k.turn l (.lp .done (some c) env n ps asg body d)))
   | none=>none)
  | _=>none)
 | _=>none
def IE (l n:Nat) (body:Code):Option Out→Option Out
 | some (.left .normal e [] k)=>(match k.t.get l with
  | some (.lp .ready p env m ps asg b d)=>endRound l (ev (.code (some l) body e n [] (k.turn l (.lp .busy p env m ps asg b d))))
  | _=>none)
 | _=>none
def IG (l:Nat) (args:List A) (h:H):Option Out :=
 match h.t.get l with
 | some (.lp .ready _ env n ps asg body _)=>(match FZ env n ps.toList args with
  | some e=>IE ev l n body (ev (.code (some l) asg e n [] h))
  | none=>none)
 | _=>none
end
def NQ (f:FuncId) (args:List A) (h:H) (T:Tab) (ev:eU→Option Out) (X:Nat→Option (List A→H→Option (A×H))):Option Out :=
 match X f with
 | some x=>Qt x args h
 | none=>IC T ev f args h
def step:eU→Tab→(eU→Option Out)→(Nat→Option (List A→H→Option (A×H)))→Option Out :=
 @eU.rec (fun _=>Tab→(eU→Option Out)→(Nat→Option (List A→H→Option (A×H)))→Option Out)
  (fun r c env n ds h T ev _=>UN c T ev r env n ds h)
  (fun s c env n ds h r _ ev _=>UO ev s n r (ev (.code r c env n ds h)))
  NQ
  (fun l args h _ ev _=>IG ev l args h)
def ev (T:Tab) (X:Nat→Option (List A→H→Option (A×H))):Nat→eU→Option Out :=
 @Nat.rec (fun _=>eU→Option Out) (fun _=>none) (fun _ ih j=>step j T ih X)
def runs (T:Tab) (X:Nat→Option (List A→H→Option (A×H))) (n f:Nat) (h:H):Bool :=
 match ev T X n (.call f [] h) with
 | some (.val (.b true) _)=>true
 | _=>false
end Go.Proofs.YteemnmalikomgaaGreatDoor.Ev
