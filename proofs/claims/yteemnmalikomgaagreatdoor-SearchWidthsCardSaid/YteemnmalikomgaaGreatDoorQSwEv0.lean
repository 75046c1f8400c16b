import Derived.CallsIn
import Derived.OrdersIn
noncomputable section
namespace Go.Proofs.YteemnmalikomgaaGreatDoor.Ev
inductive Tr (α:Type) where
 | lf:Tr α
 | nd (o:Option α) (l r:Tr α):Tr α
namespace Tr
variable {α:Type}
def get (t:Tr α):Nat→Option α :=
 @Tr.rec α (fun _=>Nat→Option α) (fun _=>none) (fun o _ _ gl gr k=> @Bool.rec (fun _=>Option α) (@Bool.rec (fun _=>Option α) (gr (Nat.sub (Nat.div k 2) 1)) (gl (Nat.div k 2)) (Nat.beq (Nat.mod k 2) 1)) o (Nat.beq k 0)) t
def xI (n:Nat):Tr α→Nat→Option α→Tr α :=
 @Nat.rec (fun _=>Tr α→Nat→Option α→Tr α) (fun t _ _=>t) (fun _ ih t k v=> @Tr.rec α (fun _=>Tr α)
  (@Bool.rec (fun _=>Tr α) (@Bool.rec (fun _=>Tr α) (.nd none .lf (ih .lf (Nat.sub (Nat.div k 2) 1) v)) (.nd none (ih .lf (Nat.div k 2) v) .lf) (Nat.beq (Nat.mod k 2) 1)) (.nd v .lf .lf) (Nat.beq k 0))
  (fun o l r _ _=> @Bool.rec (fun _=>Tr α) (@Bool.rec (fun _=>Tr α) (.nd o l (ih r (Nat.sub (Nat.div k 2) 1) v)) (.nd o (ih l (Nat.div k 2) v) r) (Nat.beq (Nat.mod k 2) 1)) (.nd v l r) (Nat.beq k 0)) t) n
theorem CY (b:Bool) (x y:α) : @Bool.rec (fun _=>α) y x b=bif b then x else y:=by cases b<;>rfl
theorem Qp (o:Option α) (l r:Tr α) (k:Nat):(Tr.nd o l r).get k=bif k.beq 0 then o else bif (k % 2).beq 1 then l.get (k / 2) else r.get (k / 2 - 1):=(CY _ _ _).trans (congrArg (cond _ _) (CY _ _ _))
theorem CZ (n k:Nat) (v:Option α):xI (n+1) .lf k v=bif k.beq 0 then .nd v .lf .lf else bif (k % 2).beq 1 then .nd none (xI n .lf (k / 2) v) .lf else .nd none .lf (xI n .lf (k / 2 - 1) v):=(CY _ _ _).trans (congrArg (cond _ _) (CY _ _ _))
theorem C9 (n k:Nat) (o:Option α) (l r:Tr α) (v:Option α):xI (n+1) (.nd o l r) k v=bif k.beq 0 then .nd v l r else bif (k % 2).beq 1 then .nd o (xI n l (k / 2) v) r else .nd o l (xI n r (k / 2 - 1) v):=(CY _ _ _).trans (congrArg (cond _ _) (CY _ _ _))
def put (t:Tr α) (k:Nat) (v:Option α):Tr α:=xI (k+1) t k v
theorem three (k:Nat):k=0∨(∃m,k=2*m+1)∨∃m,k=2*m+2:=by
 rcases Nat.mod_two_eq_zero_or_one k with h | h
 ·by_cases h0:k=0
  ·exact .inl h0
  ·exact .inr (.inr ⟨k / 2 - 1,by omega⟩)
 ·exact .inr (.inl ⟨k / 2,by omega⟩)
theorem odd (m:Nat):(2*m+1) / 2=m∧((2*m+1).beq 0)=false∧(((2*m+1) % 2).beq 1)=true:=⟨by omega,rfl,by rw [show (2*m+1) % 2=1 by omega]; rfl⟩
theorem even (m:Nat):(2*m+2) / 2 - 1=m∧((2*m+2).beq 0)=false∧(((2*m+2) % 2).beq 1)=false:=⟨by omega,rfl,by rw [show (2*m+2) % 2=0 by omega]; rfl⟩
theorem Tj (o:Option α) (l r:Tr α):(Tr.nd o l r).get 0=o:=rfl
theorem Tk (o:Option α) (l r:Tr α) (m:Nat):(Tr.nd o l r).get (2*m+1)=l.get m:=by simp only [Qp,odd m,cond_true,cond_false]
theorem Tm (o:Option α) (l r:Tr α) (m:Nat):(Tr.nd o l r).get (2*m+2)=r.get m:=by simp only [Qp,even m,cond_false]
theorem p8 (k:Nat):(Tr.lf:Tr α).get k=none:=rfl
theorem Tn:∀(n:Nat) (t:Tr α) (k:Nat) (v:Option α),k<n→∀j,(xI n t k v).get j=if j=k then v else t.get j:=by
 intro n
 induction n with
 | zero=>intro t k v h; omega
 | succ n ih =>
  intro t k v h j
  have b0:Nat.beq 0 0=true:=rfl
  rcases three k with rfl | ⟨m,rfl⟩ | ⟨m,rfl⟩
  ·rcases three j with rfl | ⟨i,rfl⟩ | ⟨i,rfl⟩<;>cases t<;>simp only [CZ,C9,b0,cond_true,Tj,Tk,Tm,p8]<;>simp
  ·have:=fun t=>ih t m v (by omega)
   rcases three j with rfl | ⟨i,rfl⟩ | ⟨i,rfl⟩<;>cases t<;>simp only [CZ,C9,odd m,cond_true,cond_false,Tj,Tk,Tm,p8,this]
   ·rw [if_neg (by omega)]
   ·rw [if_neg (by omega)]
   ·by_cases e:i=m
    ·rw [if_pos e,if_pos (by omega)]
    ·rw [if_neg e,if_neg (by omega)]
   ·by_cases e:i=m
    ·rw [if_pos e,if_pos (by omega)]
    ·rw [if_neg e,if_neg (by omega)]
   ·rw [if_neg (by omega)]
   ·rw [if_neg (by omega)]
  ·have:=fun t=>ih t m v (by omega)
   rcases three j with rfl | ⟨i,rfl⟩ | ⟨i,rfl⟩<;>cases t<;>simp only [CZ,C9,even m,cond_false,Tj,Tk,Tm,p8,this]
   ·rw [if_neg (by omega)]
   ·rw [if_neg (by omega)]
   ·rw [if_neg (by omega)]
   ·rw [if_neg (by omega)]
   ·by_cases e:i=m
    ·rw [if_pos e,if_pos (by omega)]
    ·rw [if_neg e,if_neg (by omega)]
   ·by_cases e:i=m
    ·rw [if_pos e,if_pos (by omega)]
    ·rw [if_neg e,if_neg (by omega)]
theorem get_put (t:Tr α) (k:Nat) (v:Option α) (j:Nat):(t.put k v).get j=if j=k then v else t.get j:=Tn (k+1) t k v (by omega) j
theorem qb (t:Tr α) (k:Nat) (v:Option α):(t.put k v).get k=v:=by simp [get_put]
theorem kD (t:Tr α) {k j:Nat} (v:Option α) (h:j≠k):(t.put k v).get j=t.get j:=by simp [get_put,h]
def fC:Tr α→Nat→List α→Tr α
 | t,_,[]=>t
 | t,k,x::l=>fC (t.put k (some x)) (k+1) l
theorem Da (l:List α):∀(t:Tr α) (k j:Nat),(fC t k l).get j=if k≤j∧j<k+l.length then l[j - k]? else t.get j:=by
 induction l with
 | nil=>intro t k j; simp [fC]; omega
 | cons x l ih =>
  intro t k j
  simp only [fC,ih,get_put,List.length_cons]
  by_cases h1:j=k
  ·subst h1
   rw [if_neg (by omega),if_pos rfl,if_pos (by omega),Nat.sub_self]; rfl
  ·by_cases h2:k≤j∧j<k+(l.length+1)
   ·have:k+1≤j∧j<k+1+l.length:=by omega
    simp only [this,h2,if_true,and_self]
    obtain ⟨m,rfl⟩:∃m,j=k+1+m:=⟨j - (k+1),by omega⟩
    rw [show k+1+m - (k+1)=m by omega,show k+1+m - k=m+1 by omega]; simp
   ·have:¬(k+1≤j∧j<k+1+l.length):=by omega
    simp [this,h2,h1]
end Tr
end Go.Proofs.YteemnmalikomgaaGreatDoor.Ev
namespace Go.Proofs.YteemnmalikomgaaGreatDoor.Ev
inductive A where
 | b (x:Bool)
 | i (k:IntKind) (n:Int)
 | s (l:List UInt8)
 | p (r:Option (Nat×Nat))
 | sl (r:Option (Nat×Nat)) (len lo:Nat) (c:Option Nat)
 | fn (f:FuncId) (fs cs:List A)
 | yl (l:Nat)
 | agg (l:List A)
 | tup (l:List A)
 | nf
 | ni
 | mr (r:Option Nat)
structure Val where
 dom:Nat→Prop
 blk:Nat→Nat
 off:Nat→Nat
 cap:Nat→Nat
def Val.ad (σ:Val) (r:Nat×Nat):Addr:=⟨σ.blk r.1,σ.off r.1+r.2,none⟩
def Val.ex (σ:Val):Option Nat→Nat
 | none=>0
 | some c=>σ.cap c
mutual
def A.den (σ:Val):A→Value
 | .b x=>.bool x
 | .i k n=>.int k n
 | .s l=>.string ⟨⟨l⟩⟩
 | .p r=>.pointer (r.map σ.ad)
 | .sl r n lo c=>.slice (r.map σ.ad) n (lo+σ.ex c)
 | .fn f fs cs=>.func (.func f) ⟨A.aj σ fs⟩ ⟨A.aj σ cs⟩
 | .yl l=>.func (.yield (σ.blk l)) #[] #[]
 | .agg l=>.agg ⟨A.aj σ l⟩
 | .tup l=>.tuple ⟨A.aj σ l⟩
 | .nf=>.nilFunc
 | .ni=>.nilIface
 | .mr r=>.map (r.map σ.blk)
def A.aj (σ:Val):List A→List Value
 | []=>[]
 | a::l=>a.den σ::A.aj σ l
end
mutual
def A.ok (D:Nat→Prop):A→Prop
 | .p (some r)=>D r.1
 | .sl r _ _ c=>(∀x,r=some x→D x.1)∧(∀x,c=some x→D x)
 | .fn _ fs cs=>A.oks D fs∧A.oks D cs
 | .yl l=>D l
 | .agg l=>A.oks D l
 | .tup l=>A.oks D l
 | .mr (some l)=>D l
 | _=>True
def A.oks (D:Nat→Prop):List A→Prop
 | []=>True
 | a::l=>a.ok D∧A.oks D l
end
theorem dD (σ:Val):∀l,A.aj σ l=l.map (A.den σ)
 | []=>rfl
 | a::l=>by simp [A.aj,dD σ l]
theorem gP {D:Nat→Prop}:∀ {l:List A},A.oks D l↔∀a∈l,a.ok D
 | []=>by simp [A.oks]
 | a::l=>by simp [A.oks,gP (l:=l)]
mutual
theorem A.ok.mono {D E:Nat→Prop} (h:∀j,D j→E j):∀ {a:A},a.ok D→a.ok E
 | .b _,_=>by simp [A.ok]
 | .i _ _,_=>by simp [A.ok]
 | .s _,_=>by simp [A.ok]
 | .p none,_=>by simp [A.ok]
 | .p (some r),k=>by simp only [A.ok] at *; exact h _ k
 | .sl r _ _ c,k=>by
   simp only [A.ok] at *
   exact ⟨fun x e=>h _ (k.1 x e),fun x e=>h _ (k.2 x e)⟩
 | .fn _ fs cs,k=>by simp only [A.ok] at *; exact ⟨A.lD h k.1,A.lD h k.2⟩
 | .yl l,k=>by simp only [A.ok] at *; exact h _ k
 | .agg l,k=>by simp only [A.ok] at *; exact A.lD h k
 | .tup l,k=>by simp only [A.ok] at *; exact A.lD h k
 | .nf,_=>by simp [A.ok]
 | .ni,_=>by simp [A.ok]
 | .mr none,_=>by simp [A.ok]
 | .mr (some l),k=>by simp only [A.ok] at *; exact h _ k
theorem A.lD {D E:Nat→Prop} (h:∀j,D j→E j):∀ {l:List A},A.oks D l→A.oks E l
 | [],_=>by simp [A.oks]
 | a::l,k=>by simp only [A.oks] at *; exact ⟨A.ok.mono h k.1,A.lD h k.2⟩
end
structure Same (σ τ:Val):Prop where
 dom:∀j,σ.dom j→τ.dom j
 blk:∀j,σ.dom j→τ.blk j=σ.blk j
 off:∀j,σ.dom j→τ.off j=σ.off j
 cap:∀j,σ.dom j→τ.cap j=σ.cap j
theorem Same.refl (σ:Val):Same σ σ:=⟨fun _ h=>h,fun _ _=>rfl,fun _ _=>rfl,fun _ _=>rfl⟩
theorem Same.trans {a b c:Val} (h:Same a b) (k:Same b c):Same a c :=
 ⟨fun j hj=>k.dom j (h.dom j hj),fun j hj=>(k.blk j (h.dom j hj)).trans (h.blk j hj),fun j hj=>(k.off j (h.dom j hj)).trans (h.off j hj),fun j hj=>(k.cap j (h.dom j hj)).trans (h.cap j hj)⟩
theorem Same.ad {σ τ:Val} (h:Same σ τ) {r:Nat×Nat} (hr:σ.dom r.1):τ.ad r=σ.ad r:=by
 simp [Val.ad,h.blk _ hr,h.off _ hr]
theorem Same.ex {σ τ:Val} (h:Same σ τ) {c:Option Nat} (hc:∀x,c=some x→σ.dom x):τ.ex c=σ.ex c:=by
 cases c with
 | none=>rfl
 | some c=>exact h.cap c (hc c rfl)
mutual
theorem Same.den {σ τ:Val} (h:Same σ τ):∀ {a:A},a.ok σ.dom→a.den τ=a.den σ
 | .b _,_=>by simp [A.den]
 | .i _ _,_=>by simp [A.den]
 | .s _,_=>by simp [A.den]
 | .p none,_=>by simp [A.den]
 | .p (some r),k=>by simp only [A.ok] at k; simp [A.den,h.ad k]
 | .sl none _ _ c,k=>by simp only [A.ok] at k; simp [A.den,h.ex k.2]
 | .sl (some r) _ _ c,k=>by simp only [A.ok] at k; simp [A.den,h.ex k.2,h.ad (k.1 r rfl)]
 | .fn _ fs cs,k=>by simp only [A.ok] at k; simp [A.den,h.aj k.1,h.aj k.2]
 | .yl l,k=>by simp only [A.ok] at k; simp [A.den,h.blk l k]
 | .agg l,k=>by simp only [A.ok] at k; simp [A.den,h.aj k]
 | .tup l,k=>by simp only [A.ok] at k; simp [A.den,h.aj k]
 | .nf,_=>by simp [A.den]
 | .ni,_=>by simp [A.den]
 | .mr none,_=>by simp [A.den]
 | .mr (some l),k=>by simp only [A.ok] at k; simp [A.den,h.blk l k]
theorem Same.aj {σ τ:Val} (h:Same σ τ):∀ {l:List A},A.oks σ.dom l→A.aj τ l=A.aj σ l
 | [],_=>by simp [A.aj]
 | a::l,k=>by simp only [A.oks] at k; simp [A.aj,h.den k.1,h.aj k.2]
end
inductive bZ where
 | cells (e:TypeId) (t:Tr A) (E:Nat) (c:Option (Nat×Nat)) (wr:Bool)
 | iter (s:List UInt8) (pos:Nat)
 | lp (st:LoopState) (pend:Option Code) (env:Tr A) (n:Nat) (ps:Array Tmp) (asg body:Code) (d:Nat)
 | df
 | mp (es:List (Option (Nat×Nat)×Option (Nat×Nat)×Nat)) (clk:Nat)
def bZ.wr:bZ→Bool
 | .cells _ _ _ _ w=>w
 | _=>true
def Val.room (σ:Val):Option (Nat×Nat)→Nat
 | none=>0
 | some (c,z)=>σ.cap c*z
structure gI (σ:Val) (env:Tr A) (n:Nat) (tmps:Array Value):Prop where
 size:tmps.size=n
 get:∀t a,env.get t=some a→tmps[t]? = some (a.den σ)∧a.ok σ.dom
def Val.en (σ:Val) (x:Option (Nat×Nat)×Option (Nat×Nat)×Nat):MapEntry:=⟨.pointer (x.1.map σ.ad),.pointer (x.2.1.map σ.ad),x.2.2⟩
def Db (D:Nat→Prop) (x:Option (Nat×Nat)×Option (Nat×Nat)×Nat):Prop:=(∀r,x.1=some r→D r.1)∧(∀r,x.2.1=some r→D r.1)
theorem Same.en {σ τ:Val} (s:Same σ τ) {x:Option (Nat×Nat)×Option (Nat×Nat)×Nat} (h:Db σ.dom x):τ.en x=σ.en x:=by
 obtain ⟨a,b,n⟩:=x
 obtain ⟨h1,h2⟩:=h
 unfold Val.en
 have e1:a.map τ.ad=a.map σ.ad:=by cases a with | none=>rfl | some r=>exact congrArg some (s.ad (h1 r rfl))
 have e2:b.map τ.ad=b.map σ.ad:=by cases b with | none=>rfl | some r=>exact congrArg some (s.ad (h2 r rfl))
 simp only [e1,e2]
theorem Db.mono {D E:Nat→Prop} (h:∀j,D j→E j) {x:Option (Nat×Nat)×Option (Nat×Nat)×Nat} (k:Db D x):Db E x:=⟨fun r e=>h _ (k.1 r e),fun r e=>h _ (k.2 r e)⟩
def kE (σ:Val) (w:World) (j:Nat):bZ→Prop
 | .cells e t E c wr=>∃cs lo hi,w.heap[σ.blk j]? = some (.cells cs e (lo,hi))∧σ.off j+E+σ.room c≤cs.size ∧
   (∀k a,t.get k=some a→cs[σ.off j+k]? = some (a.den σ)∧a.ok σ.dom) ∧
   (∀x,c=some x→σ.dom x.1)∧(wr=true→hi=0)∧(c=none→wr=true→cs.size=E∧σ.off j=0)
 | .iter s pos=>w.heap[σ.blk j]? = some (.stringIter ⟨⟨s⟩⟩ pos)∧σ.off j=0
 | .lp st pend env n ps asg body d=>∃f tmps,w.heap[σ.blk j]? = some (.loop { state:=st,pending:=pend,fn:=f,tmps:=tmps,params:=ps,assign:=asg,body:=body,defers:=σ.blk d })∧gI σ env n tmps∧σ.dom d
 | .df=>w.heap[σ.blk j]? = some (.deferred (some []))
 | .mp es clk=>w.heap[σ.blk j]? = some (.map (es.map σ.en).toArray clk)∧∀x∈es,Db σ.dom x
structure H where
 t:Tr bZ
 nx:Nat
structure Rel (G:Nat) (σ:Val) (h:H) (w:World):Prop where
 at_:∀j b,h.t.get j=some b→kE σ w j b
 lt:∀j b,h.t.get j=some b→σ.dom j
 inj:∀j b i c,h.t.get j=some b→h.t.get i=some c→σ.blk j=σ.blk i→j=i
 g:∀j,j<G→σ.dom j∧σ.blk j=j∧σ.off j=0
structure Kept (σ:Val) (h:H) (w:World) (τ:Val) (k:H) (v:World):Prop where
 same:Same σ τ
 dom:∀j,τ.dom j→σ.dom j∨h.nx≤j∧j<k.nx
 size:w.heap.size≤v.heap.size
 os:v.os=w.os
 tape:v.tape=w.tape
 output:v.output=w.output
 frame:∀b,b<w.heap.size→(∀j x,h.t.get j=some x→x.wr=true→σ.blk j≠b)→v.heap[b]? = w.heap[b]?
 own:∀j x,k.t.get j=some x→w.heap.size≤τ.blk j∨∃i y,h.t.get i=some y∧(x.wr=true→y.wr=true)∧σ.blk i=τ.blk j
theorem Kept.refl (σ:Val) (h:H) (w:World):Kept σ h w σ h w :=
 ⟨.refl _,fun _ h=>.inl h,Nat.le_refl _,rfl,rfl,rfl,fun _ _ _=>rfl,fun j x hj=>.inr ⟨j,x,hj,fun h=>h,rfl⟩⟩
theorem Kept.trans {a b c:Val} {h k l:H} {w v u:World} (x:Kept a h w b k v) (y:Kept b k v c l u) (hk:h.nx≤k.nx) (hl:k.nx≤l.nx):Kept a h w c l u where
 same:=x.same.trans y.same
 dom j hj:=by
  rcases y.dom j hj with h1 | h1
  ·rcases x.dom j h1 with h2 | h2
   ·exact .inl h2
   ·exact .inr (by omega)
  ·exact .inr (by omega)
 size:=Nat.le_trans x.size y.size
 os:=y.os.trans x.os
 tape:=y.tape.trans x.tape
 output:=y.output.trans x.output
 frame i hi hn:=(y.frame i (Nat.lt_of_lt_of_le hi x.size) fun j z hj hz e=>by
  rcases x.own j z hj with h1 | ⟨m,n,h1,h2,h3⟩
  ·omega
  ·exact hn m n h1 (h2 hz) (h3.trans e)).trans (x.frame i hi hn)
 own j z hj:=by
  rcases y.own j z hj with h1 | ⟨m,n,h1,h2,h3⟩
  ·exact .inl (Nat.le_trans x.size h1)
  ·rcases x.own m n h1 with h4 | ⟨p,q,h4,h5,h6⟩
   ·exact .inl (h3 ▸ h4)
   ·exact .inr ⟨p,q,h4,fun hz=>h5 (h2 hz),h6.trans h3⟩
theorem gI.keep {σ τ:Val} {k:Nat} {env:Tr A} {tmps:Array Value} (h:gI σ env k tmps) (s:Same σ τ):gI τ env k tmps :=
 ⟨h.size,fun t a ha=>by
  obtain ⟨h1,h2⟩:=h.get t a ha
  exact ⟨by rw [s.den h2]; exact h1,h2.mono s.dom⟩⟩
theorem gI.put {σ:Val} {n:Nat} {env:Tr A} {tmps:Array Value} (h:gI σ env n tmps) (d:Nat) (a:A) (hd:d<n) (ha:a.ok σ.dom) :
  gI σ (env.put d (some a)) n (tmps.setIfInBounds d (a.den σ)) :=
 ⟨by simp [h.size],fun t x hx=>by
  rw [Tr.get_put] at hx
  by_cases e:t=d
  ·subst e
   rw [if_pos rfl] at hx
   injection hx with hx
   subst hx
   exact ⟨by simp [h.size,hd],ha⟩
  ·rw [if_neg e] at hx
   rw [Array.getElem?_setIfInBounds_ne (Ne.symm e)]
   exact h.get t x hx⟩
theorem Same.room {σ τ:Val} (s:Same σ τ) {c:Option (Nat×Nat)} (h:∀x,c=some x→σ.dom x.1):τ.room c=σ.room c:=by
 cases c with
 | none=>rfl
 | some x=>simp only [Val.room]; rw [s.cap _ (h x rfl)]
theorem kE.keep {σ τ:Val} {j:Nat} {w v:World} {b:bZ} (h:kE σ w j b) (hj:σ.dom j) (s:Same σ τ) (e:v.heap[σ.blk j]? = w.heap[σ.blk j]?):kE τ v j b:=by
 have e1:=s.blk j hj
 have e2:=s.off j hj
 cases b with
 | cells ty t E c wr =>
  obtain ⟨cs,lo,hi,h1,h2,h3,h4,h5,h6⟩:=h
  have e3:τ.room c=σ.room c:=s.room h4
  refine ⟨cs,lo,hi,by rw [e1,e,h1],by rw [e2,e3]; exact h2,fun k a ha=> ?_,fun x hx=>s.dom _ (h4 x hx),h5,fun hc hw=>by rw [e2]; exact h6 hc hw⟩
  obtain ⟨h6,h7⟩:=h3 k a ha
  exact ⟨by rw [e2,s.den h7]; exact h6,h7.mono s.dom⟩
 | iter l pos=>exact ⟨(by rw [e1]; exact e:v.heap[τ.blk j]? = w.heap[σ.blk j]?).trans h.1,e2.trans h.2⟩
 | lp st pend env k ps asg body d =>
  obtain ⟨f,tmps,h1,h2,h3⟩:=h
  refine ⟨f,tmps,?_,h2.keep s,s.dom _ h3⟩
  rw [e1,e,h1,s.blk d h3]
 | df=>exact (by rw [e1]; exact e:v.heap[τ.blk j]? = w.heap[σ.blk j]?).trans h
 | mp es clk =>
  refine ⟨?_,fun x hx=>(h.2 x hx).mono s.dom⟩
  rw [List.map_congr_left (fun x hx=>s.en (h.2 x hx))]
  exact (by rw [e1]; exact e:v.heap[τ.blk j]? = w.heap[σ.blk j]?).trans h.1
theorem kE.inside {σ:Val} {j:Nat} {w:World} {b:bZ} (h:kE σ w j b):σ.blk j<w.heap.size:=by
 have:∃o,w.heap[σ.blk j]? = some o:=by
  cases b with
  | cells=>obtain ⟨cs,lo,hi,h1,_⟩:=h; exact ⟨_,h1⟩
  | iter=>exact ⟨_,h.1⟩
  | lp=>obtain ⟨f,t,h1,_⟩:=h; exact ⟨_,h1⟩
  | df=>exact ⟨_,h⟩
  | mp=>exact ⟨_,h.1⟩
 obtain ⟨o,ho⟩:=this
 exact (Array.getElem?_eq_some_iff.1 ho).1
structure Goes (G:Nat) (σ:Val) (h:H) (w:World) (τ:Val) (k:H) (v:World):Prop where
 kept:Kept σ h w τ k v
 rel:Rel G τ k v
def Free (σ:Val) (a b:Nat):Prop:=∀j,a≤j→j<b→¬σ.dom j
theorem Goes.refl {G:Nat} {σ:Val} {h:H} {w:World} (r:Rel G σ h w):Goes G σ h w σ h w:=⟨.refl _ _ _,r⟩
theorem Goes.trans {G:Nat} {a b c:Val} {h k l:H} {w v u:World} (x:Goes G a h w b k v) (y:Goes G b k v c l u) (hk:h.nx≤k.nx) (hl:k.nx≤l.nx):Goes G a h w c l u:=⟨x.kept.trans y.kept hk hl,y.rel⟩
theorem Goes.free {G:Nat} {a b:Val} {h k:H} {w v:World} (x:Goes G a h w b k v) {m:Nat} (hm:Free a h.nx m) (hk:h.nx≤k.nx):Free b k.nx m:=fun j h1 h2 hd=>by
 rcases x.kept.dom j hd with h3 | h3
 ·exact hm j (by omega) h2 h3
 ·omega
theorem Free.mono {σ:Val} {a b c d:Nat} (h:Free σ a b) (h1:a≤c) (h2:d≤b):Free σ c d:=fun j h3 h4=>h j (by omega) (by omega)
theorem Rel.less {G:Nat} {σ:Val} {h k:H} {w:World} (r:Rel G σ h w) (hs:∀j b,k.t.get j=some b→h.t.get j=some b):Rel G σ k w :=
 ⟨fun j b hb=>r.at_ j b (hs j b hb),fun j b hb=>r.lt j b (hs j b hb),fun j b i c hb hc e=>r.inj j b i c (hs j b hb) (hs i c hc) e,r.g⟩
theorem Rel.FU {G:Nat} {σ:Val} {h:H} {w:World} (r:Rel G σ h w) (n:Nat):Rel G σ ⟨h.t,n⟩ w:=⟨r.at_,r.lt,r.inj,r.g⟩
theorem Rel.drew {G:Nat} {σ:Val} {h:H} {w:World} (r:Rel G σ h w) (n:Nat):Rel G σ h { w with drawn:=n } :=
 ⟨fun j b hb=>(r.at_ j b hb).keep (r.lt j b hb) (.refl _) rfl,r.lt,r.inj,r.g⟩
theorem Goes.drew {G:Nat} {σ:Val} {h:H} {w:World} (r:Rel G σ h w) (n:Nat):Goes G σ h w σ h { w with drawn:=n } :=
 ⟨⟨.refl _,fun _ h=>.inl h,Nat.le_refl _,rfl,rfl,rfl,fun _ _ _=>rfl,fun j x hj=>.inr ⟨j,x,hj,fun h=>h,rfl⟩⟩,r.drew n⟩
def H.new (h:H) (b:bZ):H:=⟨h.t.put h.nx (some b),h.nx+1⟩
def Val.with (σ:Val) (j blk off cap:Nat):Val :=
 ⟨fun i=>i=j∨σ.dom i,fun i=>if i=j then blk else σ.blk i,fun i=>if i=j then off else σ.off i,fun i=>if i=j then cap else σ.cap i⟩
theorem Val.je (σ:Val) (j blk off cap:Nat) (hj:¬σ.dom j):Same σ (σ.with j blk off cap):=by
 have h:∀i,σ.dom i→i≠j:=fun i hi e=>hj (e ▸ hi)
 exact ⟨fun i hi=>.inr hi,fun i hi=>by simp [Val.with,h i hi],fun i hi=>by simp [Val.with,h i hi],fun i hi=>by simp [Val.with,h i hi]⟩
theorem dB (σ:Val) (j blk off cap:Nat):(σ.with j blk off cap).blk j=blk:=by simp [Val.with]
theorem eD (σ:Val) (j blk off cap:Nat):(σ.with j blk off cap).off j=off:=by simp [Val.with]
theorem lF (σ:Val) (j blk off cap:Nat):(σ.with j blk off cap).cap j=cap:=by simp [Val.with]
theorem bS (σ:Val) (j blk off cap:Nat):(σ.with j blk off cap).dom j:=.inl rfl
theorem Goes.fresh {G:Nat} {σ:Val} {h h':H} {w v:World} (r:Rel G σ h w) (hsub:∀j x,h'.t.get j=some x→h.t.get j=some x) (hnx:h'.nx=h.nx) (b:bZ) (B off cap:Nat) (hf:¬σ.dom h.nx)
  (old:∀i,i<w.heap.size→(∀j x,h.t.get j=some x→x.wr=true→σ.blk j≠i)→v.heap[i]? = w.heap[i]?)
  (mine:∀j x,h'.t.get j=some x→v.heap[σ.blk j]? = w.heap[σ.blk j]?)
  (apart:∀j x,h'.t.get j=some x→σ.blk j≠B)
  (hs:w.heap.size≤v.heap.size) (ho:v.os=w.os) (ht:v.tape=w.tape) (hu:v.output=w.output) (hB:w.heap.size≤B∨∃i y,h.t.get i=some y∧y.wr=true∧σ.blk i=B)
  (hb:kE (σ.with h.nx B off cap) v h.nx b) :
  Goes G σ h w (σ.with h.nx B off cap) (h'.new b) v:=by
 have s:=Val.je σ h.nx B off cap hf
 have hbk:=dB σ h.nx B off cap
 have r':Rel G σ h' w:=r.less hsub
 refine ⟨⟨s,fun j hj=> ?_,hs,ho,ht,hu,old,fun j x hj=> ?_⟩,⟨fun j x hj=> ?_,fun j x hj=> ?_,fun j x i y hj hi e=> ?_,fun j hj=> ?_⟩⟩
 ·rcases hj with h1 | h1
  ·subst h1; exact .inr ⟨Nat.le_refl _,by simp [H.new,hnx]⟩
  ·exact .inl h1
 ·simp only [H.new,hnx,Tr.get_put] at hj
  by_cases e:j=h.nx
  ·subst e
   rcases hB with h1 | ⟨i,y,h1,h2,h3⟩
   ·exact .inl (by rw [hbk]; exact h1)
   ·exact .inr ⟨i,y,h1,fun _=>h2,by rw [hbk]; exact h3⟩
  ·rw [if_neg e] at hj
   exact .inr ⟨j,x,hsub j x hj,fun h=>h,(s.blk j (r'.lt j x hj)).symm⟩
 ·simp only [H.new,hnx,Tr.get_put] at hj
  by_cases e:j=h.nx
  ·subst e
   rw [if_pos rfl] at hj
   injection hj with hj
   subst hj
   exact hb
  ·rw [if_neg e] at hj
   exact (r'.at_ j x hj).keep (r'.lt j x hj) s (mine j x hj)
 ·simp only [H.new,hnx,Tr.get_put] at hj
  by_cases e:j=h.nx
  ·exact .inl e
  ·rw [if_neg e] at hj
   exact .inr (r'.lt j x hj)
 ·simp only [H.new,hnx,Tr.get_put] at hj hi
  by_cases e1:j=h.nx<;>by_cases e2:i=h.nx
  ·rw [e1,e2]
  ·rw [if_neg e2] at hi
   rw [e1,hbk,s.blk i (r'.lt i y hi)] at e
   exact absurd e.symm (apart i y hi)
  ·rw [if_neg e1] at hj
   rw [e2,hbk,s.blk j (r'.lt j x hj)] at e
   exact absurd e (apart j x hj)
  ·rw [if_neg e1] at hj
   rw [if_neg e2] at hi
   rw [s.blk i (r'.lt i y hi),s.blk j (r'.lt j x hj)] at e
   exact r'.inj j x i y hj hi e
 ·obtain ⟨h1,h2,h3⟩:=r.g j hj
  exact ⟨.inr h1,by rw [s.blk j h1]; exact h2,by rw [s.off j h1]; exact h3⟩
theorem Goes.new {G:Nat} {σ:Val} {h:H} {w:World} (r:Rel G σ h w) (o:Obj) (b:bZ) (cap:Nat) (hf:¬σ.dom h.nx) (hb:kE (σ.with h.nx w.heap.size 0 cap) { w with heap:=w.heap.push o } h.nx b) :
  Goes G σ h w (σ.with h.nx w.heap.size 0 cap) (h.new b) { w with heap:=w.heap.push o }:=by
 have old:∀b,b<w.heap.size→({ w with heap:=w.heap.push o }:World).heap[b]? = w.heap[b]?:=fun b hb=>by
  simp [Array.getElem?_push,Nat.ne_of_lt hb]
 exact .fresh r (fun _ _ h=>h) rfl b _ 0 cap hf (fun i hi _=>old i hi) (fun j x hj=>old _ (r.at_ j x hj).inside) (fun j x hj=>Nat.ne_of_lt (r.at_ j x hj).inside) (by simp) rfl rfl rfl (.inl (Nat.le_refl _)) hb
def H.turn (h:H) (j:Nat) (b:bZ):H:=⟨h.t.put j (some b),h.nx⟩
theorem Goes.turn {G:Nat} {σ:Val} {h:H} {w v:World} (r:Rel G σ h w) {j:Nat} {b:bZ} (hb:h.t.get j=some b) (hw:b.wr=true)
  (old:∀i,i≠σ.blk j→v.heap[i]? = w.heap[i]?) (hs:v.heap.size=w.heap.size) (ho:v.os=w.os) (ht:v.tape=w.tape) (hu:v.output=w.output) (c:bZ) (hc:kE σ v j c) :
  Goes G σ h w σ (h.turn j c) v:=by
 refine ⟨⟨.refl _,fun _ h=>.inl h,by omega,ho,ht,hu,fun i hi hn=>old i (fun e=>hn j b hb hw e.symm),fun i x hi=> ?_⟩,⟨fun i x hi=> ?_,fun i x hi=> ?_,fun i x k y hi hk e=> ?_,r.g⟩⟩
 ·simp only [H.turn,Tr.get_put] at hi
  by_cases e:i=j
  ·subst e; exact .inr ⟨i,b,hb,fun _=>hw,rfl⟩
  ·rw [if_neg e] at hi; exact .inr ⟨i,x,hi,fun h=>h,rfl⟩
 ·simp only [H.turn,Tr.get_put] at hi
  by_cases e:i=j
  ·subst e
   rw [if_pos rfl] at hi
   injection hi with hi
   subst hi
   exact hc
  ·rw [if_neg e] at hi
   exact (r.at_ i x hi).keep (r.lt i x hi) (.refl _) (old _ fun e2=>e (r.inj i x j b hi hb e2))
 ·simp only [H.turn,Tr.get_put] at hi
  by_cases e:i=j
  ·subst e; exact r.lt i b hb
  ·rw [if_neg e] at hi; exact r.lt i x hi
 ·simp only [H.turn,Tr.get_put] at hi hk
  by_cases e1:i=j<;>by_cases e2:k=j
  ·rw [e1,e2]
  ·rw [if_neg e2] at hk; rw [e1] at e ⊢; exact r.inj j b k y hb hk e
  ·rw [if_neg e1] at hi; rw [e2] at e ⊢; exact r.inj i x j b hi hb e
  ·rw [if_neg e1] at hi; rw [if_neg e2] at hk; exact r.inj i x k y hi hk e
theorem Kept.less {σ τ:Val} {h k l:H} {w v:World} (x:Kept σ h w τ k v) (hn:k.nx≤l.nx) (hs:∀j b,l.t.get j=some b→k.t.get j=some b):Kept σ h w τ l v :=
 ⟨x.same,fun j hj=>(x.dom j hj).imp id fun h=>⟨h.1,by omega⟩,x.size,x.os,x.tape,x.output,x.frame,fun j b hb=>x.own j b (hs j b hb)⟩
theorem Goes.less {G:Nat} {σ τ:Val} {h k l:H} {w v:World} (x:Goes G σ h w τ k v) (hn:k.nx≤l.nx) (hs:∀j b,l.t.get j=some b→k.t.get j=some b):Goes G σ h w τ l v :=
 ⟨x.kept.less hn hs,x.rel.less hs⟩
def H.drop (h:H) (j:Nat):H:=⟨h.t.put j none,h.nx⟩
theorem fu {h:H} {j i:Nat} {b:bZ} (e:(h.drop j).t.get i=some b):i≠j∧h.t.get i=some b:=by
 simp only [H.drop,Tr.get_put] at e
 by_cases hi:i=j
 ·rw [if_pos hi] at e; cases e
 ·rw [if_neg hi] at e; exact ⟨hi,e⟩
end Go.Proofs.YteemnmalikomgaaGreatDoor.Ev
