import Derived.Test.YteemnmalikomgaaGreatDoorQSwEv6
noncomputable section
namespace Go.Proofs.YteemnmalikomgaaGreatDoor.Ev
theorem rR (t:Tr Nat):∀(es:List Edge) (s j:Nat),(rH t es s).testBit j=true↔s.testBit j=true∨∃e∈es,rG e=true∧(j=e.on∨∃m,t.get e.on=some m∧m.testBit j=true)
 | [],s,j=>by simp [rH]
 | e::es,s,j=>by
  simp only [rH]
  cases hb:rG e with
  | false =>
   rw [cond_false,rR t es s j]
   simp [hb]
  | true =>
   rw [cond_true,rR t es _ j]
   refine Iff.trans (or_congr (c:=s.testBit j=true∨(j=e.on∨∃m,t.get e.on=some m∧m.testBit j=true)) ?_ Iff.rfl) ?_
   ·rw [Nat.testBit_or,Nat.testBit_or,Nat.testBit_two_pow,Bool.or_eq_true,Bool.or_eq_true,decide_eq_true_eq,or_assoc]
    refine or_congr Iff.rfl (or_congr ⟨Eq.symm,Eq.symm⟩ ?_)
    cases t.get e.on with
    | none=>exact ⟨(fun h=>by rw [Nat.zero_testBit] at h; cases h),(by rintro ⟨m,h,_⟩; cases h)⟩
    | some m=>exact ⟨fun h=>⟨m,rfl,h⟩,(by rintro ⟨m',h,k⟩; obtain rfl:=some_inj h; exact k)⟩
   constructor
   ·rintro ((h | h) | ⟨e',h1,h2⟩)
    ·exact .inl h
    ·exact .inr ⟨e,List.mem_cons_self ..,hb,h⟩
    ·exact .inr ⟨e',List.mem_cons_of_mem _ h1,h2⟩
   ·rintro (h | ⟨e',h1,h2⟩)
    ·exact .inl (.inl h)
    ·rcases List.mem_cons.1 h1 with rfl | h1
     ·exact .inl (.inr h2.2)
     ·exact .inr ⟨e',h1,h2⟩
theorem xV:∀(l:List Oper) (i:Nat) (t:Tr Nat),(∀j,i≤j→t.get j=none)→(∀j,j<i→(dX l i t).get j=t.get j)∧(∀j,i+l.length≤j→(dX l i t).get j=none) ∧
  ∀k o,l[k]? = some o→∃tk,(dX l i t).get (i+k)=some (rH tk o.after.toList 0)∧(∀j,j<i+k→tk.get j=(dX l i t).get j)
 | [],i,t,h=>⟨fun _ _=>rfl,fun j hj=>h j (by simpa using hj),fun k o ho=>by simp at ho⟩
 | o::l,i,t,h=>by
  obtain ⟨h1,h2,h3⟩:=xV l (i+1) (t.put i (some (rH t o.after.toList 0))) (fun j hj=>by rw [Tr.kD _ _ (by omega)]; exact h j (by omega))
  refine ⟨fun j hj=> ?_,fun j hj=>h2 j (by simp at hj; omega),fun k o' ho=> ?_⟩
  ·show (dX l (i+1) _).get j=_
   rw [h1 j (by omega),Tr.kD _ _ (by omega)]
  ·cases k with
   | zero =>
    simp at ho
    subst ho
    refine ⟨t,?_,fun j hj=> ?_⟩
    ·show (dX l (i+1) _).get i=_
     rw [h1 i (by omega),Tr.qb]
    ·show _=(dX l (i+1) _).get j
     rw [h1 j (by omega),Tr.kD _ _ (by omega)]
   | succ k =>
    simp at ho
    obtain ⟨tk,e1,e2⟩:=h3 k o' ho
    refine ⟨tk,?_,fun j hj=>e2 j (by omega)⟩
    show (dX l (i+1) _).get (i+(k+1))=_
    rw [←e1]; congr 1; omega
theorem EI {l:List Oper} {i m:Nat} {o:Oper} (ho:l[i]? = some o) (hm:(dX l 0 .lf).get i=some m) {e:Edge} (he:e∈o.after.toList) (hb:rG e=true):m.testBit e.on=true:=by
 obtain ⟨tk,e1,_⟩:=(xV l 0 .lf (fun _ _=>rfl)).2.2 i o ho
 rw [Nat.zero_add] at e1
 rw [e1] at hm
 rw [←some_inj hm,rR]
 exact .inr ⟨e,he,hb,.inl rfl⟩
theorem QI {l:List Oper} {i m:Nat} {o:Oper} (ho:l[i]? = some o) (hm:(dX l 0 .lf).get i=some m) (hlt:m<2 ^ i) {j:Nat} (hj:m.testBit j=true) :
  ∃e∈o.after.toList,rG e=true∧(j=e.on∨∃m',(dX l 0 .lf).get e.on=some m'∧m'.testBit j=true):=by
 have small:∀ {j:Nat},m.testBit j=true→j<i:=fun {j} h=>by
  have:=Nat.ge_two_pow_of_testBit h
  rcases Nat.lt_or_ge j i with h1 | h1
  ·exact h1
  ·have:=Nat.pow_le_pow_right (n:=2) (by omega) h1; omega
 have edge:=fun {e:Edge} (he:e∈o.after.toList) (hb:rG e=true)=>EI ho hm he hb
 obtain ⟨tk,e1,e2⟩:=(xV l 0 .lf (fun _ _=>rfl)).2.2 i o ho
 rw [Nat.zero_add] at e1 e2
 have hm':=hm
 rw [e1] at hm'
 rw [←some_inj hm',rR] at hj
 rcases hj with hj | ⟨e,he,hb,h⟩
 ·simp at hj
 ·refine ⟨e,he,hb,h.imp id ?_⟩
  rintro ⟨m',h1,h2⟩
  exact ⟨m',by rw [←e2 e.on (small (edge he hb))]; exact h1,h2⟩
theorem oV {i m j:Nat} (hlt:m<2 ^ i) (hj:m.testBit j=true):j<i:=by
 have:=Nat.ge_two_pow_of_testBit hj
 rcases Nat.lt_or_ge j i with h1 | h1
 ·exact h1
 ·have:=Nat.pow_le_pow_right (n:=2) (by omega) h1; omega
theorem Jc (e:Edge):rG e=Region.binds .any e:=by
 unfold rG Region.binds
 cases e.ground<;>rfl
def oh (t:Tr bZ):List (Nat×bZ)→Tr bZ
 | []=>t
 | x::S=>(oh t S).put x.1 (some x.2)
theorem jG {t:Tr bZ}:∀ {S:List (Nat×bZ)} {j:Nat} {b:bZ},(oh t S).get j=some b→t.get j=some b∨(j,b)∈S
 | [],j,b,h=>.inl h
 | x::S,j,b,h=>by
  simp only [oh,Tr.get_put] at h
  by_cases e:j=x.1
  ·rw [if_pos e] at h
   have:=some_inj h
   subst this e
   exact .inr (List.mem_cons_self ..)
  ·rw [if_neg e] at h
   exact (jG h).imp id fun h=>List.mem_cons_of_mem _ h
theorem BZ {t:Tr bZ}:∀ {S:List (Nat×bZ)} {j:Nat},(∀x∈S,x.1≠j)→(oh t S).get j=t.get j
 | [],j,_=>rfl
 | x::S,j,h=>by
  simp only [oh,Tr.get_put]
  rw [if_neg (fun e=>h x (List.mem_cons_self ..) e.symm)]
  exact BZ fun y hy=>h y (List.mem_cons_of_mem _ hy)
theorem Ca {t:Tr bZ} {f:Nat→Option bZ}:∀ {S:List (Nat×bZ)},(∀x∈S,f x.1=some x.2)→∀x∈S,(oh t S).get x.1=some x.2
 | y::S,h,x,hx=>by
  simp only [oh,Tr.get_put]
  by_cases e:x.1=y.1
  ·rw [if_pos e]
   have h1:=h x hx
   have h2:=h y (List.mem_cons_self ..)
   rw [e] at h1
   rw [h1] at h2
   exact congrArg some (some_inj h2).symm
  ·rw [if_neg e]
   rcases List.mem_cons.1 hx with rfl | hx
   ·exact absurd rfl e
   ·exact Ca (fun z hz=>h z (List.mem_cons_of_mem _ hz)) x hx
theorem Kept.all {a b c:Val} {h:H} {w v u:World} {t t':Tr bZ} {N:Nat} (x:Kept a h w b ⟨t,N⟩ v) (y:Kept b ⟨t,h.nx⟩ v c ⟨t',N⟩ u):Kept a h w c ⟨t',N⟩ u where
 same:=x.same.trans y.same
 dom j hj:=by
  rcases y.dom j hj with h1 | h1
  ·exact x.dom j h1
  ·exact .inr h1
 size:=Nat.le_trans x.size y.size
 os:=y.os.trans x.os
 tape:=y.tape.trans x.tape
 output:=y.output.trans x.output
 frame i hi hn:=(y.frame i (Nat.lt_of_lt_of_le hi x.size) fun j z hj hz e=>by
  rcases x.own j z hj with h1 | ⟨m,n,h1,h2,h3⟩
  ·omega
  ·exact hn m n h1 (h2 hz) (h3.trans e)).trans (x.frame i hi hn)
 own j z hj:=by
  rcases y.own j z hj with h1 | ⟨m,n,h1,h2,h3⟩
  ·exact .inl (Nat.le_trans x.size h1)
  ·rcases x.own m n h1 with h4 | ⟨p,q,h4,h5,h6⟩
   ·exact .inl (h3 ▸ h4)
   ·exact .inr ⟨p,q,h4,fun hz=>h5 (h2 hz),h6.trans h3⟩
theorem widen {G:Nat} {σ τ:Val} {hD hp k:H} {w v:World} (g:Goes G σ hp w τ k v) (r:Rel G σ hD w) (sub:∀j b,hp.t.get j=some b→hD.t.get j=some b) (S:List (Nat×bZ)) (hS:∀x∈S,hD.t.get x.1=some x.2∧hp.t.get x.1=none)
  {a b:Nat} (ha:a≤hp.nx) (hb:k.nx≤b) :
  ∃t:Tr bZ,Rel G τ ⟨t,b⟩ v∧Kept σ ⟨hD.t,a⟩ w τ ⟨t,b⟩ v∧(∀j b,k.t.get j=some b→t.get j=some b)∧(∀x∈S,t.get x.1=some x.2∧k.t.get x.1=none):=by
 have noK:∀x∈S,∀j y,k.t.get j=some y→τ.blk j≠σ.blk x.1:=by
  intro x hx j y hj e
  obtain ⟨h1,h2⟩:=hS x hx
  have hin:=(r.at_ x.1 x.2 h1).inside
  rcases g.kept.own j y hj with h3 | ⟨i,z,h3,_,h5⟩
  ·omega
  ·have:=r.inj i z x.1 x.2 (sub i z h3) h1 (h5.trans e)
   subst this
   rw [h2] at h3; cases h3
 have blkS:∀x∈S,τ.blk x.1=σ.blk x.1:=fun x hx=>g.kept.same.blk _ (r.lt _ _ (hS x hx).1)
 have kNone:∀x∈S,k.t.get x.1=none:=by
  intro x hx
  cases hk:k.t.get x.1 with
  | none=>rfl
  | some y=>exact absurd (blkS x hx) (noK x hx _ _ hk)
 have fS:∀x∈S,(fun j=>hD.t.get j) x.1=some x.2:=fun x hx=>(hS x hx).1
 refine ⟨oh k.t S,⟨fun j b hj=> ?_,fun j b hj=> ?_,fun j b i c hj hi e=> ?_,g.rel.g⟩,⟨g.kept.same,fun j hj=>(g.kept.dom j hj).imp id fun h=>⟨Nat.le_trans ha h.1,Nat.lt_of_lt_of_le h.2 hb⟩,g.kept.size,g.kept.os,g.kept.tape,g.kept.output,
  fun i hi hn=>g.kept.frame i hi fun j x hj hx=>hn j x (sub j x hj) hx,fun j x hj=> ?_⟩,fun j b hj=> ?_,fun x hx=>⟨Ca fS x hx,kNone x hx⟩⟩
 ·rcases jG hj with h1 | h1
  ·exact g.rel.at_ j b h1
  ·obtain ⟨h2,h3⟩:=hS _ h1
   refine (r.at_ j b h2).keep (r.lt j b h2) g.kept.same (g.kept.frame _ (r.at_ j b h2).inside fun i x hi hx e=> ?_)
   have:=r.inj i x j b (sub i x hi) h2 e
   subst this
   rw [h3] at hi; cases hi
 ·rcases jG hj with h1 | h1
  ·exact g.rel.lt j b h1
  ·exact g.kept.same.dom j (r.lt j b (hS _ h1).1)
 ·rcases jG hj with h1 | h1<;>rcases jG hi with h2 | h2
  ·exact g.rel.inj j b i c h1 h2 e
  ·exact absurd (e.trans (blkS _ h2)) (noK _ h2 j b h1)
  ·exact absurd (e.symm.trans (blkS _ h1)) (noK _ h1 i c h2)
  ·exact r.inj j b i c (hS _ h1).1 (hS _ h2).1 (by rw [←blkS _ h1,←blkS _ h2]; exact e)
 ·rcases jG hj with h1 | h1
  ·rcases g.kept.own j x h1 with h2 | ⟨i,y,h2,h3,h4⟩
   ·exact .inl h2
   ·exact .inr ⟨i,y,sub i y h2,h3,h4⟩
  ·exact .inr ⟨j,x,(hS _ h1).1,fun h=>h,(blkS _ h1).symm⟩
 ·rw [BZ (fun x hx e=>by have:=kNone x hx; rw [e,hj] at this; cases this)]
  exact hj
end Go.Proofs.YteemnmalikomgaaGreatDoor.Ev
namespace Go.Proofs.YteemnmalikomgaaGreatDoor.Ev
theorem Xk {r q:Nat×Nat} (h:(r.1.beq q.1 && r.2.beq q.2)=true):r=q:=by
 rw [Bool.and_eq_true] at h
 exact Prod.ext (aY h.1) (aY h.2)
mutual
theorem Jd:∀(a b:A),nZ a b=true→a=b
 | .b x,b,h=>by
  cases b<;>first | (revert h; simp [nZ]; done) | skip
 | .i k x,b,h=>by
  cases b
  case i l y =>
   have h':(decide (k=l) && Lb k x l y)=true:=h
   rw [Bool.and_eq_true,Qw] at h'
   rw [of_decide_eq_true h'.1,eq_of_beq h'.2]
  all_goals (revert h; simp [nZ]; done)
 | .s x,b,h=>by
  cases b
  case s y =>
   have h':Bc x y=true:=h
   rw [xO] at h'
   rw [eq_of_beq h']
  all_goals (revert h; simp [nZ]; done)
 | .p r,b,h=>by
  cases b
  case p q =>
   cases r<;>cases q
   ·rfl
   ·cases h
   ·cases h
   ·rw [Xk h]
  all_goals (revert h; cases r<;>simp [nZ]; done)
 | .sl r n lo c,b,h=>by
  cases b
  case sl q m la d =>
   rcases r with _ | ⟨j,o⟩<;>rcases q with _ | ⟨i,u⟩<;>cases c<;>cases d<;>simp only [nZ,Bool.and_eq_true,Bool.true_and,Bool.false_and,Bool.and_false,Bool.and_true,Bool.false_eq_true] at h
   ·rw [aY h.1,aY h.2]
   ·rw [aY h.1.1,aY h.1.2,aY h.2]
   ·rw [aY h.1.1.1,aY h.1.1.2,aY h.1.2,aY h.2]
   ·rw [aY h.1.1.1.1,aY h.1.1.1.2,aY h.1.1.2,aY h.1.2,aY h.2]
  all_goals (revert h; simp [nZ]; done)
 | .fn f x y,b,h=>by
  cases b
  case fn g c d =>
   have h':(f.beq g && vJ x c && vJ y d)=true:=h
   rw [Bool.and_eq_true,Bool.and_eq_true] at h'
   rw [aY h'.1.1,tV x c h'.1.2,tV y d h'.2]
  all_goals (revert h; simp [nZ]; done)
 | .yl l,b,h=>by
  cases b
  case yl m=>rw [aY (show Nat.beq l m=true from h)]
  all_goals (revert h; simp [nZ]; done)
 | .agg l,b,h=>by
  cases b
  case agg m=>rw [tV l m h]
  all_goals (revert h; simp [nZ]; done)
 | .tup l,b,h=>by
  cases b
  case tup m=>rw [tV l m h]
  all_goals (revert h; simp [nZ]; done)
 | .nf,b,h=>by
  cases b
  case nf=>rfl
  all_goals (revert h; simp [nZ]; done)
 | .ni,b,h=>by
  cases b
  case ni=>rfl
  all_goals (revert h; simp [nZ]; done)
theorem tV:∀(l m:List A),vJ l m=true→l=m
 | [],[],_=>rfl
 | [],_::_,h=>by cases h
 | _::_,[],h=>by cases h
 | a::l,b::m,h=>by
  have h':(nZ a b && vJ l m)=true:=h
  rw [Bool.and_eq_true] at h'
  rw [Jd a b h'.1,tV l m h'.2]
end
theorem xW {T:Tab} {ev:eU→Option Out} {ops:List Oper} {n:Nat} {bt:Tr Nat}:∀(l:List Oper) (i:Nat) (s s':Dr),FY T ev ops n bt l i s=some s' →
  ∃st:Nat→Dr,st i=s∧st (i+l.length)=s'∧∀k o,l[k]? = some o→Bq T ev ops n bt (i+k) o (st (i+k))=some (st (i+k+1))
 | [],i,s,s',h=>⟨fun _=>s,rfl,some_inj h,fun k o ho=>by simp at ho⟩
 | o::l,i,s,s',h=>by
  simp only [FY] at h
  split at h
  ·rename_i s1 h1
   obtain ⟨st,e1,e2,e3⟩:=xW l (i+1) s1 s' h
   refine ⟨fun j=>if j=i then s else st j,if_pos rfl,?_,fun k o' ho=> ?_⟩
   ·dsimp only
    rw [if_neg (by simp)]
    rw [←e2]; congr 1; simp only [List.length_cons]; omega
   ·cases k with
    | zero =>
     simp at ho
     subst ho
     dsimp only
     rw [Nat.add_zero,if_pos rfl,if_neg (by omega),h1,e1]
    | succ k =>
     simp at ho
     have:=e3 k o' ho
     dsimp only
     rw [if_neg (by omega),if_neg (by omega)]
     rw [show i+(k+1)=i+1+k by omega]
     exact this
  ·cases h
inductive Kind (T:Tab) (ev:eU→Option Out) (n i m:Nat) (o:Oper) (s:Dr):Bool→A→Dr→Prop
 | skip {e:Tr A}:jL s.env n o.dst (.tup [])=some e→Kind T ev n i m o s false (.tup []) { s with env:=e }
 | pure {a:A} {e:Tr A}:yP o.op T s.env=some a→jL s.env n o.dst a=some e→Kind T ev n i m o s true a { s with env:=e }
 | look {t:TypeId} {x:Operand} {p a:A} {e:Tr A}:o.op=.load t x→aZ T s.env x=some p→ru T ⟨eF m s.xs s.h.t,s.h.nx⟩ t p=some a→jL s.env n o.dst a=some e →
   Kind T ev n i m o s true a { s with env:=e,lk:=⟨i,t,p,a⟩::s.lk }
 | new {a:A} {b:bZ} {e:Tr A}:Iu o.op T s.env s.h.nx=some (a,b)→jL s.env n o.dst a=some e →
   Kind T ev n i m o s true a { s with env:=e,h:=⟨s.h.t,s.h.nx+1⟩,xs:=⟨i,s.h.nx,b⟩::s.xs,al:=⟨i,s.h.nx,b⟩::s.al }
 | chain {a:A} {k:H} {e:Tr A}:Iz m s.ch=true→kG o.op T ev s.env ⟨eF m s.xs s.h.t,s.h.nx⟩=some (a,k)→jL s.env n o.dst a=some e →
   Kind T ev n i m o s true a { s with env:=e,h:=k,xs:=yS m s.xs,ch:=i::s.ch,hs:=k::s.hs }
theorem zq {T:Tab} {ev:eU→Option Out} {n i m:Nat} {o:Oper} {s s':Dr} (h:Bp T n o s=some s'):∃a,Kind T ev n i m o s true a s':=by
 unfold Bp Bo at h
 split at h
 ·rename_i a ha
  split at h
  ·rename_i e he
   obtain rfl:=some_inj h
   exact ⟨a,.pure ha he⟩
  ·cases h
 ·cases h
theorem xX {T:Tab} {ev:eU→Option Out} {n i m:Nat} {o:Oper} {s s':Dr} (h:yT T ev n i m o s=some s'):∃a,Kind T ev n i m o s true a s':=by
 unfold yT at h
 obtain ⟨h1,h2⟩:=aD h
 split at h2
 ·cases h2
 ·rename_i a k ho
  split at h2
  ·rename_i e he
   obtain rfl:=some_inj h2
   exact ⟨a,.chain h1 ho he⟩
  ·cases h2
theorem Ki {T:Tab} {ev:eU→Option Out} {ops:List Oper} {n:Nat} {bt:Tr Nat} {i:Nat} {o:Oper} {s s':Dr} (h:Bq T ev ops n bt i o s=some s') :
  ∃m b a,bt.get i=some m∧m<2 ^ i∧tC m o.guard=true∧known ops bt i m (tmpsOf (aK o.op))=true∧gZ ops s.env o=some b∧Kind T ev n i m o s b a s':=by
 unfold Bq at h
 split at h
 ·cases h
 ·rename_i m hm
  obtain ⟨h1,h2⟩:=aD h
  rw [Bool.and_eq_true,Bool.and_eq_true] at h1
  split at h2
  ·cases h2
  ·rename_i b hb
   cases b with
   | false =>
    have h3:Bo n o.dst s (.tup [])=some s':=h2
    unfold Bo at h3
    split at h3
    ·rename_i e he
     obtain rfl:=some_inj h3
     exact ⟨m,false,_,hm,jw h1.1.1,h1.1.2,h1.2,hb,.skip he⟩
    ·cases h3
   | true =>
    have h3:zT T ev n i m o s=some s':=h2
    have fin:(∃a,Kind T ev n i m o s true a s')→∃m b a,bt.get i=some m∧m<2 ^ i∧tC m o.guard=true∧known ops bt i m (tmpsOf (aK o.op))=true∧gZ ops s.env o=some b∧Kind T ev n i m o s b a s' :=
     fun ⟨a,ha⟩=>⟨m,true,a,hm,jw h1.1.1,h1.1.2,h1.2,hb,ha⟩
    apply fin
    unfold zT at h3
    split at h3
    ·exact zq h3
    ·split at h3
     ·rename_i t x ho
      unfold Qr at h3
      split at h3
      ·cases h3
      ·rename_i p hp
       split at h3
       ·cases h3
       ·rename_i a ha
        split at h3
        ·rename_i e he
         obtain rfl:=some_inj h3
         exact ⟨a,.look ho hp ha he⟩
        ·cases h3
     ·cases h3
    ·unfold UL at h3
     split at h3
     ·cases h3
     ·rename_i a b ha
      split at h3
      ·rename_i e he
       obtain rfl:=some_inj h3
       exact ⟨a,.new ha he⟩
      ·cases h3
    ·exact xX h3
    ·split at h3
     ·rename_i r hr
      obtain rfl:=some_inj h3
      exact zq hr
     ·exact xX h3
section
variable {T:Tab} {ev:eU→Option Out} {n i m:Nat} {o:Oper} {s s':Dr} {b:Bool} {a:A}
theorem Kind.put (k:Kind T ev n i m o s b a s'):jL s.env n o.dst a=some s'.env:=by cases k<;>assumption
theorem Kind.ch (k:Kind T ev n i m o s b a s'):(s'.ch=s.ch∧s'.h.t=s.h.t∧s'.hs=s.hs)∨(Iz m s.ch=true∧s'.ch=i::s.ch∧s'.hs=s'.h::s.hs):=by
 cases k<;>first | exact .inl ⟨rfl,rfl,rfl⟩ | exact .inr ⟨by assumption,rfl,rfl⟩
theorem Kind.al (k:Kind T ev n i m o s b a s'):s'.al=s.al∨∃x,s'.al=⟨i,s.h.nx,x⟩::s.al∧s'.h.nx=s.h.nx+1:=by
 cases k<;>first | exact .inl rfl | exact .inr ⟨_,rfl,rfl⟩
theorem Kind.lk (k:Kind T ev n i m o s b a s'):∃l,s'.lk=l++s.lk:=by
 cases k<;>first | exact ⟨[],rfl⟩ | exact ⟨[_],rfl⟩
theorem xY:∀ {l:List gX} {p:gX},p∈yS m l→p∈l∧m.testBit p.op=false
 | [],_,h=>by cases h
 | q::l,p,h=>by
  unfold yS at h
  cases hq:m.testBit q.op with
  | true =>
   rw [hq] at h
   obtain ⟨h1,h2⟩:=xY (l:=l) h
   exact ⟨List.mem_cons_of_mem _ h1,h2⟩
  | false =>
   rw [hq] at h
   rcases List.mem_cons.1 h with rfl | h
   ·exact ⟨List.mem_cons_self ..,hq⟩
   ·obtain ⟨h1,h2⟩:=xY (l:=l) h
    exact ⟨List.mem_cons_of_mem _ h1,h2⟩
theorem Kind.xs (k:Kind T ev n i m o s b a s') {p:gX} (hp:p∈s'.xs):(p∈s.xs∧(s'.ch=s.ch∨s'.ch=i::s.ch∧m.testBit p.op=false))∨(p.op=i∧s'.al=p::s.al∧s'.ch=s.ch):=by
 cases k
 case skip=>exact .inl ⟨hp,.inl rfl⟩
 case pure=>exact .inl ⟨hp,.inl rfl⟩
 case look=>exact .inl ⟨hp,.inl rfl⟩
 case new =>
  rcases List.mem_cons.1 hp with rfl | h
  ·exact .inr ⟨rfl,rfl,rfl⟩
  ·exact .inl ⟨h,.inl rfl⟩
 case chain =>
  obtain ⟨h1,h2⟩:=xY hp
  exact .inl ⟨h1,.inr ⟨rfl,h2⟩⟩
end
theorem oq {m:Nat}:∀ {l:List gX} {t:Tr bZ} {j:Nat} {b:bZ},(eF m l t).get j=some b→t.get j=some b∨∃p∈l,m.testBit p.op=true∧p.id=j∧p.blk=b
 | [],t,j,b,h=>.inl h
 | p::l,t,j,b,h=>by
  unfold eF at h
  cases hp:m.testBit p.op with
  | false =>
   rw [hp] at h
   exact (oq (l:=l) h).imp id fun ⟨q,h1,h2⟩=>⟨q,List.mem_cons_of_mem _ h1,h2⟩
  | true =>
   rw [hp] at h
   rcases oq (l:=l) h with h1 | ⟨q,h1,h2⟩
   ·rw [Tr.get_put] at h1
    by_cases e:j=p.id
    ·rw [if_pos e] at h1
     exact .inr ⟨p,List.mem_cons_self ..,hp,e.symm,some_inj h1⟩
    ·rw [if_neg e] at h1; exact .inl h1
   ·exact .inr ⟨q,List.mem_cons_of_mem _ h1,h2⟩
theorem zu:∀ {l:List gX} {t:Tr bZ} {j:Nat} {b:bZ},(dh l t).get j=some b→t.get j=some b∨∃p∈l,p.id=j∧p.blk=b
 | [],t,j,b,h=>.inl h
 | p::l,t,j,b,h=>by
  unfold dh at h
  rcases zu (l:=l) h with h1 | ⟨q,h1,h2⟩
  ·rw [Tr.get_put] at h1
   by_cases e:j=p.id
   ·rw [if_pos e] at h1
    exact .inr ⟨p,List.mem_cons_self ..,e.symm,some_inj h1⟩
   ·rw [if_neg e] at h1; exact .inl h1
  ·exact .inr ⟨q,List.mem_cons_of_mem _ h1,h2⟩
theorem xZ {bt:Tr Nat} {cs:List Nat}:∀ {l:List gX} {p:gX},p∈still bt cs l→p∈l∧fV bt p.op cs=false
 | [],_,h=>by cases h
 | q::l,p,h=>by
  unfold still at h
  cases hq:fV bt q.op cs with
  | true =>
   rw [hq] at h
   obtain ⟨h1,h2⟩:=xZ (l:=l) h
   exact ⟨List.mem_cons_of_mem _ h1,h2⟩
  | false =>
   rw [hq] at h
   rcases List.mem_cons.1 h with rfl | h
   ·exact ⟨List.mem_cons_self ..,hq⟩
   ·obtain ⟨h1,h2⟩:=xZ (l:=l) h
    exact ⟨List.mem_cons_of_mem _ h1,h2⟩
theorem gQ {bt:Tr Nat} {j:Nat}:∀ {cs:List Nat},fV bt j cs=false↔∀c∈cs,∃m,bt.get c=some m∧m.testBit j=false
 | []=>by simp [fV]
 | c::cs=>by
  unfold fV
  rw [Bool.or_eq_false_iff,gQ]
  constructor
  ·rintro ⟨h1,h2⟩ d hd
   rcases List.mem_cons.1 hd with rfl | hd
   ·cases hb:bt.get d with
    | none=>rw [hb] at h1; cases h1
    | some m=>rw [hb] at h1; exact ⟨m,rfl,h1⟩
   ·exact h2 d hd
  ·intro h
   refine ⟨?_,fun d hd=>h d (List.mem_cons_of_mem _ hd)⟩
   obtain ⟨m,h1,h2⟩:=h c (List.mem_cons_self ..)
   rw [h1]; exact h2
theorem iY:∀ {l:List Oper} {seen:List Nat} (i:Nat),jT l seen=true→∀ {k:Nat} {o:Oper} {d:Nat},l[k]? = some o→o.dst=some d→(∀x∈seen,x≠d)∧writer l i d=some (i+k)
 | [],_,_,_,k,o,d,ho,_=>by simp at ho
 | q::l,seen,i,h,k,o,d,ho,hd=>by
  unfold jT at h
  cases k with
  | zero =>
   simp at ho
   subst ho
   rw [hd] at h
   simp only [Bool.and_eq_true,Bool.not_eq_true',List.any_eq_false] at h
   refine ⟨fun x hx e=>h.1 x hx (by rw [e]; exact Nat.beq_refl d),?_⟩
   unfold writer
   rw [hd]
   simp only [Nat.beq_refl,cond_true,Nat.add_zero]
  | succ k =>
   simp at ho
   have rest:∀ {seen':List Nat},jT l seen'=true→(∀x∈seen,x∈seen')→(∀d',q.dst=some d'→d'∈seen')→(∀x∈seen,x≠d)∧writer (q::l) i d=some (i+(k+1)):=fun hf h1 h2=>by
    obtain ⟨i1,i2⟩:=iY (i+1) hf ho hd
    refine ⟨fun x hx=>i1 x (h1 x hx),?_⟩
    unfold writer
    have e:writer l (i+1) d=some (i+(k+1)):=by rw [i2]; congr 1; omega
    cases hq:q.dst with
    | none=>exact e
    | some d' =>
     have:Nat.beq d' d=false:=by
      cases hb:Nat.beq d' d with
      | false=>rfl
      | true=>exact absurd (aY hb) (i1 d' (h2 d' hq))
     simp only [this,cond_false]
     exact e
   cases hq:q.dst with
   | none =>
    rw [hq] at h
    exact rest h (fun x hx=>hx) (fun d' h'=>by rw [hq] at h'; cases h')
   | some d' =>
    rw [hq] at h
    simp only [Bool.and_eq_true] at h
    exact rest h.2 (fun x hx=>List.mem_cons_of_mem _ hx) (fun d2 h'=>by rw [hq] at h'; rw [some_inj h']; exact List.mem_cons_self ..)
theorem nK:∀ {l:List Oper} {i d k:Nat},writer l i d=some k→∃j o,k=i+j∧l[j]? = some o∧o.dst=some d
 | [],_,_,_,h=>by cases h
 | q::l,i,d,k,h=>by
  unfold writer at h
  have rest:writer l (i+1) d=some k→∃j o,k=i+j∧(q::l)[j]? = some o∧o.dst=some d:=fun h=>by
   obtain ⟨j,o,h1,h2,h3⟩:=nK h
   exact ⟨j+1,o,by omega,by simpa using h2,h3⟩
  cases hq:q.dst with
  | none=>rw [hq] at h; exact rest h
  | some d' =>
   rw [hq] at h
   simp only at h
   cases hb:Nat.beq d' d with
   | true =>
    rw [hb] at h
    have hk:=some_inj (show some i=some k from h)
    exact ⟨0,q,by omega,by simp,by rw [hq,aY hb]⟩
   | false=>rw [hb] at h; exact rest h
end Go.Proofs.YteemnmalikomgaaGreatDoor.Ev
namespace Go.Proofs.YteemnmalikomgaaGreatDoor.Ev
structure Run (P:Program) (ev:eU→Option Out) (ops:Array Oper) (n:Nat) (env:Tr A) (h:H) (st:Nat→Dr):Prop where
 fresh:jT ops.toList []=true
 step:∀i o,ops[i]? = some o→∃m b a,(dX ops.toList 0 .lf).get i=some m∧m<2 ^ i∧tC m o.guard=true∧known ops.toList (dX ops.toList 0 .lf) i m (tmpsOf (aK o.op))=true ∧
  gZ ops.toList (st i).env o=some b∧Kind (ah P) ev n i m o (st i) b a (st (i+1))
 start:st 0=⟨env,h,[],[],[h],[],[]⟩
section
variable {P:Program} {ev:eU→Option Out} {ops:Array Oper} {n:Nat} {env:Tr A} {h:H} {st:Nat→Dr}
theorem Run.kind (R:Run P ev ops n env h st) {i:Nat} (hi:i<ops.size):∃o m b a,ops[i]? = some o∧(dX ops.toList 0 .lf).get i=some m∧m<2 ^ i∧Kind (ah P) ev n i m o (st i) b a (st (i+1)):=by
 obtain ⟨m,b,a,h1,h2,_,_,_,h3⟩:=R.step i ops[i] (by simp [hi])
 exact ⟨ops[i],m,b,a,by simp [hi],h1,h2,h3⟩
theorem Run.kJ (R:Run P ev ops n env h st):∀ {i:Nat},i≤ops.size→∀c∈(st i).ch,c<i
 | 0,_,c,hc=>by rw [R.start] at hc; cases hc
 | i+1,hi,c,hc=>by
  obtain ⟨o,m,b,a,_,_,_,k⟩:=R.kind (i:=i) (by omega)
  rcases k.ch with ⟨h1,_⟩ | ⟨_,h1,_⟩
  ·rw [h1] at hc
   have:=R.kJ (i:=i) (by omega) c hc; omega
  ·rw [h1] at hc
   rcases List.mem_cons.1 hc with rfl | hc
   ·omega
   ·have:=R.kJ (i:=i) (by omega) c hc; omega
theorem Run.x9 (R:Run P ev ops n env h st) {i:Nat}:∀ {j:Nat},i≤j→j≤ops.size→∃us us',(st j).ch=us++(st i).ch∧(st j).hs=us'++(st i).hs∧us.length=us'.length∧∀c∈us,i≤c
 | 0,h0,_=>by
  have:i=0:=by omega
  subst this
  exact ⟨[],[],rfl,rfl,rfl,fun c hc=>by cases hc⟩
 | j+1,h0,hj=>by
  by_cases e:i=j+1
  ·subst e
   exact ⟨[],[],rfl,rfl,rfl,fun c hc=>by cases hc⟩
  ·obtain ⟨us,us',e1,e2,e3,e4⟩:=R.x9 (i:=i) (j:=j) (by omega) (by omega)
   obtain ⟨o,m,b,a,_,_,_,k⟩:=R.kind (i:=j) (by omega)
   rcases k.ch with ⟨h1,_,h2⟩ | ⟨_,h1,h2⟩
   ·exact ⟨us,us',by rw [h1,e1],by rw [h2,e2],e3,e4⟩
   ·refine ⟨j::us,(st (j+1)).h::us',by rw [h1,e1]; rfl,by rw [h2,e2]; rfl,by simp [e3],fun c hc=> ?_⟩
    rcases List.mem_cons.1 hc with rfl | hc
    ·omega
    ·exact e4 c hc
theorem Run.ou (R:Run P ev ops n env h st) {i:Nat} (hi:i≤ops.size) {c:Nat}:c∈(st i).ch↔c∈(st ops.size).ch∧c<i:=by
 obtain ⟨us,_,e1,_,_,e4⟩:=R.x9 hi (Nat.le_refl _)
 rw [e1,List.mem_append]
 constructor
 ·intro hc; exact ⟨.inr hc,R.kJ hi c hc⟩
 ·rintro ⟨h1 | h1,h2⟩
  ·have:=e4 c h1; omega
  ·exact h1
theorem Run.yY (R:Run P ev ops n env h st) {i:Nat}:∀ {j:Nat},i≤j→j≤ops.size→(∀c∈(st j).ch,c<i)→(st j).ch=(st i).ch∧(st j).h.t=(st i).h.t∧(st j).hs=(st i).hs
 | 0,h0,_,_=>by
  have:i=0:=by omega
  subst this
  exact ⟨rfl,rfl,rfl⟩
 | j+1,h0,hj,hc=>by
  by_cases e:i=j+1
  ·subst e; exact ⟨rfl,rfl,rfl⟩
  ·obtain ⟨o,m,b,a,_,_,_,k⟩:=R.kind (i:=j) (by omega)
   rcases k.ch with ⟨h1,h2,h3⟩ | ⟨_,h1,_⟩
   ·obtain ⟨i1,i2,i3⟩:=R.yY (i:=i) (j:=j) (by omega) (by omega) (fun c hc'=>hc c (by rw [h1]; exact hc'))
    exact ⟨h1.trans i1,h2.trans i2,h3.trans i3⟩
   ·have:=hc j (by rw [h1]; exact List.mem_cons_self ..)
    omega
theorem Run.LG (R:Run P ev ops n env h st):∀ {i:Nat},i≤ops.size→∃k ks,(st i).hs=k::ks∧k.t=(st i).h.t
 | 0,_=>⟨h,[],by rw [R.start],by rw [R.start]⟩
 | i+1,hi=>by
  obtain ⟨o,m,b,a,_,_,_,k⟩:=R.kind (i:=i) (by omega)
  rcases k.ch with ⟨_,h2,h3⟩ | ⟨_,_,h3⟩
  ·obtain ⟨k,ks,e1,e2⟩:=R.LG (i:=i) (by omega)
   exact ⟨k,ks,h3.trans e1,e2.trans h2.symm⟩
  ·exact ⟨_,_,h3,rfl⟩
theorem Run.QJ (R:Run P ev ops n env h st) {i:Nat}:∀ {j:Nat},i≤j→j≤ops.size→∀l∈(st i).lk,l∈(st j).lk
 | 0,h0,_,l,hl=>by
  have:i=0:=by omega
  subst this; exact hl
 | j+1,h0,hj,l,hl=>by
  by_cases e:i=j+1
  ·subst e; exact hl
  ·obtain ⟨o,m,b,a,_,_,_,k⟩:=R.kind (i:=j) (by omega)
   obtain ⟨x,hx⟩:=k.lk
   rw [hx]
   exact List.mem_append_right _ (R.QJ (i:=i) (j:=j) (by omega) (by omega) l hl)
theorem Run.Cb (R:Run P ev ops n env h st) {i:Nat}:∀ {j:Nat},i≤j→j≤ops.size→∀l∈(st i).al,l∈(st j).al
 | 0,h0,_,l,hl=>by
  have:i=0:=by omega
  subst this; exact hl
 | j+1,h0,hj,l,hl=>by
  by_cases e:i=j+1
  ·subst e; exact hl
  ·obtain ⟨o,m,b,a,_,_,_,k⟩:=R.kind (i:=j) (by omega)
   have ih:=R.Cb (i:=i) (j:=j) (by omega) (by omega) l hl
   rcases k.al with h1 | ⟨x,h1,_⟩
   ·rw [h1]; exact ih
   ·rw [h1]; exact List.mem_cons_of_mem _ ih
theorem Run.qy (R:Run P ev ops n env h st):∀ {i:Nat},i≤ops.size→∀p∈(st i).al,p.op<i∧(st (p.op+1)).al=p::(st p.op).al∧p.id=(st p.op).h.nx∧(st (p.op+1)).h.nx=p.id+1
 | 0,_,p,hp=>by rw [R.start] at hp; cases hp
 | i+1,hi,p,hp=>by
  obtain ⟨o,m,b,a,_,_,_,k⟩:=R.kind (i:=i) (by omega)
  rcases k.al with h1 | ⟨x,h1,h2⟩
  ·rw [h1] at hp
   obtain ⟨i1,i2⟩:=R.qy (i:=i) (by omega) p hp
   exact ⟨by omega,i2⟩
  ·rw [h1] at hp
   rcases List.mem_cons.1 hp with rfl | hp
   ·exact ⟨Nat.lt_succ_self i,h1,rfl,h2⟩
   ·obtain ⟨i1,i2⟩:=R.qy (i:=i) (by omega) p hp
    exact ⟨by omega,i2⟩
theorem Run.Cc (R:Run P ev ops n env h st):∀ {i:Nat},i≤ops.size→∀p∈(st i).xs,p∈(st i).al∧fV (dX ops.toList 0 .lf) p.op (st i).ch=false
 | 0,_,p,hp=>by rw [R.start] at hp; cases hp
 | i+1,hi,p,hp=>by
  obtain ⟨o,m,b,a,_,hm,_,k⟩:=R.kind (i:=i) (by omega)
  rcases k.xs hp with ⟨h1,h2⟩ | ⟨h1,h2,h3⟩
  ·obtain ⟨i1,i2⟩:=R.Cc (i:=i) (by omega) p h1
   refine ⟨R.Cb (Nat.le_succ i) hi p i1,?_⟩
   rcases h2 with h2 | ⟨h2,h3⟩
   ·rw [h2]; exact i2
   ·rw [h2,gQ]
    intro c hc
    rcases List.mem_cons.1 hc with rfl | hc
    ·exact ⟨m,hm,h3⟩
    ·exact gQ.1 i2 c hc
  ·refine ⟨by rw [h2]; exact List.mem_cons_self ..,?_⟩
   rw [h3,gQ]
   intro c hc
   have hlt:=R.kJ (i:=i) (by omega) c hc
   obtain ⟨_,mc,_,_,_,e1,e2,_⟩:=R.kind (i:=c) (by omega)
   refine ⟨mc,e1,?_⟩
   cases ht:mc.testBit p.op with
   | false=>rfl
   | true=>have:=oV e2 ht; omega
theorem Run.nx (R:Run P ev ops n env h st) (T:Truth P ev) {i:Nat}:∀ {j:Nat},i≤j→j≤ops.size→(st i).h.nx≤(st j).h.nx
 | 0,h0,_=>by
  have:i=0:=by omega
  subst this; exact Nat.le_refl _
 | j+1,h0,hj=>by
  by_cases e:i=j+1
  ·subst e; exact Nat.le_refl _
  ·obtain ⟨o,m,b,a,_,_,_,k⟩:=R.kind (i:=j) (by omega)
   refine Nat.le_trans (R.nx T (i:=i) (j:=j) (by omega) (by omega)) ?_
   generalize hs:st (j+1)=s' at k
   cases k
   case chain=>rename_i hl hop hp; exact (yX (r:=none) (n:=n) (ds:=[]) T hop).1
   all_goals first | exact Nat.le_refl _ | exact Nat.le_succ _
theorem Run.Aa (R:Run P ev ops n env h st) {i t:Nat}:∀ {j:Nat},i≤j→j≤ops.size→(∀k o,i≤k→k<j→ops[k]? = some o→o.dst≠some t)→(st j).env.get t=(st i).env.get t
 | 0,h0,_,_=>by
  have:i=0:=by omega
  subst this; rfl
 | j+1,h0,hj,hn=>by
  by_cases e:i=j+1
  ·subst e; rfl
  ·obtain ⟨o,m,b,a,ho,_,_,k⟩:=R.kind (i:=j) (by omega)
   refine Eq.trans ?_ (R.Aa (i:=i) (j:=j) (by omega) (by omega) fun k o h1 h2 h3=>hn k o h1 (by omega) h3)
   have hp:=k.put
   have hd:=hn j o (by omega) (by omega) ho
   unfold jL at hp
   cases hd2:o.dst with
   | none=>rw [hd2] at hp; rw [some_inj hp]
   | some d =>
    rw [hd2] at hp hd
    obtain ⟨_,h2⟩:=aD (b:=Nat.blt d n) hp
    rw [←some_inj h2,Tr.kD _ _ (fun e=>hd (by rw [e]))]
theorem Run.Je (R:Run P ev ops n env h st) {t k i:Nat} (hw:writer ops.toList 0 t=some k) (hk:k<i) (hi:i≤ops.size):(st i).env.get t=(st ops.size).env.get t:=by
 refine (R.Aa hi (Nat.le_refl _) fun j o h1 h2 h3 e=> ?_).symm
 have:=(iY 0 R.fresh (k:=j) (by simpa using h3) e).2
 rw [this] at hw
 have:=some_inj hw
 omega
theorem Run.yc (R:Run P ev ops n env h st) {t i:Nat} (hw:∀k,writer ops.toList 0 t=some k→i≤k) (hi:i≤ops.size):(st i).env.get t=env.get t:=by
 refine (R.Aa (Nat.zero_le i) hi fun j o h1 h2 h3 e=> ?_).trans (by rw [R.start])
 have:=hw _ (iY 0 R.fresh (k:=j) (by simpa using h3) e).2
 omega
end
end Go.Proofs.YteemnmalikomgaaGreatDoor.Ev
namespace Go.Proofs.YteemnmalikomgaaGreatDoor.Ev
def Ls (listed:Array Bool) (i:Nat):Prop:=listed.getD i false=true
theorem Ls.set {listed:Array Bool} {i j:Nat} (hi:i<listed.size):Ls (listed.setIfInBounds i true) j↔j=i∨Ls listed j:=by
 unfold Ls
 by_cases e:j=i
 ·subst e
  simp [Array.getD_eq_getD_getElem?,hi]
 ·rw [getD_set_ne _ (Ne.symm e)]
  simp [e]
def fE (ops:List Oper) (o:Oper):List Nat :=
 match o.guard with
 | some (j,_)=>(match nth ops j with
  | some g=>g.dst.toList
  | none=>[])
 | none=>[]
theorem Jf {ops:List Oper} {env env':Tr A} {o:Oper} (h:∀s∈fE ops o,env.get s=env'.get s):gZ ops env o=gZ ops env' o:=by
 unfold gZ
 unfold fE at h
 cases hg:o.guard with
 | none=>rfl
 | some g =>
  obtain ⟨j,want⟩:=g
  rw [hg] at h
  simp only at h ⊢
  cases hj:nth ops j with
  | none=>rfl
  | some g =>
   rw [hj] at h
   simp only at h ⊢
   unfold NG
   cases hd:g.dst with
   | none=>rfl
   | some d =>
    rw [hd] at h
    simp only
    rw [h d (by simp)]
theorem Ce {ops:List Oper} {bt:Tr Nat} {i m:Nat}:∀ {l:List Nat},known ops bt i m l=true→∀s∈l,∀k,writer ops 0 s=some k→m.testBit k=true∨∃mk,bt.get k=some mk∧mk.testBit i=true
 | [],_,s,hs=>by cases hs
 | t::l,h,s,hs=>by
  unfold known at h
  rw [Bool.and_eq_true] at h
  intro k hk
  rcases List.mem_cons.1 hs with rfl | hs
  ·have h1:=h.1
   rw [hk] at h1
   simp only [Bool.or_eq_true] at h1
   refine h1.imp id fun h2=> ?_
   cases hb:bt.get k with
   | none=>rw [hb] at h2; cases h2
   | some mk=>rw [hb] at h2; exact ⟨mk,rfl,h2⟩
  ·exact Ce h.2 s hs k hk
theorem Uh {T:Tab} {ev:eU→Option Out} {env:Tr A} {op:Op} {k:H} {a:A} {b:bZ} (h:Iu op T env k.nx=some (a,b)):kG op T ev env k=some (a,k.new b):=by
 cases op
 case alloc e=>show nb k (sZ T k.nx e)=_; rw [show sZ T k.nx e=some (a,b) from h]; rfl
 case box e x=>show nb k (vD T env k.nx e x)=_; rw [show vD T env k.nx e x=some (a,b) from h]; rfl
 case buildSlice t l ps=>show nb k (vE T env k.nx t l ps.toList)=_; rw [show vE T env k.nx t l ps.toList=some (a,b) from h]; rfl
 case makeSlice t l c=>show nb k (vF T env k.nx t l c)=_; rw [show vF T env k.nx t l c=some (a,b) from h]; rfl
 all_goals cases h
theorem zw {T:Tab} {bt:Tr Nat} {xs:List gX} {ch:List Nat} {hs:List H}:∀ {ls:List Look},mX T bt xs ch hs ls=true→∀l∈ls,∃m,bt.get l.op=some m∧jv T bt xs l m ch hs=true
 | [],_,l,hl=>by cases hl
 | x::ls,h,l,hl=>by
  unfold mX at h
  rw [Bool.and_eq_true] at h
  rcases List.mem_cons.1 hl with rfl | hl
  ·cases hb:bt.get l.op with
   | none=>rw [hb] at h; cases h.1
   | some m=>rw [hb] at h; exact ⟨m,rfl,h.1⟩
  ·exact zw h.2 l hl
theorem EJ {T:Tab} {bt:Tr Nat} {xs:List gX} {l:Look} {m:Nat} {vs:List Nat} {vs':List H}:∀ {us:List Nat} {us':List H},us.length=us'.length→jv T bt xs l m (us++vs) (us'++vs')=true→(∀c∈us,m.testBit c=false) →
  (∀c cs,vs=c::cs→∃mc,bt.get c=some mc∧mc.testBit l.op=false)→∃k ks,vs'=k::ks∧jv.at_ T bt xs l m vs k=true
 | [],[],_,h,_,hv=>by
  simp only [List.nil_append] at h
  cases vs with
  | nil =>
   cases vs' with
   | nil=>simp [jv] at h
   | cons k ks=>exact ⟨k,ks,rfl,by simpa [jv] using h⟩
  | cons c cs =>
   cases vs' with
   | nil=>simp [jv] at h
   | cons k ks =>
    obtain ⟨mc,h1,h2⟩:=hv c cs rfl
    unfold jv at h
    rw [h1] at h
    simp only [h2,cond_false,Bool.and_eq_true] at h
    exact ⟨k,ks,rfl,h.1⟩
 | [],_::_,e,_,_,_=>by cases e
 | _::_,[],e,_,_,_=>by cases e
 | c::us,k::us',e,h,hu,hv=>by
  simp only [List.cons_append] at h
  have hc:=hu c (List.mem_cons_self ..)
  unfold jv at h
  split at h
  ·cases h
  ·rename_i mc hmc
   refine EJ (us:=us) (us':=us') (by simpa using e) ?_ (fun c hc=>hu c (List.mem_cons_of_mem _ hc)) hv
   cases hm:mc.testBit l.op with
   | true=>rw [hm] at h; exact h
   | false =>
    rw [hm] at h
    simp only [cond_false,Bool.and_eq_true,hc] at h
    exact h.2
structure Inv (P:Program) (ops:Array Oper) (n:Nat) (env:Tr A) (h:H) (st:Nat→Dr) (ds:List Nat) (σ:Val) (w:World) (listed:Array Bool) (a:Act) (v:World) (τ:Val) (t:Tr bZ) (q:Nat):Prop where
 size:listed.size=ops.size
 qle:q≤ops.size
 ch:∀c∈(st ops.size).ch,(Ls listed c↔c∈(st q).ch)
 rel:Rel P.globals.size τ ⟨t,(st ops.size).h.nx⟩ v
 kept:Kept σ h w τ ⟨t,(st ops.size).h.nx⟩ v
 sub:∀j b,(st q).h.t.get j=some b→t.get j=some b
 pend:∀p∈(st ops.size).al,Ls listed p.op→fV (dX ops.toList 0 .lf) p.op (st q).ch=false→t.get p.id=some p.blk∧(st q).h.t.get p.id=none
 closed:∀i m,Ls listed i→(dX ops.toList 0 .lf).get i=some m→∀j,m.testBit j=true→Ls listed j
 free:∀i,i<ops.size→¬Ls listed i→Free τ (st i).h.nx (st (i+1)).h.nx
 tsize:a.tmps.size=n
 late:∀s k x,writer ops.toList 0 s=some k→Ls listed k→(st ops.size).env.get s=some x→a.tmps[s]? = some (x.den τ)∧x.ok τ.dom
 early:∀s x,(∀k,writer ops.toList 0 s=some k→¬Ls listed k)→env.get s=some x→a.tmps[s]? = some (x.den τ)∧x.ok τ.dom
 defers:a.defers=marks σ ds
section
variable {P:Program} {ev:eU→Option Out} {ops:Array Oper} {n:Nat} {env:Tr A} {h:H} {st:Nat→Dr} {ds:List Nat} {σ:Val} {w:World} {listed:Array Bool} {a:Act} {v:World} {τ:Val} {t:Tr bZ} {q:Nat}
theorem Inv.XM (I:Inv P ops n env h st ds σ w listed a v τ t q) (R:Run P ev ops n env h st) {i m:Nat} {o:Oper} (ho:ops[i]? = some o) (_hm:(dX ops.toList 0 .lf).get i=some m) (hlt:m<2 ^ i) (hg:tC m o.guard=true)
  (hk:known ops.toList (dX ops.toList 0 .lf) i m (tmpsOf (aK o.op))=true) (hml:∀j,m.testBit j=true→Ls listed j) (hi:¬Ls listed i) :
  gI τ (only (st i).env (fE ops.toList o++tmpsOf (aK o.op))) n a.tmps:=by
 have hin:i<ops.size:=(Array.getElem?_eq_some_iff.1 ho).1
 have bit:∀s k x,writer ops.toList 0 s=some k→m.testBit k=true→(st i).env.get s=some x→a.tmps[s]? = some (x.den τ)∧x.ok τ.dom:=fun s k x hw hb hx =>
  I.late s k x hw (hml k hb) (by rw [←R.Je hw (oV hlt hb) (by omega)]; exact hx)
 refine ⟨I.tsize,fun s x hx=> ?_⟩
 rw [vQ] at hx
 split at hx
 ·rename_i hs
  rcases List.mem_append.1 hs with hs | hs
  ·unfold fE at hs
   cases hgd:o.guard with
   | none=>rw [hgd] at hs; cases hs
   | some g =>
    obtain ⟨j,want⟩:=g
    rw [hgd] at hs hg
    simp only at hs
    rw [Lv] at hs
    cases hj:ops[j]? with
    | none=>rw [hj] at hs; cases hs
    | some g =>
     rw [hj] at hs
     simp only [Option.mem_toList] at hs
     have:=(iY 0 R.fresh (k:=j) (by simpa using hj) hs).2
     rw [Nat.zero_add] at this
     exact bit s j x this hg hx
  ·cases hw:writer ops.toList 0 s with
   | none=>exact I.early s x (fun k hk=>by rw [hw] at hk; cases hk) (by rw [←R.yc (i:=i) (fun k hk=>by rw [hw] at hk; cases hk) (by omega)]; exact hx)
   | some k =>
    rcases Ce hk s hs k hw with hb | ⟨mk,h1,h2⟩
    ·exact bit s k x hw hb hx
    ·have hnk:¬Ls listed k:=fun hl=>hi (I.closed k mk hl h1 i h2)
     obtain ⟨j,o',e1,e2,_⟩:=nK hw
     rw [Nat.zero_add] at e1
     subst e1
     have hkn:k<ops.size:=by
      have:=(List.getElem?_eq_some_iff.1 e2).1
      simpa using this
     obtain ⟨_,mk',_,_,_,e3,e4,_⟩:=R.kind hkn
     rw [h1] at e3
     obtain rfl:=some_inj e3
     have:=oV e4 h2
     exact I.early s x (fun k' hk'=>by rw [hw] at hk'; rw [←some_inj hk']; exact hnk) (by rw [←R.yc (i:=i) (fun k' hk'=>by rw [hw] at hk'; rw [←some_inj hk']; omega) (by omega)]; exact hx)
 ·cases hx
theorem Inv.next (I:Inv P ops n env h st ds σ w listed a v τ t q) (R:Run P ev ops n env h st) (T:Truth P ev) {i m:Nat} {o:Oper} (ho:ops[i]? = some o) (hm:(dX ops.toList 0 .lf).get i=some m)
  (hml:∀j,m.testBit j=true→Ls listed j) (hi:¬Ls listed i) {x:A} {τ':Val} {t':Tr bZ} {v':World} {q':Nat} (hx:x.ok τ'.dom) (hp:jL (st i).env n o.dst x=some (st (i+1)).env)
  (hk:Kept τ ⟨t,(st i).h.nx⟩ v τ' ⟨t',(st (i+1)).h.nx⟩ v') (hr:Rel P.globals.size τ' ⟨t',(st (i+1)).h.nx⟩ v') (hq:q'≤ops.size)
  (hch:∀c∈(st ops.size).ch,(c=i∨Ls listed c↔c∈(st q').ch)) (hsub:∀j b,(st q').h.t.get j=some b→t'.get j=some b)
  (hpe:∀p∈(st ops.size).al,p.op=i∨Ls listed p.op→fV (dX ops.toList 0 .lf) p.op (st q').ch=false→t'.get p.id=some p.blk∧(st q').h.t.get p.id=none) :
  Inv P ops n env h st ds σ w (listed.setIfInBounds i true) (a.put o.dst (x.den τ')) v' τ' t' q':=by
 have hin:i<ops.size:=(Array.getElem?_eq_some_iff.1 ho).1
 have hsz:i<listed.size:=by rw [I.size]; exact hin
 have n0:h.nx≤(st i).h.nx:=by have:=R.nx T (Nat.zero_le i) (by omega); rw [R.start] at this; exact this
 have n1:=R.nx T (i:=i+1) (j:=ops.size) (by omega) (Nat.le_refl _)
 have wr:∀ {s k:Nat},writer ops.toList 0 s=some k→(k=i↔o.dst=some s):=fun {s k} hw=>by
  constructor
  ·rintro rfl
   obtain ⟨j,o',e1,e2,e3⟩:=nK hw
   rw [Nat.zero_add] at e1
   subst e1
   have:some o'=some o:=by rw [←ho,←e2]; simp
   rw [←some_inj this]; exact e3
  ·intro e
   have:=(iY 0 R.fresh (k:=i) (by simpa using ho) e).2
   rw [Nat.zero_add] at this
   rw [this] at hw
   exact (some_inj hw).symm
 have size':(a.put o.dst (x.den τ')).tmps.size=a.tmps.size:=by
  cases o.dst<;>simp [Act.put]
 have other:∀ {s:Nat},o.dst≠some s→(a.put o.dst (x.den τ')).tmps[s]? = a.tmps[s]?:=fun {s} hs=>by
  cases hd:o.dst with
  | none=>rfl
  | some d =>
   have:d≠s:=fun e=>hs (by rw [hd,e])
   simp [Act.put,Array.getElem?_setIfInBounds_ne this]
 have old:∀ {s:Nat} {y:A},o.dst≠some s→a.tmps[s]? = some (y.den τ)∧y.ok τ.dom→(a.put o.dst (x.den τ')).tmps[s]? = some (y.den τ')∧y.ok τ'.dom:=fun {s y} hs hy =>
  ⟨by rw [other hs,hk.same.den hy.2]; exact hy.1,hy.2.mono hk.same.dom⟩
 refine ⟨by simp [I.size],hq,fun c hc=>(Ls.set hsz).trans (hch c hc),hr.FU _,?_,hsub,fun p hp' hl=>hpe p hp' ((Ls.set hsz).1 hl),fun j mj hj hmj b hb=> ?_,fun j hj hl=> ?_,size'.trans I.tsize,fun s k y hw hl hy=> ?_,fun s y hn hy=> ?_,?_⟩
 ·exact I.kept.all ⟨hk.same,fun j hj=>(hk.dom j hj).imp id fun h=>⟨Nat.le_trans n0 h.1,Nat.lt_of_lt_of_le h.2 n1⟩,hk.size,hk.os,hk.tape,hk.output,hk.frame,hk.own⟩
 ·rw [Ls.set hsz] at hj ⊢
  rcases hj with rfl | hj
  ·rw [hm] at hmj
   rw [←some_inj hmj] at hb
   exact .inr (hml b hb)
  ·exact .inr (I.closed j mj hj hmj b hb)
 ·rw [Ls.set hsz] at hl
  have hl1:¬Ls listed j:=fun h=>hl (.inr h)
  have hl2:j≠i:=fun h=>hl (.inl h)
  intro c h1 h2 hd
  rcases hk.dom c hd with h3 | h3
  ·exact I.free j hj hl1 c h1 h2 h3
  ·rcases Nat.lt_or_gt_of_ne hl2 with h4 | h4
   ·have:=R.nx T (i:=j+1) (j:=i) h4 (by omega)
    have:=h3.1
    simp only at this
    omega
   ·have:=R.nx T (i:=i+1) (j:=j) h4 (by omega)
    have:=h3.2
    simp only at this
    omega
 ·rw [Ls.set hsz] at hl
  by_cases e:k=i
  ·have hd:=(wr hw).1 e
   have hy':(st (i+1)).env.get s=some y:=by rw [R.Je hw (by omega) (by omega)]; exact hy
   rw [hd] at hp
   obtain ⟨h1,h2⟩:=aD (b:=Nat.blt s n) hp
   rw [←some_inj h2,Tr.qb] at hy'
   obtain rfl:=some_inj hy'
   rw [hd]
   have:=jw h1
   exact ⟨by simp [Act.put,I.tsize,this],hx⟩
  ·exact old (fun hd=>e ((wr hw).2 hd)) (I.late s k y hw (hl.resolve_left e) hy)
 ·refine old (fun hd=> ?_) (I.early s y (fun k hk hl=>hn k hk ((Ls.set hsz).2 (.inr hl))) hy)
  have:=(iY 0 R.fresh (k:=i) (by simpa using ho) hd).2
  rw [Nat.zero_add] at this
  exact hn i this ((Ls.set hsz).2 (.inl rfl))
 ·rw [put_defers]; exact I.defers
end
end Go.Proofs.YteemnmalikomgaaGreatDoor.Ev
