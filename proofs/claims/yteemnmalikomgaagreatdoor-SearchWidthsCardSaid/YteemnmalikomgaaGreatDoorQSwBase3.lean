import Derived.Test.YteemnmalikomgaaGreatDoorQSwBase2
import Derived.Test.YteemnmalikomgaaGreatDoorQSwBase0
import Derived.BigQuiet
set_option maxRecDepth 100000
set_option maxHeartbeats 3200000
namespace Go.Proofs.YteemnmalikomgaaGreatDoor.NF
structure PR where
 left:List Int
 broken:Bool
def PR.none:PR:=⟨[],true⟩
def PR.tail (r:PR):PR:=⟨r.left.tail,r.broken⟩
def PR.sees (r:PR) (s:Int):Bool:=r.left.head? == some s
def PR.need (r:PR) (s:Int):PR:=if r.sees s then r.tail else .none
def PR.next (r:PR):Int×PR :=
 match r.left with
 | []=>(0,.none)
 | s::l=>(s,⟨l,r.broken⟩)
def aS {α:Type} (st:PR→Option (α×PR)):Nat→PR→List α×PR
 | 0,r=>([],r)
 | k+1,r =>
  match st r with
  | .none=>([],r)
  | .some (a,r1)=>(a::(aS st k r1).1,(aS st k r1).2)
def Hg:List Int:=[124,42,43,63,123,125,40,41,91,93,46,94,36,92]
def special (s:Int):Bool:=Hg.any fun x=>x == s
def M4:Nd:=.mk 0 [] false [] 0 0
def oz (s:Int):Nd:=.mk 2 [(s,s)] false [] 0 0
def fH (n:Nd) (a b:Int):Nd:=.mk 5 [] false [n] a b
def bD (k:Int) (l:List Nd):Nd :=
 match l with
 | [x]=>x
 | l=>.mk k [] false l 0 0
def bq (r:PR):Int×PR :=
 let x:=r.next
 if x.1 - 48<0∨9<x.1 - 48 then (x.1 - 48,.none) else (x.1 - 48,x.2)
def eB (a:Int) (r:PR):Int×PR :=
 if r.sees 44 then (if r.tail.sees 125 then (-1,r.tail) else bq r.tail) else (a,r)
def bV (r:PR):(Int×Int)×PR :=
 let x:=bq r
 let y:=eB x.1 x.2
 let r4:=y.2.need 125
 if y.1≠ -1∧y.1<x.1 then ((x.1,y.1),.none) else ((x.1,y.1),r4)
def iW (n:Nd) (r:PR):Nd×PR :=
 if r.sees 42 then (fH n 0 (-1),r.tail)
 else if r.sees 43 then (fH n 1 (-1),r.tail)
 else if r.sees 63 then (fH n 0 1,r.tail)
 else if r.sees 123 then (fH n (bV r.tail).1.1 (bV r.tail).1.2,(bV r.tail).2)
 else (n,r)
def bG (r:PR):Int×PR:=if r.next.1=92 then r.next.2.next else r.next
def dash (r:PR):Bool :=
 match r.left with
 | a::b::_=>a == 45 && b != 93
 | _=>false
def dG (r:PR):(Int×Int)×PR :=
 let x:=bG r
 if dash x.2 then
  let y:=bG (x.2.need 45)
  if y.1<x.1 then ((x.1,y.1),.none) else ((x.1,y.1),y.2)
 else ((x.1,x.1),x.2)
def setSt (r:PR):Option ((Int×Int)×PR):=if r.broken then .none else if r.sees 93 then .none else .some (dG r)
def setMu (r:PR):Nat:=r.left.length+(if r.broken then 0 else 1)
def uP (r:PR):List (Int×Int)×PR :=
 let x:=aS setSt (setMu r) r
 if x.2.broken then x else (x.1,x.2.tail)
def pV (r:PR):Nd×PR :=
 let x:=uP (if r.sees 94 then r.tail else r)
 (.mk 2 x.1 (r.sees 94) [] 0 0,if x.1.isEmpty then .none else x.2)
def fq (at':PR→Nd×PR) (r:PR):Nd×PR :=
 if r.sees 94 then (.mk 6 [] false [] 0 0,r.tail)
 else if r.sees 36 then (.mk 7 [] false [] 0 0,r.tail)
 else iW (at' r).1 (at' r).2
def eY (at':PR→Nd×PR) (r:PR):Option (Nd×PR) :=
 if r.left.isEmpty then .none else if r.sees 124 then .none else if r.sees 41 then .none else .some (fq at' r)
def ji (at':PR→Nd×PR) (r:PR):Nd×PR :=
 let x:=fq at' r
 let y:=aS (eY at') x.2.left.length x.2
 (bD 3 (x.1::y.1),y.2)
def gF (at':PR→Nd×PR) (r:PR):Option (Nd×PR):=if r.sees 124 then .some (ji at' r.tail) else .none
def mh (at':PR→Nd×PR) (r:PR):Nd×PR :=
 let x:=ji at' r
 let y:=aS (gF at') x.2.left.length x.2
 (bD 4 (x.1::y.1),y.2)
def jN:Nat→PR→Nd×PR
 | 0,_=>(M4,.none)
 | f+1,r =>
  let s:=r.next.1
  let r1:=r.next.2
  if s=40 then ((mh (jN f) r1).1,(mh (jN f) r1).2.need 41)
  else if s=46 then (.mk 2 [] true [] 0 0,r1)
  else if s=91 then pV r1
  else if s=92 then (oz r1.next.1,r1.next.2)
  else if special s then (M4,.none)
  else (oz s,r1)
def sP (l:List Int):Option Nd :=
 let x:=mh (jN (l.length+1)) ⟨l,false⟩
 if x.2.broken || !x.2.left.isEmpty then .none else .some x.1
theorem wZ {α:Type} {st:PR→Option (α×PR)} {mu:PR→Nat} (h:∀r a r1,st r=.some (a,r1)→mu r1<mu r):∀(k k':Nat) (r:PR),mu r≤k→mu r≤k'→aS st k r=aS st k' r
 | 0,0,r,_,_=>rfl
 | 0,k'+1,r,h1,h2=>by
  rw [aS,aS]
  cases e:st r with
  | none=>rfl
  | some x=>have:=h r x.1 x.2 e; omega
 | k+1,0,r,h1,h2=>by
  rw [aS,aS]
  cases e:st r with
  | none=>rfl
  | some x=>have:=h r x.1 x.2 e; omega
 | k+1,k'+1,r,h1,h2=>by
  rw [aS,aS]
  cases e:st r with
  | none=>rfl
  | some x =>
   have:=h r x.1 x.2 e
   dsimp only
   rw [wZ h k k' x.2 (by omega) (by omega)]
theorem gG {α:Type} {st:PR→Option (α×PR)} {k:Nat} {r:PR} (h:st r=.none):aS st k r=([],r):=by
 cases k with
 | zero=>rfl
 | succ k=>rw [aS,h]
theorem uQ {α:Type} {st:PR→Option (α×PR)} {mu:PR→Nat} (h:∀r a r1,st r=.some (a,r1)→mu r1<mu r) {r r1:PR} {a:α} (e:st r=.some (a,r1)) :
  aS st (mu r) r=(a::(aS st (mu r1) r1).1,(aS st (mu r1) r1).2):=by
 have h1:=h r a r1 e
 obtain ⟨k,hk⟩:∃k,mu r=k+1:=⟨mu r - 1,by omega⟩
 rw [hk,aS,e]
 dsimp only
 rw [wZ h k (mu r1) r1 (by omega) (Nat.le_refl _)]
theorem Ei {r:PR} {s:Int} (h:r.sees s=true):r.left=s::r.left.tail:=by
 obtain ⟨l,b⟩:=r
 cases l with
 | nil=>simp [PR.sees] at h
 | cons x xs=>simp [PR.sees] at h; subst h; rfl
def fI (r r':PR) (P:List Int→Prop):Prop:=r'.broken=false→r.broken=false∧∃pre,r.left=pre++r'.left∧P pre
theorem fI.none (r:PR) (P:List Int→Prop):fI r .none P:=fun h=>by cases h
theorem fI.refl (r:PR):fI r r (fun pre=>pre=[]):=fun h=>⟨h,[],rfl,rfl⟩
theorem fI.trans {r r1 r2:PR} {P Q R:List Int→Prop} (h:fI r r1 P) (h2:fI r1 r2 Q) (hR:∀a b,P a→Q b→R (a++b)):fI r r2 R:=fun hb=>by
 obtain ⟨b1,p2,e2,q2⟩:=h2 hb
 obtain ⟨b0,p1,e1,q1⟩:=h b1
 exact ⟨b0,p1++p2,by rw [e1,e2,List.append_assoc],hR _ _ q1 q2⟩
theorem fI.mono {r r1:PR} {P Q:List Int→Prop} (h:fI r r1 P) (hQ:∀a,P a→Q a):fI r r1 Q:=fun hb=>by
 obtain ⟨b0,p1,e1,q1⟩:=h hb
 exact ⟨b0,p1,e1,hQ _ q1⟩
theorem fT {r:PR} {s:Int} (h:r.sees s=true):fI r r.tail (fun pre=>pre=[s]):=fun hb=>⟨hb,[s],Ei h,rfl⟩
theorem zI (r:PR) (s:Int):fI r (r.need s) (fun pre=>pre=[s]):=by
 unfold PR.need
 split
 ·exact fT ‹_›
 ·exact .none _ _
theorem iN (r:PR):fI r r.next.2 (fun pre=>pre=[r.next.1]):=by
 obtain ⟨l,b⟩:=r
 cases l with
 | nil=>exact .none _ _
 | cons s l=>exact fun hb=>⟨hb,[s],rfl,rfl⟩
theorem fU {r:PR} {s:Int} (h:r.sees s=true):r.tail.left.length+1=r.left.length:=by
 rw [Ei h]; rfl
theorem pW (r:PR):r.next.2.left.length≤r.left.length - 1:=by
 obtain ⟨l,b⟩:=r
 cases l with
 | nil=>exact Nat.le_refl _
 | cons s l=>simp [PR.next]
theorem zJ (r:PR) (s:Int):(r.need s).left.length≤r.left.length - 1:=by
 unfold PR.need
 split
 ·have:=fU ‹_›; omega
 ·exact Nat.zero_le _
theorem Ej (r:PR):(bq r).2.left.length≤r.left.length - 1:=by
 unfold bq
 dsimp only
 split
 ·exact Nat.zero_le _
 ·exact pW r
theorem El (r:PR):fI r (bq r).2 (fun pre=>pre.length=1∧0≤(bq r).1∧(bq r).1≤9):=by
 unfold bq
 dsimp only
 split
 ·exact .none _ _
 ·refine (iN r).mono ?_
  rintro a rfl
  exact ⟨rfl,by dsimp only; omega,by dsimp only; omega⟩
theorem SF (a:Int) (r:PR):(eB a r).2.left.length≤r.left.length:=by
 unfold eB
 split
 ·have:=fU ‹_›
  split
  ·dsimp only; omega
  ·have:=Ej r.tail; omega
 ·exact Nat.le_refl _
theorem SK (a:Int) (r:PR):fI r (eB a r).2 (fun pre=>(eB a r).1=a∧pre=[]∨(eB a r).1 = -1∨0≤(eB a r).1∧(eB a r).1≤9):=by
 unfold eB
 split
 ·split
  ·exact (fT ‹_›).mono fun _ _=>.inr (.inl rfl)
  ·exact (fT ‹_›).trans (El _) fun _ _ _ h=>.inr (.inr h.2)
 ·exact (fI.refl r).mono fun _ h=>.inl ⟨rfl,h⟩
theorem M5 (r:PR):(bV r).2.left.length≤r.left.length:=by
 unfold bV
 dsimp only
 have h1:=Ej r
 have h2:=SF (bq r).1 (bq r).2
 have h3:=zJ (eB (bq r).1 (bq r).2).2 125
 split
 ·exact Nat.zero_le _
 ·dsimp only; omega
theorem M7 (r:PR):fI r (bV r).2 (fun pre=>2≤pre.length∧0≤(bV r).1.1∧(bV r).1.1≤9∧((bV r).1.2 = -1∨(bV r).1.1≤(bV r).1.2∧(bV r).1.2≤9)):=by
 unfold bV
 dsimp only
 split
 ·exact .none _ _
 ·refine ((El r).trans (SK (bq r).1 (bq r).2) (R:=fun pre=>1≤pre.length∧(0≤(bq r).1∧(bq r).1≤9)∧((eB (bq r).1 (bq r).2).1=(bq r).1∨(eB (bq r).1 (bq r).2).1 = -1∨0≤(eB (bq r).1 (bq r).2).1∧(eB (bq r).1 (bq r).2).1≤9)) ?_).trans (zI _ 125) ?_
  ·rintro a b ⟨h1,h2,h3⟩ h4
   exact ⟨by rw [List.length_append]; omega,⟨h2,h3⟩,h4.elim (fun h=>.inl h.1) .inr⟩
  ·rintro a b ⟨h1,⟨h2,h3⟩,h4⟩ h5
   exact ⟨by rw [List.length_append,h5,List.length_singleton]; omega,h2,h3,by dsimp only; omega⟩
structure Gd (n:Nd) (pre:List Int):Prop where
 pos:0<pre.length
 cnt:count n+1≤2*pre.length
 dp:deep n≤pre.length
 ok:(∀s∈pre,bL s=true)→may n=true
 wgt:wt n<3 ^ pre.length
def M8 (a b:Int):Nat:=if b<0 then a.toNat+1 else b.toNat
theorem Wu {v F p q:Nat} (hv:v<3 ^ p) (hq:0<q) (h:F≤2∨3≤q∧F≤10):v*F+1<3 ^ (p+q):=by
 rw [Nat.pow_add]
 obtain ⟨X,hX⟩:∃X,3 ^ p=X:=⟨_,rfl⟩
 rw [hX] at hv ⊢
 rcases h with h | ⟨h,h10⟩
 ·have h1:3≤3 ^ q:=by
   have:=Nat.pow_le_pow_right (show 0<3 by omega) hq
   omega
  have h2:v*F≤v*2:=Nat.mul_le_mul_left _ h
  have h3:X*3≤X*3 ^ q:=Nat.mul_le_mul_left _ h1
  omega
 ·have h1:27≤3 ^ q:=Nat.le_trans (by decide) (Nat.pow_le_pow_right (show 0<3 by omega) h)
  have h2:v*F≤v*10:=Nat.mul_le_mul_left _ h10
  have h3:X*27≤X*3 ^ q:=Nat.mul_le_mul_left _ h1
  omega
theorem Gd.times {n:Nd} {pre post:List Int} {a b:Int} (h:Gd n pre) (hp:0<post.length) (h1:0≤a) (h2:a≤9) (h3:b = -1∨a≤b∧b≤9) (hf:M8 a b≤2∨3≤post.length):Gd (fH n a b) (pre++post):=by
 refine ⟨by rw [List.length_append]; omega,?_,?_,fun hs=> ?_,?_⟩
 rotate_right
 ·have e:wt (fH n a b)=wt n*M8 a b+1:=by
   rw [fH,wt,if_neg (by decide),if_pos rfl,bf,bf,Nat.add_zero]
   unfold M8
   split<;>rfl
  rw [List.length_append,e]
  refine Wu h.wgt hp (hf.imp id fun h=>⟨h,?_⟩)
  unfold M8
  split<;>omega
 ·have:=h.cnt
  rw [List.length_append,fH,count,counts,counts]
  omega
 ·have:=h.dp
  rw [List.length_append,fH,deep,dI,dI]
  omega
 ·have:=h.ok fun s hs'=>hs s (List.mem_append_left _ hs')
  rw [fH,may,aW,aW,this]
  have h4:(decide (b = -1) || decide (a≤b) && decide (b≤9))=true:=by
   rcases h3 with h3 | ⟨h3,h5⟩
   ·simp [h3]
   ·simp [h3,h5]
  simp [aP,h1,h2]
  rcases h3 with h3 | ⟨h3,h5⟩
  ·exact .inl h3
  ·exact .inr ⟨h3,h5⟩
theorem Na (n:Nd) (r:PR):(iW n r).2.left.length≤r.left.length:=by
 unfold iW
 split
 ·have:=fU ‹_›; dsimp only; omega
 ·split
  ·have:=fU ‹_›; dsimp only; omega
  ·split
   ·have:=fU ‹_›; dsimp only; omega
   ·split
    ·have:=fU ‹_›
     have:=M5 r.tail
     dsimp only; omega
    ·exact Nat.le_refl _
theorem Nb {n:Nd} {r0 r:PR} (h:fI r0 r (Gd n)):fI r0 (iW n r).2 (Gd (iW n r).1):=by
 unfold iW
 split
 ·exact h.trans (fT ‹_›) fun a b h1 h2=>by subst h2; exact h1.times (by simp) (by omega) (by omega) (.inl rfl) (.inl (by decide))
 ·split
  ·exact h.trans (fT ‹_›) fun a b h1 h2=>by subst h2; exact h1.times (by simp) (by omega) (by omega) (.inl rfl) (.inl (by decide))
  ·split
   ·exact h.trans (fT ‹_›) fun a b h1 h2=>by subst h2; exact h1.times (by simp) (by omega) (by omega) (.inr ⟨by omega,by omega⟩) (.inl (by decide))
   ·split
    ·refine (h.trans (fT ‹_›) (R:=fun pre=>∃a b,pre=a++b∧Gd n a∧b.length=1) fun a b h1 h2=>⟨a,b,rfl,h1,by rw [h2]; rfl⟩).trans (M7 r.tail) ?_
     rintro _ b ⟨a,c,rfl,h1,hc⟩ ⟨h2,h3,h4,h5⟩
     rw [List.append_assoc]
     exact h1.times (by rw [List.length_append]; omega) h3 h4 h5 (.inr (by rw [List.length_append]; omega))
    ·exact h
theorem PY (s:Int):Gd (oz s) [s]:=by
 refine ⟨by simp,by simp [oz,count,counts],by simp [oz,deep,dI],fun h=> ?_,by simp [oz,wt,bf]⟩
 have:=h s (by simp)
 simp [oz,may,aW,aP,bK,this]
theorem Hl {k:Int} (hk:k=6∨k=7) (s:Int):Gd (.mk k [] false [] 0 0) [s]:=by
 refine ⟨by simp,by simp [count,counts],by simp [deep,dI],fun _=> ?_,?_⟩
 ·rcases hk with rfl | rfl<;>simp [may,aW,aP]
 ·rcases hk with rfl | rfl<;>simp [wt,bf]
theorem Gd.more {n:Nd} {a:List Int} (h:Gd n a) (b c:List Int):Gd n (b++a++c):=by
 refine ⟨by have:=h.pos; simp; omega,by have:=h.cnt; simp; omega,by have:=h.dp; simp; omega,fun hs=>h.ok fun s hs'=>hs s (by simp [hs']),Nat.lt_of_lt_of_le h.wgt (Nat.pow_le_pow_right (by omega) (by simp; omega))⟩
theorem wB (r:PR):(bG r).2.left.length≤r.left.length - 1:=by
 unfold bG
 have h1:=pW r
 split
 ·have h2:=pW r.next.2; omega
 ·exact h1
theorem oC (r:PR):fI r (bG r).2 (fun pre=>0<pre.length∧(bG r).1∈pre):=by
 unfold bG
 split
 ·refine (iN r).trans (iN _) ?_
  rintro a b rfl rfl
  simp
 ·refine (iN r).mono ?_
  rintro a rfl
  simp
def Gs (x:Int×Int) (pre:List Int):Prop:=0<pre.length∧x.1∈pre∧x.2∈pre∧x.1≤x.2
theorem Em (r:PR):(dG r).2.left.length≤r.left.length - 1:=by
 unfold dG
 dsimp only
 have h1:=wB r
 split
 ·have h2:=zJ (bG r).2 45
  have h3:=wB ((bG r).2.need 45)
  split
  ·exact Nat.zero_le _
  ·dsimp only; omega
 ·exact h1
theorem P9 (r:PR):fI r (dG r).2 (Gs (dG r).1):=by
 unfold dG
 dsimp only
 split
 ·split
  ·exact .none _ _
  ·refine ((oC r).trans (zI _ 45) (R:=fun pre=>0<pre.length∧(bG r).1∈pre) ?_).trans (oC _) ?_
   ·rintro a b ⟨h1,h2⟩ _
    exact ⟨by rw [List.length_append]; omega,List.mem_append_left _ h2⟩
   ·rintro a b ⟨h1,h2⟩ ⟨h3,h4⟩
    exact ⟨by rw [List.length_append]; omega,List.mem_append_left _ h2,List.mem_append_right _ h4,by dsimp only; omega⟩
 ·refine (oC r).mono ?_
  rintro a ⟨h1,h2⟩
  exact ⟨h1,h2,h2,Int.le_refl _⟩
theorem JU {r:PR} (h:r.left=[]):(dG r).2.broken=true:=by
 obtain ⟨l,b⟩:=r
 dsimp only at h
 subst h
 have:(bG ⟨[],b⟩)=(0,.none):=rfl
 unfold dG
 rw [this]
 rfl
theorem Ho (r:PR) (a:Int×Int) (r1:PR) (h:setSt r=.some (a,r1)):setMu r1<setMu r:=by
 unfold setSt at h
 split at h
 ·cases h
 ·split at h
  ·cases h
  ·have hr:r1=(dG r).2:=by
    have:=Option.some.inj h
    rw [this]
   subst hr
   have h1:=Em r
   have hb:r.broken=false:=by simpa using ‹¬r.broken=true›
   unfold setMu
   rw [hb]
   by_cases h2:r.left=[]
   ·rw [JU h2]
    rw [h2] at h1 ⊢
    simp at h1 ⊢
    rw [h1]
   ·have:=List.length_pos_iff.2 h2
    simp
    split<;>omega
theorem SS {r r1:PR} {a:Int×Int} (h:setSt r=.some (a,r1)):a=(dG r).1∧r1=(dG r).2∧r.broken=false∧r.sees 93=false:=by
 unfold setSt at h
 split at h
 ·cases h
 ·split at h
  ·cases h
  ·have:=Option.some.inj h
   exact ⟨by rw [this],by rw [this],by simpa using ‹¬r.broken=true›,by simpa using ‹¬r.sees 93=true›⟩
def XV (l:List (Int×Int)) (pre:List Int):Prop:=∀x∈l,x.1∈pre∧x.2∈pre∧x.1≤x.2
theorem zK:∀(k:Nat) (r:PR),setMu r≤k→(aS setSt k r).2.left.length≤r.left.length∧fI r (aS setSt k r).2 (XV (aS setSt k r).1) ∧
  ((aS setSt k r).2.broken=false→(aS setSt k r).2.sees 93=true)
 | 0,r,h=>by
  have hb:r.broken=true:=by
   unfold setMu at h
   cases e:r.broken
   ·rw [e] at h; simp at h
   ·rfl
  exact ⟨Nat.le_refl _,fun h2=>by rw [aS,hb] at h2; (cases h2),fun h2=>by rw [aS,hb] at h2; (cases h2)⟩
 | k+1,r,h=>by
  cases e:setSt r with
  | none =>
   rw [gG e]
   refine ⟨Nat.le_refl _,(fI.refl r).mono fun _ _ x hx=>(by cases hx),fun hb=> ?_⟩
   dsimp only at hb ⊢
   unfold setSt at e
   rw [hb] at e
   simp at e
   exact e
  | some y =>
   obtain ⟨a,r1⟩:=y
   have hm:=Ho r a r1 e
   obtain ⟨rfl,rfl,hb,h93⟩:=SS e
   obtain ⟨i1,i2,i3⟩:=zK k (dG r).2 (by omega)
   rw [aS,e]
   dsimp only
   have h1:=Em r
   refine ⟨by omega,(P9 r).trans i2 ?_,i3⟩
   rintro p q ⟨h2,h3,h4,h5⟩ h6 x hx
   rcases List.mem_cons.1 hx with rfl | hx
   ·exact ⟨List.mem_append_left _ h3,List.mem_append_left _ h4,h5⟩
   ·obtain ⟨h7,h8,h9⟩:=h6 x hx
    exact ⟨List.mem_append_right _ h7,List.mem_append_right _ h8,h9⟩
theorem SV (r:PR):(uP r).2.left.length≤r.left.length:=by
 unfold uP
 dsimp only
 have h:=(zK (setMu r) r (Nat.le_refl _)).1
 split
 ·exact h
 ·dsimp only [PR.tail]; rw [List.length_tail]; omega
theorem SY (r:PR):fI r (uP r).2 (fun pre=>0<pre.length∧XV (uP r).1 pre):=by
 unfold uP
 dsimp only
 obtain ⟨_,h2,h3⟩:=zK (setMu r) r (Nat.le_refl _)
 cases e:(aS setSt (setMu r) r).2.broken
 ·have h4:=h3 e
  rw [if_neg (by simp)]
  refine h2.trans (fT h4) ?_
  rintro a b h5 rfl
  exact ⟨by simp,fun x hx=>⟨List.mem_append_left _ (h5 x hx).1,List.mem_append_left _ (h5 x hx).2.1,(h5 x hx).2.2⟩⟩
 ·rw [if_pos rfl]
  exact fun hb=>by rw [e] at hb; cases hb
theorem Vm (r:PR):(pV r).2.left.length≤r.left.length:=by
 unfold pV
 obtain ⟨r0,h0⟩:∃r0,(if r.sees 94 then r.tail else r)=r0:=⟨_,rfl⟩
 rw [h0]
 dsimp only
 have h1:r0.left.length≤r.left.length:=by
  rw [←h0]
  split
  ·have:=fU ‹_›; omega
  ·exact Nat.le_refl _
 split
 ·exact Nat.zero_le _
 ·have:=SV r0; omega
theorem Vn (r:PR):fI r (pV r).2 (Gd (pV r).1):=by
 unfold pV
 obtain ⟨r0,h0⟩:∃r0,(if r.sees 94 then r.tail else r)=r0:=⟨_,rfl⟩
 rw [h0]
 dsimp only
 have h1:fI r r0 (fun _=>True):=by
  rw [←h0]
  split
  ·exact (fT ‹_›).mono fun _ _=>trivial
  ·exact (fI.refl r).mono fun _ _=>trivial
 split
 ·exact .none _ _
 ·rename_i hne
  refine h1.trans (SY r0) ?_
  rintro a b - ⟨h2,h3⟩
  refine ⟨by simp; omega,by rw [count,counts]; simp; omega,by rw [deep,dI]; simp; omega,fun hs=> ?_,?_⟩
  rotate_left
  ·refine Nat.lt_of_lt_of_le (show _<3 ^ 1 from ?_) (Nat.pow_le_pow_right (by omega) (show 1≤(a++b).length by rw [List.length_append]; omega))
   simp [wt,bf]
  have h4:bK (uP r0).1=true:=by
   unfold bK
   rw [List.all_eq_true]
   intro x hx
   obtain ⟨h5,h6,h7⟩:=h3 x hx
   simp [hs _ (List.mem_append_right _ h5),hs _ (List.mem_append_right _ h6),h7]
  have h5:(uP r0).1.isEmpty=false:=by simpa using hne
  simp [may,aW,aP,h4]
  exact .inl (by simpa using h5)
structure Good (f:PR→Nd×PR):Prop where
 len:∀r,(f r).2.left.length≤r.left.length - 1
 fwd:∀r,fI r (f r).2 (Gd (f r).1)
theorem mo {f:PR→Nd×PR} (h:Good f):Good (fq f):=by
 constructor
 ·intro r
  unfold fq
  split
  ·have:=fU ‹_›; dsimp only; omega
  ·split
   ·have:=fU ‹_›; dsimp only; omega
   ·have h1:=h.len r
    have h2:=Na (f r).1 (f r).2
    omega
 ·intro r
  unfold fq
  split
  ·exact (fT ‹_›).mono fun a e=>e ▸ Hl (.inl rfl) _
  ·split
   ·exact (fT ‹_›).mono fun a e=>e ▸ Hl (.inr rfl) _
   ·exact Nb (h.fwd r)
structure Hq (l:List Nd) (pre:List Int):Prop where
 pos:l.length≤pre.length
 cnt:counts l+l.length≤2*pre.length
 dp:dI l+l.length≤pre.length+1
 ok:(∀s∈pre,bL s=true)→aW l=true
 wgt:bf l+l.length≤3 ^ pre.length
theorem yJ (pre:List Int):Hq [] pre:=⟨Nat.zero_le _,by simp [counts],by simp [dI],fun _=>by simp [aW],by simp [bf]⟩
theorem Wv {X Y a b:Nat} (h1:a≤X) (h2:b≤Y) (hX:3≤X) (hY:3≤Y):a+b≤X*Y:=by
 have h3:X*3≤X*Y:=Nat.mul_le_mul_left _ hY
 have h4:3*Y≤X*Y:=Nat.mul_le_mul_right _ hX
 omega
theorem En {k:Nat} (h:0<k):3≤3 ^ k:=by
 have:=Nat.pow_le_pow_right (show 0<3 by omega) h
 omega
theorem Gd.cons {n:Nd} {l:List Nd} {p q:List Int} (h:Gd n p) (h2:Hq l q):Hq (n::l) (p++q):=by
 have a1:=h.pos
 have a2:=h.cnt
 have a3:=h.dp
 have b1:=h2.pos
 have b2:=h2.cnt
 have b3:=h2.dp
 refine ⟨by simp; omega,by simp [counts]; omega,by simp [dI]; omega,fun hs=> ?_,?_⟩
 rotate_left
 ·have a4:=h.wgt
  have b4:=h2.wgt
  rw [bf,List.length_cons,List.length_append,Nat.pow_add]
  cases l with
  | nil =>
   simp only [bf,List.length_nil,Nat.add_zero] at b4 ⊢
   have h5:3 ^ p.length*1≤3 ^ p.length*3 ^ q.length:=Nat.mul_le_mul_left _ (Nat.pow_pos (by omega))
   omega
  | cons m l =>
   have h5:=Wv (show wt n+1≤3 ^ p.length from a4) b4 (En a1) (En (by simp at b1; omega))
   omega
 rw [aW,h.ok fun s h=>hs s (List.mem_append_left _ h),h2.ok fun s h=>hs s (List.mem_append_right _ h)]
 rfl
theorem Hq.one {k:Int} (hk:k=3∨k=4) {n:Nd} {l:List Nd} {pre:List Int} (h:Hq (n::l) pre):Gd (bD k (n::l)) pre:=by
 have b1:=h.pos
 have b2:=h.cnt
 have b3:=h.dp
 cases l with
 | nil =>
  simp [counts,dI] at b1 b2 b3
  have b4:=h.wgt
  refine ⟨by omega,by rw [bD]; omega,by rw [bD]; omega,fun hs=> ?_,by rw [bD]; simp [bf] at b4; omega⟩
  have:=h.ok hs
  simp [aW] at this
  exact this
 | cons m l =>
  simp only [List.length_cons] at b1 b2 b3
  have b4:=h.wgt
  refine ⟨by omega,by simp only [bD,count]; omega,by simp only [bD,deep]; omega,fun hs=> ?_,?_⟩
  rotate_left
  ·simp only [List.length_cons] at b4
   simp only [bD]
   rw [wt]
   rcases hk with rfl | rfl
   ·rw [if_pos rfl]; omega
   ·rw [if_neg (by decide),if_neg (by decide)]; omega
  have:=h.ok hs
  simp only [bD,may,this]
  rcases hk with rfl | rfl<;>simp [aP]
theorem Hr {f:PR→Nd×PR} {r r1:PR} {a:Nd} (h:eY f r=.some (a,r1)):a=(fq f r).1∧r1=(fq f r).2∧0<r.left.length∧r.sees 124=false∧r.sees 41=false:=by
 unfold eY at h
 split at h
 ·cases h
 ·split at h
  ·cases h
  ·split at h
   ·cases h
   ·have:=Option.some.inj h
    refine ⟨by rw [this],by rw [this],?_,by simpa using ‹¬r.sees 124=true›,by simpa using ‹¬r.sees 41=true›⟩
    cases e:r.left with
    | nil=>simp [e] at *
    | cons=>simp
theorem Ht {f:PR→Nd×PR} (hf:Good f) (r:PR) (a:Nd) (r1:PR) (h:eY f r=.some (a,r1)):r1.left.length<r.left.length:=by
 obtain ⟨_,rfl,h1,_⟩:=Hr h
 have:=(mo hf).len r
 omega
theorem zL {f:PR→Nd×PR} (hf:Good f):∀(k:Nat) (r:PR),(aS (eY f) k r).2.left.length≤r.left.length∧fI r (aS (eY f) k r).2 (Hq (aS (eY f) k r).1)
 | 0,r=>⟨Nat.le_refl _,(fI.refl r).mono fun _ _=>yJ _⟩
 | k+1,r=>by
  cases e:eY f r with
  | none=>rw [gG e]; exact ⟨Nat.le_refl _,(fI.refl r).mono fun _ _=>yJ _⟩
  | some y =>
   obtain ⟨a,r1⟩:=y
   have hm:=Ht hf r a r1 e
   obtain ⟨rfl,rfl,_⟩:=Hr e
   obtain ⟨i1,i2⟩:=zL hf k (fq f r).2
   rw [aS,e]
   exact ⟨by dsimp only; omega,((mo hf).fwd r).trans i2 fun _ _ h h2=>h.cons h2⟩
theorem good_row {f:PR→Nd×PR} (hf:Good f):Good (ji f):=by
 constructor
 ·intro r
  have h1:=(mo hf).len r
  have h2:=(zL hf (fq f r).2.left.length (fq f r).2).1
  unfold ji
  dsimp only
  omega
 ·intro r
  unfold ji
  exact ((mo hf).fwd r).trans (zL hf _ _).2 fun _ _ h h2=>(h.cons h2).one (.inl rfl)
theorem Hu {f:PR→Nd×PR} {r r1:PR} {a:Nd} (h:gF f r=.some (a,r1)):a=(ji f r.tail).1∧r1=(ji f r.tail).2∧r.sees 124=true:=by
 unfold gF at h
 split at h
 ·have:=Option.some.inj h
  exact ⟨by rw [this],by rw [this],‹_›⟩
 ·cases h
theorem Hw {f:PR→Nd×PR} (hf:Good f) (r:PR) (a:Nd) (r1:PR) (h:gF f r=.some (a,r1)):r1.left.length<r.left.length:=by
 obtain ⟨_,rfl,h1⟩:=Hu h
 have:=(good_row hf).len r.tail
 have:=fU h1
 omega
theorem zM {f:PR→Nd×PR} (hf:Good f):∀(k:Nat) (r:PR),(aS (gF f) k r).2.left.length≤r.left.length∧fI r (aS (gF f) k r).2 (Hq (aS (gF f) k r).1)
 | 0,r=>⟨Nat.le_refl _,(fI.refl r).mono fun _ _=>yJ _⟩
 | k+1,r=>by
  cases e:gF f r with
  | none=>rw [gG e]; exact ⟨Nat.le_refl _,(fI.refl r).mono fun _ _=>yJ _⟩
  | some y =>
   obtain ⟨a,r1⟩:=y
   have hm:=Hw hf r a r1 e
   obtain ⟨rfl,rfl,h1⟩:=Hu e
   obtain ⟨i1,i2⟩:=zM hf k (ji f r.tail).2
   rw [aS,e]
   refine ⟨by dsimp only; omega,((fT h1).trans ((good_row hf).fwd r.tail) (R:=Gd (ji f r.tail).1) ?_).trans i2 fun _ _ h h2=>h.cons h2⟩
   rintro a b rfl h
   have:=h.more [124] []
   simpa using this
theorem zN {f:PR→Nd×PR} (hf:Good f):Good (mh f):=by
 constructor
 ·intro r
  have h1:=(good_row hf).len r
  have h2:=(zM hf (ji f r).2.left.length (ji f r).2).1
  unfold mh
  dsimp only
  omega
 ·intro r
  unfold mh
  exact ((good_row hf).fwd r).trans (zM hf _ _).2 fun _ _ h h2=>(h.cons h2).one (.inr rfl)
theorem nP:∀f,Good (jN f)
 | 0=>⟨fun _=>Nat.zero_le _,fun _=>.none _ _⟩
 | f+1=>by
  have hf:=nP f
  constructor
  ·intro r
   have h1:=pW r
   unfold jN
   dsimp only
   split
   ·have h2:=(zN hf).len r.next.2
    have h3:=zJ (mh (jN f) r.next.2).2 41
    dsimp only; omega
   ·split
    ·exact h1
    ·split
     ·have:=Vm r.next.2; omega
     ·split
      ·have:=pW r.next.2; dsimp only; omega
      ·split
       ·exact Nat.zero_le _
       ·exact h1
  ·intro r
   unfold jN
   dsimp only
   split
   ·refine (((iN r).trans ((zN hf).fwd r.next.2) (R:=Gd (mh (jN f) r.next.2).1) ?_).trans (zI _ 41) ?_)
    ·rintro a b rfl h
     have:=h.more [r.next.1] []
     rwa [List.append_nil] at this
    ·rintro a b h rfl
     have:=h.more [] [41]
     rwa [List.nil_append] at this
   ·split
    ·refine (iN r).mono ?_
     rintro a rfl
     exact ⟨by simp,by simp [count,counts],by simp [deep,dI],fun _=>by simp [may,aW,aP,bK],by simp [wt,bf]⟩
    ·split
     ·refine (iN r).trans (Vn r.next.2) ?_
      rintro a b rfl h
      have:=h.more [r.next.1] []
      rwa [List.append_nil] at this
     ·split
      ·refine (iN r).trans (iN r.next.2) ?_
       rintro a b rfl rfl
       have:=(PY r.next.2.next.1).more [r.next.1] []
       rwa [List.append_nil] at this
      ·split
       ·exact .none _ _
       ·refine (iN r).mono ?_
        rintro a rfl
        exact PY _
theorem JV {l:List Int} {n:Nd} (h:sP l=.some n) (hl:∀s∈l,bL s=true):may n=true∧deep n≤l.length∧count n≤2*l.length∧0<l.length:=by
 unfold sP at h
 dsimp only at h
 split at h
 ·cases h
 ·rename_i hb
  simp at hb
  obtain ⟨_,pre,e,g⟩:=(zN (nP (l.length+1))).fwd ⟨l,false⟩ hb.1
  rw [hb.2,List.append_nil] at e
  dsimp only at e
  subst e
  cases Option.some.inj h
  exact ⟨g.ok hl,g.dp,by have:=g.cnt; omega,g.pos⟩
end Go.Proofs.YteemnmalikomgaaGreatDoor.NF
namespace Go.Proofs.YteemnmalikomgaaGreatDoor
open Go.ChangeShapes Go.WideShapes Go.ChangeAt Go.RowKit
namespace NF
def aN (s:Sg):List Value:=s.flatMap fun x=>[.int .i32 x.1,.int .i32 x.2]
theorem nQ:∀s:Sg,(aN s).length=s.length*2
 | []=>rfl
 | x::s=>by
  have:=nQ s
  have e:aN (x::s)=[.int .i32 x.1,.int .i32 x.2]++aN s:=rfl
  rw [e,List.length_append,this]
  simp
  omega
theorem nR:∀(s:Sg) (k:Nat) (x:Int×Int),s[k]? = some x→(aN s)[k*2]? = some (.int .i32 x.1)∧(aN s)[k*2+1]? = some (.int .i32 x.2)
 | [],k,x,h=>by simp at h
 | y::s,0,x,h=>by
  simp at h
  subst h
  exact ⟨rfl,rfl⟩
 | y::s,k+1,x,h=>by
  have ih:=nR s k x (by simpa using h)
  have e:aN (y::s)=[.int .i32 y.1,.int .i32 y.2]++aN s:=rfl
  rw [e,show (k+1)*2=k*2+2 by omega,List.getElem?_append_right (by simp),show k*2+2+1=k*2+1+2 by omega,List.getElem?_append_right (by simp)]
  simpa using ih
theorem zO {w:World} {B n k:Nat} {A:Option Addr} {s:Sg} {x:Int×Int} (h:Sq w B 2 n A (aN s)) (hx:s[k]? = some x) (hk:k<n) :
  ∃b off,A=some ⟨b,off,none⟩∧b<B∧w.cell? ⟨b,off+k*2,none⟩=some (.int .i32 x.1)∧w.cell? ⟨b,off+k*2+1,none⟩=some (.int .i32 x.2):=by
 obtain ⟨b,off,e,hb,hc⟩:=h.spot (by omega)
 obtain ⟨h0,h1⟩:=nR s k x hx
 exact ⟨b,off,e,hb,hc _ _ h0,by rw [Nat.add_assoc]; exact hc _ _ h1⟩
theorem mQ {w:World} {B n:Nat} {A:Option Addr} {s:Sg} (h:Sq w B 2 n A (aN s)):s.length=n:=by
 have:=h.len
 rw [nQ] at this
 omega
theorem r9:∀ {s:Sg},dQ s→∀(a:Nat) (x y:Int×Int),s[a]? = some x→s[a+1]? = some y→x.1≤x.2∧x.2<y.1
 | [],_,a,x,y,h,_=>by simp at h
 | [_],_,a,x,y,_,h=>by simp at h
 | u::v::r,h,0,x,y,hx,hy=>by
  simp at hx hy
  subst hx hy
  exact ⟨h.1,h.2.1⟩
 | u::v::r,h,a+1,x,y,hx,hy=>r9 h.2.2 a x y (by simpa using hx) (by simpa using hy)
theorem oM:∀ {s:Sg},dQ s→∀(a:Nat) (x:Int×Int),s[a]? = some x→x.1≤x.2
 | [],_,a,x,h=>by simp at h
 | [u],h,0,x,hx=>by simp at hx; subst hx; exact h
 | [u],h,a+1,x,hx=>by simp at hx
 | u::v::r,h,0,x,hx=>by simp at hx; subst hx; exact h.1
 | u::v::r,h,a+1,x,hx=>oM h.2.2 a x (by simpa using hx)
theorem nS {s:Sg} (h:dQ s):∀(d a:Nat) (x y:Int×Int),s[a]? = some x→s[a+d+1]? = some y→x.2<y.1
 | 0,a,x,y,hx,hy=>(r9 h a x y hx hy).2
 | d+1,a,x,y,hx,hy=>by
  have hl:=(List.getElem?_eq_some_iff.1 hy).1
  obtain ⟨z,hz⟩:∃z,s[a+d+1]? = some z:=⟨_,List.getElem?_eq_getElem (by omega)⟩
  have h1:=nS h d a x z hx hz
  have h2:=r9 h (a+d+1) z y hz (by rw [show a+d+1+1=a+(d+1)+1 by omega]; exact hy)
  omega
theorem found {s:Sg} (h:dQ s) {r:Int} {i:Nat} (h1:∀a x,a<i→s[a]? = some x→x.2<r) (h2:∀a x,i≤a→s[a]? = some x→¬x.2<r) :
  anyS s r=match s[i]? with | some x=>decide (x.1≤r) | none=>false:=by
 unfold anyS
 cases hi:s[i]? with
 | none =>
  dsimp only
  rw [List.any_eq_false]
  intro x hx
  obtain ⟨a,ha⟩:=List.getElem?_of_mem hx
  have:=(List.getElem?_eq_some_iff.1 ha).1
  have:=List.getElem?_eq_none_iff.1 hi
  have:=h1 a x (by omega) ha
  simp; omega
 | some z =>
  dsimp only
  have hz:=h2 i z (Nat.le_refl _) hi
  by_cases hr:z.1≤r
  ·rw [decide_eq_true hr,List.any_eq_true]
   exact ⟨z,List.mem_of_getElem? hi,by simp; omega⟩
  ·rw [decide_eq_false hr,List.any_eq_false]
   intro x hx
   obtain ⟨a,ha⟩:=List.getElem?_of_mem hx
   by_cases hai:a<i
   ·have:=h1 a x hai ha
    simp; omega
   ·by_cases hia:a=i
    ·subst hia
     rw [hi] at ha
     cases ha
     simp; omega
    ·have:=nS h (a - i - 1) i z x hi (by rw [show i+(a - i - 1)+1=a by omega]; exact ha)
     have:=oM h i z hi
     simp; omega
def uR (x:Int×Int) (r:Int):Int:=if x.2<r then -1 else if r<x.1 then 1 else 0
theorem uS (x:Int×Int) (r:Int):uR x r<0↔x.2<r:=by
 unfold uR
 split<;>rename_i h
 ·simp [h]
 ·split<;>simp<;>omega
theorem Eo (x:Int×Int) (r:Int):uR x r=0↔¬x.2<r∧x.1≤r:=by
 unfold uR
 split<;>rename_i h
 ·simp; omega
 ·split<;>simp<;>omega
theorem xg (x:Int×Int) (r:Int) (w:World) :
  Calls Tryz.prog 142 #[.agg #[.int .i32 x.1,.int .i32 x.2],.int .i32 r] w fun e w'=>e=.returned (.int .i64 (uR x r))∧Below w.heap.size w w':=by
 obtain ⟨a,b⟩:=x
 have B0:=Lib.hid ((Below.refl w.heap.size w).alloc (Nat.le_refl _) (.cells #[.int .i32 a,.int .i32 b] 189))
 unfold uR
 dsimp only
 by_cases h1:b<r
 ·rw [if_pos h1]
  go_enter Tryz.func142,Tryz.ntmps142
  go_wp2_with fail
  go_ret
  exact ⟨rfl,B0.out⟩
 ·rw [if_neg h1]
  by_cases h2:r<a
  ·rw [if_pos h2]
   go_enter Tryz.func142,Tryz.ntmps142
   go_wp2_with fail
   go_ret
   exact ⟨rfl,B0.out⟩
  ·rw [if_neg h2]
   go_enter Tryz.func142,Tryz.ntmps142
   go_wp2_with fail
   go_ret
   exact ⟨rfl,B0.out⟩
def xk (s:Sg) (r:Int) (i j:Nat):Prop:=(∀a x,a<i→s[a]? = some x→x.2<r)∧(∀a x,j≤a→s[a]? = some x→¬x.2<r)
theorem xk.up {s:Sg} {r:Int} {i j h:Nat} {x:Int×Int} (hr:dQ s) (hs:xk s r i j) (hx:s[h]? = some x) (hc:x.2<r):xk s r (h+1) j:=by
 refine ⟨fun a y ha hy=> ?_,hs.2⟩
 by_cases hah:a=h
 ·subst hah; rw [hx] at hy; cases hy; exact hc
 ·have:=nS hr (h - a - 1) a y x hy (by rw [show a+(h - a - 1)+1=h by omega]; exact hx)
  have:=oM hr h x hx
  omega
theorem xk.down {s:Sg} {r:Int} {i j h:Nat} {x:Int×Int} (hr:dQ s) (hs:xk s r i j) (hx:s[h]? = some x) (hc:¬x.2<r):xk s r i h:=by
 refine ⟨hs.1,fun a y ha hy=> ?_⟩
 by_cases hah:a=h
 ·subst hah; rw [hx] at hy; cases hy; exact hc
 ·have:=nS hr (a - h - 1) h x y hx (by rw [show h+(a - h - 1)+1=a by omega]; exact hy)
  have:=oM hr a y hy
  omega
theorem Hy (A:Option Addr) (n c:Nat) (s:Sg) (r:Int) (w:World) (hc:n≤70368744177664) (hr:dQ s) (hq:Sq w w.heap.size 2 n A (aN s)) :
  Calls Tryz.prog 141 #[.slice A n c,.int .i32 r,.func (.func 142) #[] #[]] w
   fun e w'=>(∃k:Int,e=.returned (.tuple #[.int .i64 k,.bool (anyS s r)]))∧Below w.heap.size w w':=by
 have hl:=mQ hq
 have Q:=Lib.hid hq
 have R:=Lib.hid hr
 have L:=Lib.hid hl
 have I0:=Lib.hid (show Below w.heap.size w w∧xk s r 0 n from
  ⟨Below.refl _ _,fun a x h=>absurd h (Nat.not_lt_zero _),fun a x h hx=>by have:=(List.getElem?_eq_some_iff.1 hx).1; omega⟩)
 clear hq hr hl
 go_enter Tryz.func141,Tryz.ntmps141
 go_wp2_with fail
 go_loopw [9,10] (fun x y wr=>∃i j:Nat,x=.int .i64 (i:Int)∧y=.int .i64 (j:Int)∧i≤j∧j≤n∧Hid (Below w.heap.size w wr∧xk s r i j)) (fun x y _=>(intOf y).toNat - (intOf x).toNat)
 case atStart=>exact ⟨0,n,rfl,rfl,Nat.zero_le _,Nat.le_refl _,I0⟩
 case round =>
  obtain ⟨i,j,rfl,rfl,hij,hjn,I⟩:=hrel
  clear I0
  have HB:=Lib.hid I.out.1
  by_cases hlt:i<j
  ·have hadd:IntKind.i64.wrap ((i:Int)+(j:Int))=(i:Int)+(j:Int):=IntWalk.i64_in _ (by omega)
   have hu:IntKind.u64.wrap ((i:Int)+(j:Int))=(i:Int)+(j:Int):=by simp [IntKind.wrap,IntKind.bits,IntKind.signed]; omega
   obtain ⟨h,hh,hih,hhj⟩:∃h:Nat,((i:Int)+(j:Int)) / 2=(h:Int)∧i≤h∧h<j:=⟨(i+j) / 2,by omega,by omega,by omega⟩
   obtain ⟨x,hx⟩:∃x,s[h]? = some x:=⟨_,List.getElem?_eq_getElem (by rw [L.out]; omega)⟩
   obtain ⟨b,off,rfl,_,c0,c1⟩:=zO (Q.out.below HB.out) hx (by omega)
   have CT:=Lib.hid (fun W=>xg x r W)
   have hh0:(0:Int)≤(h:Int):=by omega
   have hhn:(h:Int)<(n:Int):=by omega
   have hinc:IntKind.i64.wrap ((h:Int)+1)=(h:Int)+1:=IntWalk.i64_in _ (by omega)
   obtain ⟨r0,hr0⟩:∃r0,uR x r=r0:=⟨_,rfl⟩
   rw [hr0] at CT
   have X:=Lib.hid hx
   by_cases hneg:r0<0
   ·have I2:=Lib.hid (I.out.2.up R.out X.out ((uS x r).1 (by rw [hr0]; exact hneg)))
    clear I hx hr0
    go_wp2_with fail
    refine (CT.out _).mono ?_
    rintro e w2 ⟨rfl,b2⟩
    have B2:=Lib.hid (HB.out.trans (b2.mono HB.out.size))
    clear b2 HB
    go_wp2
    go_roundw
    case rel=>exact ⟨h+1,j,by first | rfl | (congr 1; done) | (congr 1; omega),rfl,by omega,hjn,Lib.hid ⟨B2.out,I2.out⟩⟩
    case measure=>first | (simp [intOf]; done) | (simp [intOf]; omega)
   ·have I2:=Lib.hid (I.out.2.down R.out X.out (fun hn=>hneg (by rw [←hr0]; exact (uS x r).2 hn)))
    clear I hx hr0
    go_wp2_with fail
    refine (CT.out _).mono ?_
    rintro e w2 ⟨rfl,b2⟩
    have B2:=Lib.hid (HB.out.trans (b2.mono HB.out.size))
    clear b2 HB
    go_wp2
    go_roundw
    case rel=>exact ⟨i,h,rfl,rfl,hih,by omega,Lib.hid ⟨B2.out,I2.out⟩⟩
    case measure=>first | (simp [intOf]; done) | (simp [intOf]; omega)
  ·obtain rfl:i=j:=by omega
   have F:=Lib.hid (found R.out I.out.2.1 I.out.2.2)
   have NL:=Lib.hid (show ∀x,s[i]? = some x→uR x r<0→False from fun x hx hn=>I.out.2.2 i x (Nat.le_refl _) hx ((uS x r).1 hn))
   clear I
   by_cases hin:i<n
   ·obtain ⟨x,hx⟩:∃x,s[i]? = some x:=⟨_,List.getElem?_eq_getElem (by rw [L.out]; omega)⟩
    obtain ⟨b,off,rfl,_,c0,c1⟩:=zO (Q.out.below HB.out) hx (by omega)
    have CT:=Lib.hid (fun W=>xg x r W)
    have h0:(0:Int)≤(i:Int):=by omega
    have h1:(i:Int)<(n:Int):=by omega
    obtain ⟨r0,hr0⟩:∃r0,uR x r=r0:=⟨_,rfl⟩
    rw [hr0] at CT
    have F2:=F.out
    rw [hx] at F2
    have F3:=Lib.hid (show anyS s r=decide (r0=0) from by
     rw [F2]
     dsimp only
     have h2:¬x.2<r:=fun hn=>NL.out x hx ((uS x r).2 hn)
     rw [←hr0]
     by_cases h4:x.1≤r
     ·rw [decide_eq_true h4,decide_eq_true ((Eo x r).2 ⟨h2,h4⟩)]
     ·rw [decide_eq_false h4,decide_eq_false (fun h5=>h4 ((Eo x r).1 h5).2)])
    clear F F2 hx hr0 NL
    go_wp2_with fail
    refine (CT.out _).mono ?_
    rintro e w2 ⟨rfl,b2⟩
    have B2:=Lib.hid (HB.out.trans (b2.mono HB.out.size))
    clear b2 HB
    go_wp2
    refine bodyPost_ret (results_tmp2 (t:=6) (u:=7) rfl _ _ _) rfl ?_
    exact ⟨⟨_,by rw [F3.out]; first | rfl | simp⟩,B2.out⟩
   ·obtain rfl:i=n:=by omega
    have hnone:s[i]? = none:=List.getElem?_eq_none (by rw [L.out]; exact Nat.le_refl _)
    have F2:=F.out
    rw [hnone] at F2
    have F3:=Lib.hid F2
    clear F F2 hnone NL
    go_wp2_with fail
    refine bodyPost_ret (results_tmp2 (t:=6) (u:=7) rfl _ _ _) rfl ?_
    exact ⟨⟨(i:Int),by rw [F3.out]; first | done | rfl | simp⟩,HB.out⟩
structure qV (w:World) (B:Nat) (b off:Nat) (s:Sg) (nt:Bool):Prop where
 set:∃A n c,w.cell? ⟨b,off+1,none⟩=some (.slice A n c)∧n≤70368744177664∧Sq w B 2 n A (aN s)
 nt:w.cell? ⟨b,off+2,none⟩=some (.bool nt)
theorem Nc (b off:Nat) (s:Sg) (nt:Bool) (r:Int) (w:World) (hr:dQ s) (hb:b<w.heap.size) (hs:qV w w.heap.size b off s nt) :
  Calls Tryz.prog 98 #[.pointer (some ⟨b,off,none⟩),.int .i32 r] w fun e w'=>e=.returned (.bool (ko s nt r))∧Below w.heap.size w w':=by
 obtain ⟨⟨A,n,c,c1,hn,hq⟩,c2⟩:=hs
 have BS:=Lib.hid (Hy A n c s r w hn hr hq)
 have HB:=Lib.hid hb
 obtain ⟨g,hg⟩:∃g,anyS s r=g:=⟨_,rfl⟩
 have G:=Lib.hid (show ko s nt r=(g != nt) from by unfold ko; rw [hg])
 rw [hg] at BS
 have C2:=Lib.hid c2
 clear hq hr hb hg hn
 go_enter Tryz.func98,Tryz.ntmps98
 go_wp2_with fail
 refine BS.out.mono ?_
 rintro e w2 ⟨⟨k,rfl⟩,b2⟩
 have c3:w2.cell? ⟨b,off+2,none⟩=some (.bool nt):=(b2.cell (p:=⟨b,off+2,none⟩) HB.out).trans C2.out
 have B2:=Lib.hid b2
 clear b2 BS c1 c2
 go_wp2
 go_ret
 exact ⟨aC (by rw [G.out]; cases g<;>cases nt<;>rfl),B2.out⟩
end NF
