import Derived.Test.YteemnmalikomgaaGreatDoorQSwRow0
set_option maxRecDepth 100000
set_option maxHeartbeats 6400000
namespace Go.Proofs.YteemnmalikomgaaGreatDoor
namespace Ln
open Rw
abbrev LR:=Bool×List au
def DC (c:au):Bool:=jM 0 c.1 c.2.1 c.2.2
def goes (r:LR):Bool:=r.1 && iL r.2
def iG (c:au):Bool:= !(c.2.1 == 0) && !DC c
def iV (r:LR):List au:=if iL r.2 then r.2.filter iG else []
def cut:List LR→Nat
 | []=>0
 | r::rs=>if goes r && !rs.isEmpty then cut rs+1 else 1
theorem qE (r:LR) (rs:List LR):cut (r::rs)=if goes r && !rs.isEmpty then cut rs+1 else 1:=rfl
theorem QZ:∀l:List LR,cut l≤l.length
 | []=>Nat.le_refl _
 | r::rs=>by
  have:=QZ rs
  rw [qE]
  split<;>simp only [List.length_cons]<;>omega
theorem LM {l:List LR} (h:l≠[]):1≤cut l:=by
 cases l with
 | nil=>exact absurd rfl h
 | cons r rs=>rw [qE]; split<;>omega
theorem Jm:∀ {l:List LR} {i:Nat} {r:LR},i<cut l→l[i]? = some r→(i+1<cut l↔goes r=true∧i+1<l.length)
 | [],_,_,h,_=>by simp [cut] at h
 | s::rs,0,r,h,e=>by
  simp at e
  subst e
  rw [qE]
  cases hg:goes s
  ·simp
  ·cases rs with
   | nil=>simp
   | cons t rs =>
    have:=LM (l:=t::rs) (by simp)
    simp
    omega
 | s::rs,i+1,r,h,e=>by
  rw [qE] at h ⊢
  split
  ·rename_i hc
   rw [if_pos hc] at h
   have:=Jm (l:=rs) (i:=i) (r:=r) (by omega) (by simpa using e)
   simp only [List.length_cons,Nat.add_lt_add_iff_right]
   exact this
  ·rename_i hc
   rw [if_neg hc] at h
   omega
def eF (r:LR):List (List LR)→List (List LR)
 | []=>[[r]]
 | p::ps=>if goes r then (r::p)::ps else [r]::p::ps
def parts:List LR→List (List LR)
 | []=>[]
 | r::rs=>eF r (parts rs)
theorem mH (r:LR) (rs:List LR):parts (r::rs)=eF r (parts rs):=rfl
theorem rU (r:LR) (p:List LR) (ps:List (List LR)):eF r (p::ps)=if goes r then (r::p)::ps else [r]::p::ps:=rfl
theorem Uo (r:LR) (l:List (List LR)):l.length≤(eF r l).length∧(eF r l).length≤l.length+1:=by
 cases l with
 | nil=>simp [eF]
 | cons p ps=>rw [rU]; split<;>simp
theorem VU (r:LR) (l:List (List LR)):eF r l≠[]:=by
 cases l with
 | nil=>simp [eF]
 | cons p ps=>rw [rU]; split<;>simp
theorem FC:∀l:List LR,parts l=[]↔l=[]
 | []=>by simp [parts]
 | r::rs=>by rw [mH]; exact ⟨fun h=>absurd h (VU _ _),fun h=>by cases h⟩
theorem yt:∀ {l:List LR},l≠[]→parts l=l.take (cut l)::parts (l.drop (cut l))
 | [],h=>absurd rfl h
 | r::rs,_=>by
  by_cases hr:rs=[]
  ·subst hr
   simp [parts,cut,eF]
  ·have ih:=yt hr
   have hne:rs.isEmpty=false:=by cases rs with | nil=>exact absurd rfl hr | cons _ _=>rfl
   rw [mH,ih,qE,hne]
   cases hg:goes r
   ·simp only [eF,hg,Bool.false_and,Bool.false_eq_true,if_false,List.take_succ_cons,List.take_zero,List.drop_succ_cons,List.drop_zero,ih]
   ·simp only [eF,hg,Bool.not_false,Bool.and_self,if_true,List.take_succ_cons,List.drop_succ_cons]
theorem mI:∀l:List LR,(parts l).length≤l.length
 | []=>Nat.le_refl _
 | r::rs=>by
  have:=mI rs
  have:=(Uo r (parts rs)).2
  rw [mH,List.length_cons]
  omega
def joined (p:List LR):List au:=eX (p.flatMap iV)
def joinL (l:List LR):List (List au):=(parts l).map joined
def rest (l:List LR):Nat→List LR
 | 0=>l
 | k+1=>(rest l k).drop (cut (rest l k))
theorem vT (l:List LR):∀k:Nat,parts (rest l k)=(parts l).drop k
 | 0=>rfl
 | k+1=>by
  have ih:=vT l k
  show parts ((rest l k).drop (cut (rest l k)))=_
  by_cases h:rest l k=[]
  ·rw [h] at ih ⊢
   have e:((parts l).drop k).length=0:=by rw [←ih]; rfl
   rw [List.length_drop] at e
   rw [show (parts l).drop (k+1)=[] from List.drop_eq_nil_iff.2 (by omega)]
   rfl
  ·rw [yt h] at ih
   rw [←List.drop_drop,←ih,List.drop_one,List.tail_cons]
theorem EO {l:List LR} {k:Nat} (h:rest l k≠[]):(parts l)[k]? = some ((rest l k).take (cut (rest l k))):=by
 have e:=vT l k
 rw [yt h] at e
 have:=congrArg (·[0]?) e
 simpa using this.symm
theorem Jo {l:List LR} {k:Nat}:rest l k=[]↔(parts l).length≤k:=by
 rw [←FC,vT,List.drop_eq_nil_iff]
def ends (l:List LR):Nat:=(l.filter fun r=> !goes r).length
abbrev Pl:=(Nat×Nat)×au
def wd (x:au):Nat:=x.2.1.toNat
def iZ:au:=(0,1,0)
def both (x:au):List au:=if x.2.1=2 then [x,(0,0,x.2.2)] else [x]
def tY (x:au):Prop:=x.2.1=1∨x.2.1=2
theorem kW {x:au} (h:tY x):(both x).length=wd x:=by
 unfold both wd
 rcases h with h | h<;>simp [h]
def gJ (w:Nat) (s:(Nat×Nat)×List Pl) (x:au):(Nat×Nat)×List Pl :=
 if w<s.1.2+wd x then ((s.1.1+1,wd x),s.2++((if s.1.2<w then [(s.1,iZ)] else [])++[((s.1.1+1,0),x)]))
 else ((s.1.1,s.1.2+wd x),s.2++[(s.1,x)])
def aJ (w:Nat) (l:List au):(Nat×Nat)×List Pl:=l.foldl (gJ w) ((0,0),[])
theorem jH (w:Nat) (l:List au) (x:au):aJ w (l++[x])=gJ w (aJ w l) x:=by unfold aJ; rw [List.foldl_append]; rfl
def Cj (w:Nat) (s:List LR×List au) (x:au):List LR×List au :=
 if w<s.2.length+wd x then (s.1++[(true,if s.2.length<w then s.2++[iZ] else s.2)],both x) else (s.1,s.2++both x)
def gY (w:Nat) (l:List au):List LR×List au:=l.foldl (Cj w) ([],[])
theorem yu (w:Nat) (l:List au) (x:au):gY w (l++[x])=Cj w (gY w l) x:=by unfold gY; rw [List.foldl_append]; rfl
def fill (w:Nat) (s:List LR×List au):List LR:=s.1++[(false,s.2++av (w - s.2.length))]
def jm (w:Nat) (l:List au):List LR:=fill w (gY w l)
def vU (w:Nat) (rows:List LR) (y:Pl):List LR :=
 (if y.1.1=rows.length then rows.modify (rows.length - 1) (fun r=>(true,r.2))++[(false,av w)] else rows).modify y.1.1 (fun r=>(r.1,mJ r.2 y.1.2 (both y.2)))
def dW (w:Nat) (ys:List Pl):List LR:=ys.foldl (vU w) [(false,av w)]
theorem iH (w:Nat) (ys:List Pl) (y:Pl):dW w (ys++[y])=vU w (dW w ys) y:=by unfold dW; rw [List.foldl_append]; rfl
theorem jU {α:Type} {P:List α→Prop} (h0:P []) (h1:∀l x,P l→P (l++[x])) (l:List α):P l:=by
 rw [←List.reverse_reverse l]
 induction l.reverse with
 | nil=>exact h0
 | cons x m ih=>rw [List.reverse_cons]; exact h1 _ _ ih
theorem modify_last {α:Type} (l:List α) (x:α) (f:α→α) {k:Nat} (h:k=l.length):(l++[x]).modify k f=l++[f x]:=by
 subst h
 refine List.ext_getElem? fun j=> ?_
 rw [List.getElem?_modify]
 by_cases e:l.length=j
 ·subst e; simp
 ·simp only [e,if_false]
  rw [show ((fun a=>a) <$> (l++[x])[j]?)=(l++[x])[j]? by simp]
  by_cases hj:j<l.length
  ·rw [List.getElem?_append_left hj,List.getElem?_append_left hj]
  ·rw [List.getElem?_eq_none (by simp; omega),List.getElem?_eq_none (by simp; omega)]
theorem ER {w:Nat} {cur L:List au} (h:cur.length+L.length≤w):mJ (cur++av (w - cur.length)) cur.length L=(cur++L)++av (w - (cur++L).length):=by
 unfold mJ av
 rw [List.take_left',List.drop_append,List.drop_eq_nil_of_le (by omega),List.nil_append,List.drop_replicate,List.length_append]
 ·congr 2
  omega
 ·rfl
theorem ES {w:Nat} {done:List LR} {cur:List au} {x:au} (hx:(both x).length+cur.length≤w):vU w (fill w (done,cur)) ((done.length,cur.length),x)=fill w (done,cur++both x):=by
 unfold vU fill
 simp only
 rw [if_neg (by simp),modify_last _ _ _ rfl,ER (by omega)]
theorem ET {w:Nat} {done:List LR} {cur:List au} {x:au} (hx:(both x).length≤w):vU w (fill w (done,cur)) ((done.length+1,0),x)=fill w (done++[(true,cur++av (w - cur.length))],both x):=by
 unfold vU fill
 simp only [List.length_append,List.length_cons,List.length_nil,Nat.zero_add]
 rw [if_pos trivial,modify_last done _ _ (by omega),modify_last (done++[(true,cur++av (w - cur.length))]) _ _ (by simp)]
 congr 3
 have:=ER (w:=w) (cur:=[]) (L:=both x) (by simpa using hx)
 simpa using this
theorem LQ {w:Nat} (hw:2≤w) (l:List au) (hl:∀x∈l,tY x) :
  (aJ w l).1=((gY w l).1.length,(gY w l).2.length)∧(gY w l).2.length≤w∧dW w (aJ w l).2=jm w l:=by
 revert hl
 refine jU (P:=fun l=>(∀x∈l,tY x)→(aJ w l).1=((gY w l).1.length,(gY w l).2.length)∧(gY w l).2.length≤w∧dW w (aJ w l).2=jm w l) ?_ ?_ l
 ·exact fun _=>⟨rfl,Nat.zero_le _,by simp [dW,aJ,jm,gY,fill]⟩
 ·intro l x ih hl
  obtain ⟨h1,h2,h3⟩:=ih (fun y hy=>hl y (by simp [hy]))
  have hx:=hl x (by simp)
  have hb:=kW hx
  have hb2:wd x≤2∧1≤wd x:=by unfold wd; rcases hx with h | h<;>simp [h]
  rw [jH,jm,yu]
  obtain ⟨⟨⟨r,c⟩,out⟩,hp⟩:∃z,aJ w l=z:=⟨_,rfl⟩
  obtain ⟨⟨done,cur⟩,hs⟩:∃z,gY w l=z:=⟨_,rfl⟩
  rw [hp] at h1 h3
  rw [jm,hs] at h3
  rw [hs] at h1 h2
  simp only [Prod.mk.injEq] at h1 h2
  obtain ⟨rfl,rfl⟩:=h1
  rw [hp,hs]
  unfold gJ Cj
  simp only
  by_cases hc:w<cur.length+wd x
  ·rw [if_pos hc,if_pos hc]
   refine ⟨by simp [hb],by simp only; omega,?_⟩
   by_cases hc2:cur.length<w
   ·rw [if_pos hc2,if_pos hc2,List.cons_append,List.nil_append,show out++[((done.length,cur.length),iZ),((done.length+1,0),x)]=(out++[((done.length,cur.length),iZ)])++[((done.length+1,0),x)] by simp]
    have hpl:both iZ=[iZ]:=by decide
    rw [iH,iH,h3,ES (by rw [hpl]; simp; omega),ET (by omega),hpl]
    rw [show w - (cur++[iZ]).length=0 by simp; omega]
    simp [av]
   ·rw [if_neg hc2,if_neg hc2,List.nil_append,iH,h3,ET (by omega),show w - cur.length=0 by omega]
    simp [av]
  ·rw [if_neg hc,if_neg hc]
   refine ⟨by simp [hb],by simp only [List.length_append]; omega,?_⟩
   rw [iH,h3,ES (by omega)]
def qF (c:au):Bool:=hasB c.1 c.2.1 c.2.2 && iK c
def gK (l:List au):Bool:=l.all qF
theorem Ck {x:au} (h:qF x=true):tY x:=by
 simp only [qF,hasB,Bool.and_eq_true,Bool.or_eq_true,beq_iff_eq] at h
 exact h.1.1
theorem Uq {x:au} (h:qF x=true):iG x=true:=by
 have hw:=Ck h
 simp only [qF,hasB,Bool.and_eq_true] at h
 unfold iG DC
 rw [h.1.2]
 rcases hw with e | e<;>simp [e]
theorem VX {x:au} (h:qF x=true):iK x=true:=by
 simp only [qF,Bool.and_eq_true] at h
 exact h.2
theorem Q8 {x:au} (h:qF x=true):(both x).filter iG=[x]:=by
 have:=Uq h
 unfold both
 split
 ·rw [List.filter_cons_of_pos this,List.filter_cons_of_neg (by simp [iG]),List.filter_nil]
 ·rw [List.filter_cons_of_pos this,List.filter_nil]
theorem mK {tail:List au} (ht:∀q:au,q.2.1≠2→dS q tail=true):∀(xs:List au) (p:au),xs.all qF=true→p.2.1≠2→dS p (xs.flatMap both++tail)=true
 | [],p,_,hp=>by simpa using ht p hp
 | x::xs,p,hx,hp=>by
  simp only [List.all_cons,Bool.and_eq_true] at hx
  have hw:=Ck hx.1
  have hm:=VX hx.1
  have p2:(p.2.1 == 2)=false:=by simpa using hp
  rcases hw with e | e
  ·have ih:=mK ht xs x hx.2 (by omega)
   rw [List.flatMap_cons,show both x=[x] by unfold both; rw [if_neg (by omega)],List.cons_append,List.nil_append,List.cons_append,dS,hm,p2,ih]
   simp [e]
  ·have ih:=mK ht xs (0,0,x.2.2) hx.2 (by simp)
   rw [List.flatMap_cons,show both x=[x,(0,0,x.2.2)] by unfold both; rw [if_pos e]]
   simp only [List.cons_append,List.nil_append,dS,hm,p2,ih,e]
   have hz:iK (0,0,x.2.2)=true:=by
    simp only [iK,Bool.and_eq_true] at hm ⊢
    exact ⟨hm.1,by simp⟩
   simp [hz]
theorem yw:∀(n:Nat) (q:au),q.2.1≠2→dS q (av n)=true
 | 0,q,hq=>by simp [av,dS,hq]
 | n+1,q,hq=>by
  have ih:=yw n (32,1,0) (by simp)
  have hq':(q.2.1 == 2)=false:=by simpa using hq
  unfold av at ih ⊢
  rw [List.replicate_succ,dS,Oo,ih,hq']
  simp
theorem Q9 (q:au) (hq:q.2.1≠2):dS q [iZ]=true:=by
 have hq':(q.2.1 == 2)=false:=by simpa using hq
 simp [dS,iZ,iK,hq']
structure Lay (w:Nat) (l:List au) (s:List LR×List au):Prop where
 len:∀r∈s.1,r.2.length=w
 wrap:∀r∈s.1,r.1=true
 may:∀r∈s.1,iL r.2=true
 cur:∃xs,s.2=xs.flatMap both∧xs.all qF=true∧s.1.flatMap iV++xs=l
 few:s.2.length≤w
theorem o8:∀ {xs:List au},xs.all qF=true→(xs.flatMap both).filter iG=xs
 | [],_=>rfl
 | x::xs,h=>by
  simp only [List.all_cons,Bool.and_eq_true] at h
  rw [List.flatMap_cons,List.filter_append,Q8 h.1,o8 h.2]
  rfl
theorem Xp {w:Nat} (hw:2≤w) (hw2:w≤300) (l:List au) (hl:gK l=true):Lay w l (gY w l):=by
 revert hl
 refine jU (P:=fun l=>gK l=true→Lay w l (gY w l)) ?_ ?_ l
 ·exact fun _=>⟨fun _ h=>(by cases h),fun _ h=>(by cases h),fun _ h=>(by cases h),⟨[],rfl,rfl,rfl⟩,Nat.zero_le _⟩
 ·intro l x ih hl
  unfold gK at hl ih
  rw [List.all_append,Bool.and_eq_true] at hl
  have hx:qF x=true:=by simpa using hl.2
  obtain ⟨h1,h2,h3,⟨xs,e1,e2,e3⟩,h5⟩:=ih hl.1
  have hb:=kW (Ck hx)
  have hb2:wd x≤2∧1≤wd x:=by unfold wd; rcases Ck hx with h | h<;>simp [h]
  rw [yu]
  obtain ⟨⟨done,cur⟩,hs⟩:∃z,gY w l=z:=⟨_,rfl⟩
  rw [hs] at h1 h2 h3 e1 e3 h5 ⊢
  try simp only at h1 h2 h3 e1 e3 h5
  unfold Cj
  simp only
  by_cases hc:w<cur.length+wd x
  ·rw [if_pos hc]
   obtain ⟨row,hrow⟩:∃row,(if cur.length<w then cur++[iZ] else cur)=row:=⟨_,rfl⟩
   have hrl:row.length=w:=by rw [←hrow]; split<;>(try rw [List.length_append,List.length_singleton])<;>omega
   have hrm:iL row=true:=by
    unfold iL
    rw [Bool.and_eq_true,decide_eq_true_eq]
    refine ⟨by omega,?_⟩
    rw [←hrow,e1]
    split
    ·exact mK Q9 xs _ e2 (by simp)
    ·have:=mK (tail:=[]) (fun q hq=>by simp [dS,hq]) xs (32,1,0) e2 (by simp)
     simpa using this
   have hrc:iV (true,row)=xs:=by
    unfold iV
    simp only
    rw [if_pos hrm,←hrow,e1]
    split
    ·rw [List.filter_append,o8 e2]
     simp [iZ,iG,DC,jM]
    ·exact o8 e2
   rw [hrow]
   refine ⟨fun r hr=> ?_,fun r hr=> ?_,fun r hr=> ?_,⟨[x],by simp,by simpa using hx,?_⟩,by show (both x).length≤w; omega⟩
   ·rcases List.mem_append.1 hr with hr | hr
    ·exact h1 r hr
    ·rw [List.mem_singleton.1 hr]; exact hrl
   ·rcases List.mem_append.1 hr with hr | hr
    ·exact h2 r hr
    ·rw [List.mem_singleton.1 hr]
   ·rcases List.mem_append.1 hr with hr | hr
    ·exact h3 r hr
    ·rw [List.mem_singleton.1 hr]; exact hrm
   ·rw [List.flatMap_append,List.flatMap_cons,hrc,List.flatMap_nil,List.append_nil,e3]
  ·rw [if_neg hc]
   refine ⟨h1,h2,h3,⟨xs++[x],by rw [List.flatMap_append,e1]; simp,by simp [e2,hx],by rw [←List.append_assoc]; exact congrArg (· ++ [x]) e3⟩,by simp only [List.length_append]; omega⟩
theorem VY {w:Nat} (hw:2≤w) (hw2:w≤300) {l:List au} (hl:gK l=true) :
  ∃done last,jm w l=done++[(false,last)]∧(∀r∈done,r.1=true)∧(∀r∈jm w l,r.2.length=w∧iL r.2=true)∧∃n,(jm w l).flatMap iV=l++av n:=by
 obtain ⟨h1,h2,h3,⟨xs,e1,e2,e3⟩,h5⟩:=Xp hw hw2 l hl
 have hm:iL ((gY w l).2++av (w - (gY w l).2.length))=true:=by
  unfold iL
  rw [Bool.and_eq_true,decide_eq_true_eq]
  refine ⟨by simp [av]; omega,?_⟩
  rw [e1]
  exact mK (yw _) xs _ e2 (by simp)
 refine ⟨_,_,rfl,h2,fun r hr=> ?_,w - (gY w l).2.length,?_⟩
 ·rcases List.mem_append.1 hr with hr | hr
  ·exact ⟨h1 r hr,h3 r hr⟩
  ·rw [List.mem_singleton.1 hr]
   exact ⟨by simp [av]; omega,hm⟩
 ·unfold jm fill
  rw [List.flatMap_append,List.flatMap_cons,List.flatMap_nil,List.append_nil,←e3,List.append_assoc,e3]
  congr 1
  unfold iV
  simp only
  rw [if_pos hm,List.filter_append,e1,o8 e2]
  congr 1
  unfold av
  rw [List.filter_eq_self]
  intro a ha
  rw [(List.mem_replicate.1 ha).2]
  decide
theorem yx (l m:List au):∀k,k≤l.length→gU (l++m) k=gU l k
 | 0,_=>rfl
 | k+1,h=>by
  have ih:=yx l m k (by omega)
  unfold gU
  rw [List.getElem?_append_left (by omega),ih]
theorem Ko (l:List au):∀n,eX (l++av n)=eX l:=by
 intro n
 have key:∀k,k≤n→gU (l++av n) (l.length+k)=gU l l.length:=by
  intro k
  induction k with
  | zero=>intro _; exact yx l _ _ (Nat.le_refl _)
  | succ k ih =>
   intro hk
   have e:(l++av n)[l.length+k]? = some (32,1,0):=by
    rw [List.getElem?_append_right (by omega),Nat.add_sub_cancel_left]
    unfold av
    rw [List.getElem?_replicate,if_pos (by omega)]
   rw [←Nat.add_assoc,gU,e,←ih (by omega)]
   simp [Ae,jM]
 have hk:=key n (Nat.le_refl _)
 unfold eX
 rw [List.length_append,show (av n).length=n from List.length_replicate,hk,List.take_append_of_le_length]
 have:∀k,gU l k≤k:=by
  intro k
  induction k with
  | zero=>exact Nat.le_refl _
  | succ k ih=>unfold gU; split<;>omega
 exact this _
theorem EU:∀ {done:List LR} {r:LR},(∀x∈done,goes x=true)→parts (done++[r])=[done++[r]]
 | [],r,_=>rfl
 | x::done,r,h=>by
  rw [List.cons_append,mH,EU (fun y hy=>h y (by simp [hy])),rU,if_pos (h x (by simp))]
theorem Jp {w:Nat} (hw:2≤w) (hw2:w≤300) {l:List au} (hl:gK l=true):joinL (jm w l)=[eX l]:=by
 obtain ⟨done,last,e,h1,h2,n,h3⟩:=VY hw hw2 hl
 have hp:parts (jm w l)=[jm w l]:=by
  rw [e]
  refine EU (fun x hx=> ?_)
  unfold goes
  rw [h1 x hx,(h2 x (by rw [e]; simp [hx])).2]
  rfl
 unfold joinL
 rw [hp]
 simp only [List.map_cons,List.map_nil,joined]
 rw [h3,Ko]
/-! How many rows a line takes, and where Pads are. -/
def U2 (l:List au):Nat:=(l.filter DC).length
def XQ (rs:List LR):Nat:=(rs.map fun r=>U2 r.2).sum
def XR (l:List au):Nat:=(l.map wd).sum
structure Room (w:Nat) (l:List au) (s:List LR×List au):Prop where
 pads:∀r∈s.1,U2 r.2≤1∧∀k c,r.2[k]? = some c→DC c=true→k+1=w
 cur:∃xs:List au,s.2=xs.flatMap both∧xs.all qF=true
 sum:XR l+XQ s.1=w*s.1.length+s.2.length
 some:s.1≠[]→s.2≠[]
end Ln
end Go.Proofs.YteemnmalikomgaaGreatDoor
namespace Go.Proofs.YteemnmalikomgaaGreatDoor
open Go.ChangeShapes Go.WideShapes Go.ChangeAt Go.RowKit
namespace Ln
open Rw
attribute [local go_sem] Oper.semAt_some
def lr (x:aI):LR:=(x.wrap,x.l)
structure jP (W:World) (B:Nat) (A:Option Addr) (n:Nat) (rs:List aI):Prop where
 each:∀r∈rs,r.Ok W B
 sq:Sq W B 2 n A (rs.flatMap aI.vals)
theorem mM:∀(xs:List aI),(xs.flatMap aI.vals).length=xs.length*2
 | []=>rfl
 | x::xs=>by rw [List.flatMap_cons,List.length_append,mM xs,List.length_cons]; show 2+_=_; omega
theorem Oq (xs:List aI) (k:Nat):(xs.drop k).flatMap aI.vals=(xs.flatMap aI.vals).drop (k*2):=by
 induction k generalizing xs with
 | zero=>simp
 | succ k ih =>
  cases xs with
  | nil=>simp
  | cons x xs =>
   rw [List.drop_succ_cons,ih,List.flatMap_cons,show (k+1)*2=k*2+1+1 by omega]
   rfl
namespace jP
variable {W W':World} {B B' n:Nat} {A:Option Addr} {rs:List aI}
theorem len (h:jP W B A n rs):rs.length=n:=by have:=h.sq.len; rw [mM] at this; omega
theorem kept (h:jP W B A n rs) (hk:∀j,j<B→W'.heap[j]? = W.heap[j]?):jP W' B A n rs:=by
 have hc:∀p:Addr,p.block<B→W'.cell? p=W.cell? p:=fun p hp=>by unfold World.cell?; rw [hk p.block hp]
 exact ⟨fun r hr=>⟨(h.each r hr).le,(h.each r hr).cap,(h.each r hr).signs,(h.each r hr).sq.carry hc⟩,h.sq.carry hc⟩
theorem below (h:jP W B A n rs) (hb:Below B W W'):jP W' B A n rs:=⟨fun r hr=>(h.each r hr).below hb,h.sq.below hb⟩
theorem up (h:jP W B A n rs) (hb:B≤B'):jP W B' A n rs:=⟨fun r hr=>(h.each r hr).up hb,h.sq.up hb⟩
theorem take (h:jP W B A n rs) {m:Nat} (hm:m≤n):jP W B A m (rs.take m):=by
 have hl:=h.len
 refine ⟨fun r hr=>h.each r (List.mem_of_mem_take hr),by rw [mM,List.length_take]; omega,fun hn=> ?_⟩
 obtain ⟨b,off,e,hb,hc⟩:=h.sq.spot (by omega)
 refine ⟨b,off,e,hb,fun j u hu=>hc j u ?_⟩
 have e2:rs.flatMap aI.vals=(rs.take m).flatMap aI.vals++(rs.drop m).flatMap aI.vals:=by rw [←List.flatMap_append,List.take_append_drop]
 rw [e2,List.getElem?_append_left (List.getElem?_eq_some_iff.1 hu).1]
 exact hu
theorem drop (h:jP W B A n rs) {m c:Nat} (hm:m≤n) (hc:n≤c):jP W B (if c=m then A else A.map (·.add (m*2))) (n - m) (rs.drop m):=by
 have hl:=h.len
 refine ⟨fun r hr=>h.each r (List.mem_of_mem_drop hr),by rw [mM,List.length_drop]; omega,fun hn=> ?_⟩
 obtain ⟨b,off,rfl,hb,hcl⟩:=h.sq.spot (by omega)
 rw [if_neg (by omega)]
 refine ⟨b,off+m*2,by rw [Option.map_some,Af],hb,fun j u hu=> ?_⟩
 rw [Oq,List.getElem?_drop] at hu
 rw [Nat.add_assoc]
 exact hcl _ _ hu
end jP
theorem LU (w:World) (A:Option Addr) (n c m:Nat) (h:m≤n):(Instr.sliceAt 78 (.slice A n c) (some (.int .i64 (m:Int))) none none).run Tryz.prog w=.ok (.slice (if c=m then A else A.map (·.add (m*2))) (n - m) (c - m)) w:=by
 have hz:(sizeOf (Tryz.prog.elem 78)).run Tryz.prog w=.ok 2 w:=by kernel_rfl
 rw [run_sliceAt_slice _ _ _ _ _ _ Tryz.underlying78,run_slice_l _ _ _ _ _ Tryz.underlying78 _ _ (by omega) (by omega),hz]
 simp [Result.andThen,sliced]
theorem Kq (A:Option Addr) (n c:Nat) (wrap:Bool) (l:List au) (w:World) (hs:dw w) (hl:∀c∈l,-2147483648≤c.1∧c.1≤2147483647) (hq:Sq w w.heap.size 3 n A (flat l)) :
  Calls Tryz.prog 105 #[Wq A n c wrap] w fun e w'=>e=.returned (.bool (goes (wrap,l)))∧Below w.heap.size w w':=by
 have b1:Below w.heap.size w (w.alloc (.cells #[.slice A n c,.bool wrap] 122)):=(Below.refl _ _).alloc (Nat.le_refl _) _
 have PM:=Lib.hid (zk A n c wrap l _ (hs.below b1 hs.size) hl ((hq.below b1).up b1.size))
 have B1:=Lib.hid b1
 have q0:(w.alloc (.cells #[.slice A n c,.bool wrap] 122)).cell? ⟨w.heap.size,0,none⟩=some (.slice A n c):=cell_of_row _ _ 0 _ _ (0,0) (heap_alloc_new w _)
 have q1:(w.alloc (.cells #[.slice A n c,.bool wrap] 122)).cell? ⟨w.heap.size,1,none⟩=some (.bool wrap):=cell_of_row _ _ 1 _ _ (0,0) (heap_alloc_new w _)
 obtain ⟨g,hg⟩:∃g,goes (wrap,l)=g:=⟨_,rfl⟩
 have G:=Lib.hid hg
 obtain ⟨w1,hw1⟩:∃w1,w.alloc (.cells #[.slice A n c,.bool wrap] 122)=w1:=⟨_,rfl⟩
 have HW:=Lib.hid hw1
 rw [hw1] at PM B1 q0 q1
 rw [hg]
 clear b1 hs hl hq hg hw1
 cases wrap
 ·go_enter Tryz.func105,Tryz.ntmps105
  go_upto_region 1 with fail
  rw [HW.out]
  go_wp2_with fail
  go_ret
  exact ⟨aC (by rw [←G.out]; rfl),B1.out⟩
 ·go_enter Tryz.func105,Tryz.ntmps105
  go_upto_region 1 with fail
  rw [HW.out]
  go_wp2_with fail
  refine PM.out.mono ?_
  rintro e w2 ⟨rfl,b2⟩
  have B2:=Lib.hid (B1.out.trans (b2.mono B1.out.size))
  clear b2 PM q0 q1
  go_wp2
  go_ret
  exact ⟨aC (by rw [←G.out]; rfl),B2.out⟩
end Ln
namespace Ln
open Rw
attribute [local go_sem] Oper.semAt_some
theorem Ot {W W':World} {S:Nat} (h:dw W) (hS:0<S) (hz:W.heap.size≤W'.heap.size) (hk:∀j,j<S→W'.heap[j]? = W.heap[j]?):dw W':=by
 have hc:∀k,W'.cell? ⟨0,k,none⟩=W.cell? ⟨0,k,none⟩:=fun k=>by unfold World.cell?; rw [hk _ hS]
 exact ⟨Nat.lt_of_lt_of_le h.size hz,fun i hi=>(hc _).trans (h.first i hi),fun i hi=>(hc _).trans (h.last i hi),fun i hi=>(hc _).trans (h.wide i hi)⟩
structure jV (S Bx:Nat) (A:Option Addr) (n c:Nat) (rs:List aI) (W:World):Prop where
 sp:dw W
 lt:0<S
 box:W.heap[Bx]? = some (.cells #[.slice A n c] 78 (0,0))
 rows:jP W S A n rs
 big:S≤W.heap.size
def Leaves (S Bx:Nat) (W W':World):Prop:=W.heap.size≤W'.heap.size∧∀j,j<S∨j=Bx→W'.heap[j]? = W.heap[j]?
theorem Leaves.laid {S Bx:Nat} {W W':World} (h:Laid W W') (hS:S≤W.heap.size) (hB:Bx<W.heap.size):Leaves S Bx W W' :=
 ⟨h.size,fun j hj=>h.block j (by rcases hj with hj | rfl<;>omega)⟩
namespace jV
variable {S Bx n c:Nat} {A:Option Addr} {rs:List aI} {W W':World}
theorem Yh (h:jV S Bx A n c rs W):Bx<W.heap.size:=(Array.getElem?_eq_some_iff.1 h.box).1
theorem kept (h:jV S Bx A n c rs W) (hk:Leaves S Bx W W'):jV S Bx A n c rs W' :=
 ⟨Ot h.sp h.lt hk.1 fun j hj=>hk.2 j (.inl hj),h.lt,(hk.2 Bx (.inr rfl)).trans h.box,h.rows.kept fun j hj=>hk.2 j (.inl hj),Nat.le_trans h.big hk.1⟩
theorem laid (h:jV S Bx A n c rs W) (hb:Laid W W'):jV S Bx A n c rs W':=h.kept (Leaves.laid hb h.big h.Yh)
end jV
def Ou (S:Nat) (rs:List aI) (k:Nat) (x:Array Value) (W:World):Prop:=∃A n c sub,x = #[.int .i64 (k:Int),.slice A n c]∧(parts (rs.map lr))[k]? = some (sub.map lr)∧jP W S A n sub∧n≤c
theorem Kr {S Bx:Nat} {A:Option Addr} {n c:Nat} {rs:List aI} {Kp:World→World→Prop} {w:World} (h:jV S Bx A n c rs w) (hc:n≤c) (hKp:∀A B,Kp A B→Leaves S Bx A B) (hn:n≤1000000) :
  bP Tryz.prog 104 #[.pointer (some ⟨Bx,0,none⟩)] (parts (rs.map lr)).length (Ou S rs) Kp w:=by
 intro l J Jx W hL hJ hJx hY h0
 obtain ⟨N,hN⟩:∃N,(parts (rs.map lr)).length=N:=⟨_,rfl⟩
 have P0:=Lib.hid (h.laid hL)
 have R0:=Lib.hid (h.laid hL).rows
 have J0:=Lib.hid h0
 have c0:W.cell? ⟨Bx,0,none⟩=some (.slice A n c):=cell_of_row _ _ 0 _ _ (0,0) (h.laid hL).box
 have YH:=Lib.hid hY
 have JH:=Lib.hid (And.intro hJ hJx)
 have KH:=Lib.hid hKp
 have NH:=Lib.hid hN
 have NB:=Lib.hid (show N≤1000000 from by have h1:=mI (rs.map lr); rw [List.length_map,h.rows.len] at h1; omega)
 rw [hN] at YH ⊢
 clear hY hJ hJx hKp hN h hL h0
 refine callsIn_of_wp Tryz.func104 rfl trivial ?_ rfl
 simp only [Tryz.ntmps104,List.size_toArray,List.length_cons,List.length_nil,Nat.reduceAdd,Nat.reduceSub,Array.replicate_succ,Array.replicate_zero,List.push_toArray,List.append_toArray,List.nil_append,List.cons_append]
 refine wpIn_wide.2 (wp_scope_straight ((wpIn_wide (n:=2)).1 ?_))
 gi_wp2
 refine wpIn_label ?_
 gi_wp2
 gi_loopw [3,4] (fun t v wr=>∃(k n' c':Nat) (A':Option Addr) (sub:List aI),t=.int .i64 k∧v=.slice A' n' c'∧n'≤c'∧n'≤1000000∧Hid (rest (rs.map lr) k=sub.map lr)∧Hid (jP wr S A' n' sub)∧Hid (jV S Bx A n c rs wr)∧Hid (J k wr)∧Hid (k≤N)) (fun _ v _=>match v with | .slice _ n _=>n | _=>0)
 case atStart=>exact ⟨0,n,c,A,rs,rfl,rfl,hc,hn,Lib.hid rfl,R0,P0,J0,Lib.hid (Nat.zero_le _)⟩
 case round =>
  obtain ⟨k,n',c',A',sub,rfl,rfl,hc',hn',RE,R,P,JJ,KN⟩:=hrel
  clear R0 P0 J0 c0
  by_cases hpos:0<n'
  ·have hpos':(0:Int)<(n':Int):=by omega
   have hcut:=QZ (sub.map lr)
   have hsl:(sub.map lr).length=n':=by rw [List.length_map]; exact R.out.len
   rw [hsl] at hcut
   have hne:sub.map lr≠[]:=fun e=>by rw [e] at hsl; simp at hsl; omega
   have hcp:=LM hne
   have KL:=Lib.hid (show k<N by
    have:=_root_.mt (Jo (l:=rs.map lr) (k:=k)).2 (by rw [RE.out]; exact hne)
    rw [NH.out] at this
    omega)
   have hkb:k<1000000:=by have:=KL.out; have:=NB.out; omega
   obtain ⟨ct,hct⟩:∃ct,cut (sub.map lr)=ct:=⟨_,rfl⟩
   have CT:=Lib.hid hct
   have SL:=Lib.hid hsl
   rw [hct] at hcut hcp
   clear hct hsl hne
   gi_wp2
   gi_loopw [4,15] (fun v i wx=>∃j:Nat,v=.slice A' n' c'∧i=.int .i64 j∧j<ct∧Hid (jP wx S A' n' sub)∧Hid (jV S Bx A n c rs wx)∧Hid (J k wx)) (fun _ i _=>n' - (intOf i).toNat)
   case atStart=>exact ⟨0,rfl,rfl,by omega,R,P,JJ⟩
   case round =>
    obtain ⟨j,rfl,rfl,hj,R2,P2,J2⟩:=hrel
    clear R P JJ
    have hjn:j<n':=by omega
    obtain ⟨r,hr⟩:∃r,sub[j]? = some r:=⟨_,List.getElem?_eq_getElem (by rw [R2.out.len]; exact hjn)⟩
    obtain ⟨b,off,rfl,hb,q0,q1⟩:=sM R2.out.sq hr hjn
    have HR:=Lib.hid hr
    clear hr
    have bb:Laid wr (wr.alloc (.cells #[.slice r.A r.n r.c,.bool r.wrap] 122)):=(Below.refl _ _).alloc (Nat.le_refl _) _
    have RO:=Lib.hid (R2.out.each r (List.mem_of_getElem? HR.out))
    obtain ⟨g,hg⟩:∃g,goes (lr r)=g:=⟨_,rfl⟩
    have GO:=Lib.hid (Kq r.A r.n r.c r.wrap r.l _ (P2.out.laid bb).sp RO.out.signs ((RO.out.sq.below (bb.mono P2.out.big)).up (Nat.le_trans P2.out.big bb.size)))
    rw [show goes (r.wrap,r.l)=g from hg] at GO
    have ST:=Lib.hid (show (j+1<ct↔g=true∧j+1<n') from by
     have:=Jm (l:=sub.map lr) (i:=j) (r:=lr r) (by rw [CT.out]; exact hj) (by rw [List.getElem?_map,HR.out]; rfl)
     rw [CT.out,SL.out,hg] at this
     exact this)
    have P3:=Lib.hid (P2.out.laid bb)
    have R3:=Lib.hid (R2.out.below (bb.mono P2.out.big))
    have J3:=Lib.hid (JH.out.1 _ _ _ J2.out bb)
    clear RO bb hg
    cases g
    ·-- the line ends, since this row does not go on
     have E:=Lib.hid (show j+1=ct from by have:=ST.out; simp at this; omega)
     have FT:=Lib.hid (fun (W:World) (h:jP W S (some ⟨b,off,none⟩) n' sub)=>show Ou S rs k #[.int .i64 (k:Int),.slice (some ⟨b,off,none⟩) (j+1) c'] W from by
      refine ⟨_,j+1,c',sub.take (j+1),rfl,?_,h.take (by omega),by omega⟩
      rw [EO (by rw [RE.out]; intro e; have:=SL.out; rw [e] at this; simp at this; omega),RE.out,CT.out,←E.out,List.map_take])
     obtain ⟨A2,hA2⟩:∃A2,(if c'=j+1 then (some ⟨b,off,none⟩:Option Addr) else (some ⟨b,off,none⟩:Option Addr).map (·.add ((j+1)*2)))=A2:=⟨_,rfl⟩
     have CL:∀w,(Instr.sliceAt 78 (.slice (some ⟨b,off,none⟩) n' c') (some (.int .i64 ((j:Int)+1))) none none).run Tryz.prog w=.ok (.slice A2 (n' - (j+1)) (c' - (j+1))) w:=fun w=>by
      have:=LU w (some ⟨b,off,none⟩) n' c' (j+1) (by omega)
      rw [hA2,Int.natCast_add,Int.natCast_one] at this
      exact this
     have HA:=Lib.hid hA2
     clear hA2
     gi_wp2_with (refine ⟨trivial,?_⟩; gi_at_call 105; refine (callsIn_wide.2 GO.out).mono ?_; rintro e w3 ⟨rfl,b3⟩; (have P4:=Lib.hid (P3.out.laid b3)); (have R4:=Lib.hid (R3.out.below (b3.mono P3.out.big))); (have J4:=Lib.hid (JH.out.1 _ _ _ J3.out b3)); clear b3 P3 R3 J3 P2 R2 J2 GO q0 q1; (obtain ⟨fn,tmps,assign,body,hy,hR⟩:=YH.out _ _ _ KL.out J4.out (FT.out _ R4.out)); (have RR:=Lib.hid hR); clear hR J4)
     refine RR.out.mono ?_
     rintro e W5 (⟨rfl,hJ5,hk5⟩ | ⟨rfl,hJx5⟩)
     ·have P5:=Lib.hid (P4.out.kept (KH.out _ _ hk5))
      have R5:=Lib.hid (show jP W5 S A2 (n' - (j+1)) (sub.drop (j+1)) from by
       rw [←HA.out]
       exact (R4.out.kept fun i hi=>(KH.out _ _ hk5).2 i (.inl hi)).drop (by omega) hc')
      have J5:=Lib.hid hJ5
      clear hJ5 hk5 hy RR P4 R4 FT
      gi_wp2
      go_roundw
      case rel =>
       refine ⟨k+1,n' - (j+1),c' - (j+1),A2,sub.drop (j+1),by go_num,rfl,by omega,by omega,Lib.hid ?_,R5,P5,J5,Lib.hid (by have:=KL.out; omega)⟩
       show (rest (rs.map lr) k).drop (cut (rest (rs.map lr) k))=_
       rw [RE.out,CT.out,←E.out,List.map_drop]
      case measure=>simp only; omega
     ·have DX:=Lib.hid hJx5
      clear hJx5 hy RR P4 R4 FT
      gi_wp2
      rw [Exit.noGoto_ret]
      refine bodyPost_ret (results_none rfl _ _ _) rfl ?_
      exact ⟨⟨_,rfl⟩,.inr ⟨_,KL.out,DX.out⟩⟩
    ·by_cases hgo:j+1<n'
     ·have E:=Lib.hid (show j+1<ct from ST.out.2 ⟨rfl,hgo⟩)
      have hlt:(j:Int)<(n':Int) - 1:=by omega
      gi_wp2_with (refine ⟨trivial,?_⟩; gi_at_call 105; refine (callsIn_wide.2 GO.out).mono ?_; rintro e w3 ⟨rfl,b3⟩; (have P4:=Lib.hid (P3.out.laid b3)); (have R4:=Lib.hid (R3.out.below (b3.mono P3.out.big))); (have J4:=Lib.hid (JH.out.1 _ _ _ J3.out b3)); clear b3 P3 R3 J3 P2 R2 J2 GO q0 q1)
      go_roundw
      case rel=>exact ⟨j+1,rfl,by go_num,E.out,R4,P4,J4⟩
      case measure=>simp [intOf]; omega
     ·have hlt:¬(j:Int)<(n':Int) - 1:=by omega
      have E:=Lib.hid (show j+1=ct from by have:=ST.out; simp at this; omega)
      have FT:=Lib.hid (fun (W:World) (h:jP W S (some ⟨b,off,none⟩) n' sub)=>show Ou S rs k #[.int .i64 (k:Int),.slice (some ⟨b,off,none⟩) (j+1) c'] W from by
       refine ⟨_,j+1,c',sub.take (j+1),rfl,?_,h.take (by omega),by omega⟩
       rw [EO (by rw [RE.out]; intro e; have:=SL.out; rw [e] at this; simp at this; omega),RE.out,CT.out,←E.out,List.map_take])
      obtain ⟨A2,hA2⟩:∃A2,(if c'=j+1 then (some ⟨b,off,none⟩:Option Addr) else (some ⟨b,off,none⟩:Option Addr).map (·.add ((j+1)*2)))=A2:=⟨_,rfl⟩
      have CL:∀w,(Instr.sliceAt 78 (.slice (some ⟨b,off,none⟩) n' c') (some (.int .i64 ((j:Int)+1))) none none).run Tryz.prog w=.ok (.slice A2 (n' - (j+1)) (c' - (j+1))) w:=fun w=>by
       have:=LU w (some ⟨b,off,none⟩) n' c' (j+1) (by omega)
       rw [hA2,Int.natCast_add,Int.natCast_one] at this
       exact this
      have HA:=Lib.hid hA2
      clear hA2
      gi_wp2_with (refine ⟨trivial,?_⟩; gi_at_call 105; refine (callsIn_wide.2 GO.out).mono ?_; rintro e w3 ⟨rfl,b3⟩; (have P4:=Lib.hid (P3.out.laid b3)); (have R4:=Lib.hid (R3.out.below (b3.mono P3.out.big))); (have J4:=Lib.hid (JH.out.1 _ _ _ J3.out b3)); clear b3 P3 R3 J3 P2 R2 J2 GO q0 q1; (obtain ⟨fn,tmps,assign,body,hy,hR⟩:=YH.out _ _ _ KL.out J4.out (FT.out _ R4.out)); (have RR:=Lib.hid hR); clear hR J4)
      refine RR.out.mono ?_
      rintro e W5 (⟨rfl,hJ5,hk5⟩ | ⟨rfl,hJx5⟩)
      ·have P5:=Lib.hid (P4.out.kept (KH.out _ _ hk5))
       have R5:=Lib.hid (show jP W5 S A2 (n' - (j+1)) (sub.drop (j+1)) from by
        rw [←HA.out]
        exact (R4.out.kept fun i hi=>(KH.out _ _ hk5).2 i (.inl hi)).drop (by omega) hc')
       have J5:=Lib.hid hJ5
       clear hJ5 hk5 hy RR P4 R4 FT
       gi_wp2
       go_roundw
       case rel =>
        refine ⟨k+1,n' - (j+1),c' - (j+1),A2,sub.drop (j+1),by go_num,rfl,by omega,by omega,Lib.hid ?_,R5,P5,J5,Lib.hid (by have:=KL.out; omega)⟩
        show (rest (rs.map lr) k).drop (cut (rest (rs.map lr) k))=_
        rw [RE.out,CT.out,←E.out,List.map_drop]
       case measure=>simp only; omega
      ·have DX:=Lib.hid hJx5
       clear hJx5 hy RR P4 R4 FT
       gi_wp2
       rw [Exit.noGoto_ret]
       refine bodyPost_ret (results_none rfl _ _ _) rfl ?_
       exact ⟨⟨_,rfl⟩,.inr ⟨_,KL.out,DX.out⟩⟩
  ·-- nothing is left
   obtain rfl:n'=0:=by omega
   have E:=Lib.hid (show k=N from by
    have h1:=R.out.len
    obtain rfl:sub=[]:=List.length_eq_zero_iff.1 h1
    have h2:=(Jo (l:=rs.map lr) (k:=k)).1 (by rw [RE.out]; rfl)
    rw [NH.out] at h2
    have:=KN.out
    omega)
   have DN:=Lib.hid (show J N wr from by have:=JJ.out; rwa [E.out] at this)
   clear R RE
   gi_wp2
   rw [Exit.noGoto_normal]
   go_end0
   exact ⟨⟨_,rfl⟩,.inl DN.out⟩
end Ln
namespace Ln
open Rw
attribute [local go_sem] Oper.semAt_some
def bN (i:Nat):Nat→List au→List Pl
 | _,[]=>[]
 | col,c::l=>(if iG c then [((i,col),c)] else [])++bN i (col+1) l
def jW (i:Nat) (r:LR):List Pl:=if iL r.2 then bN i 0 r.2 else []
def aV:Nat→List LR→List Pl
 | _,[]=>[]
 | i,r::rs=>jW i r++aV (i+1) rs
theorem jo (i:Nat):∀(a b:List au) (col:Nat),bN i col (a++b)=bN i col a++bN i (col+a.length) b
 | [],_,_=>rfl
 | c::a,b,col=>by
  rw [List.cons_append,bN,bN,jo i a b (col+1),List.append_assoc,List.length_cons,show col+1+a.length=col+(a.length+1) by omega]
theorem jQ:∀(a b:List LR) (i:Nat),aV i (a++b)=aV i a++aV (i+a.length) b
 | [],_,_=>rfl
 | r::a,b,i=>by
  rw [List.cons_append,aV,aV,jQ a b (i+1),List.append_assoc,List.length_cons,show i+1+a.length=i+(a.length+1) by omega]
theorem rV (i:Nat):∀(l:List au) (col:Nat),(bN i col l).map (·.2)=l.filter iG
 | [],_=>rfl
 | c::l,col=>by
  rw [bN,List.map_append,rV i l (col+1),List.filter_cons]
  cases iG c<;>simp
theorem tZ:∀(rs:List LR) (i:Nat),(aV i rs).map (·.2)=rs.flatMap iV
 | [],_=>rfl
 | r::rs,i=>by
  rw [aV,List.map_append,tZ rs (i+1),List.flatMap_cons]
  congr 1
  unfold jW iV
  split
  ·exact rV i _ 0
  ·rfl
theorem yA (i:Nat):∀(l:List au) (col:Nat),(bN i col l).length≤l.length
 | [],_=>Nat.le_refl _
 | c::l,col=>by
  have:=yA i l (col+1)
  rw [bN,List.length_append,List.length_cons]
  split<;>simp<;>omega
theorem Kt (i:Nat) (r:LR):(jW i r).length≤300:=by
 unfold jW
 split
 ·rename_i h
  have:=yA i r.2 0
  unfold iL at h
  rw [Bool.and_eq_true,decide_eq_true_eq] at h
  omega
 ·simp
theorem zx:∀(rs:List LR) (i:Nat),(aV i rs).length≤300*rs.length
 | [],_=>Nat.le_refl _
 | r::rs,i=>by
  have:=zx rs (i+1)
  have:=Kt i r
  rw [aV,List.length_append,List.length_cons]
  omega
def told (rs:List LR) (i col:Nat) (l:List au):Nat:=(aV 0 (rs.take i)).length+(bN i 0 (l.take col)).length
theorem Ur {rs:List LR} {i:Nat} {r:LR} (h:rs[i]? = some r) (hm:iL r.2=true) (k:Nat):∃t,aV 0 rs=(aV 0 (rs.take i)++bN i 0 (r.2.take k))++t:=by
 have hi:=(List.getElem?_eq_some_iff.1 h).1
 have e:rs=rs.take i++(r::rs.drop (i+1)):=by
  conv=>lhs; rw [←List.take_append_drop i rs]
  rw [List.drop_eq_getElem_cons hi,(List.getElem?_eq_some_iff.1 h).2]
 have e2:jW i r=bN i 0 (r.2.take k)++bN i (0+(r.2.take k).length) (r.2.drop k):=by
  unfold jW
  rw [if_pos hm,←jo,List.take_append_drop]
 have e3:(rs.take i).length=i:=by rw [List.length_take]; omega
 refine ⟨bN i (0+(r.2.take k).length) (r.2.drop k)++aV (i+1) (rs.drop (i+1)),?_⟩
 conv=>lhs; rw [e]
 rw [jQ,e3,Nat.zero_add,aV,e2]
 simp only [List.append_assoc]
theorem Ra {r:LR} {i col:Nat} {c:au} (rs:List LR) (h:r.2[col]? = some c):told rs i (col+1) r.2=told rs i col r.2+if iG c then 1 else 0:=by
 unfold told
 have hl:(r.2.take col).length=col:=by rw [List.length_take]; have:=(List.getElem?_eq_some_iff.1 h).1; omega
 rw [take_one h,jo,List.length_append,bN,bN]
 cases iG c<;>simp
 omega
theorem Us {rs:List LR} {r:LR} {i col:Nat} {c:au} (hr:rs[i]? = some r) (hm:iL r.2=true) (h:r.2[col]? = some c) (hs:iG c=true):(aV 0 rs)[told rs i col r.2]? = some ((i,col),c):=by
 obtain ⟨t,e⟩:=Ur hr hm (col+1)
 have hl:(r.2.take col).length=col:=by rw [List.length_take]; have:=(List.getElem?_eq_some_iff.1 h).1; omega
 rw [e,take_one h,jo,hl,Nat.zero_add,bN,bN,if_pos hs,List.append_nil,List.getElem?_append_left (by unfold told; simp),List.getElem?_append_right (by unfold told; omega),show told rs i col r.2 - (aV 0 (rs.take i)).length=(bN i 0 (r.2.take col)).length by unfold told; omega,List.getElem?_append_right (Nat.le_refl _),Nat.sub_self]
 rfl
theorem Ut {rs:List LR} {r:LR} {i:Nat} (hr:rs[i]? = some r) (hm:iL r.2=true):told rs i r.2.length r.2=(aV 0 (rs.take (i+1))).length:=by
 have hi:=(List.getElem?_eq_some_iff.1 hr).1
 unfold told
 rw [take_one hr,jQ,List.length_append,List.take_length,aV,aV,List.append_nil,Nat.zero_add,show (rs.take i).length=i by rw [List.length_take]; omega]
 unfold jW
 rw [if_pos hm]
theorem told_none {rs:List LR} {r:LR} {i:Nat} (hr:rs[i]? = some r) (hm:iL r.2=false):(aV 0 (rs.take (i+1))).length=(aV 0 (rs.take i)).length:=by
 rw [take_one hr,jQ,List.length_append,aV,aV,List.append_nil]
 unfold jW
 rw [hm]
 simp
def Uu (L:List Pl) (k:Nat) (x:Array Value) (_:World):Prop:=∃y:Pl,L[k]? = some y∧x = #[.agg #[.int .i64 (y.1.1:Int),.int .i64 (y.1.2:Int)],cellV y.2.1 y.2.2.1 y.2.2.2]
theorem Ku {S Bx:Nat} {A:Option Addr} {n c:Nat} {rs:List aI} {Kp:World→World→Prop} {w:World} (h:jV S Bx A n c rs w) (hKp:∀A B,Kp A B→Leaves S Bx A B) (hn:n≤1000000) :
  bP Tryz.prog 159 #[.pointer (some ⟨Bx,0,none⟩)] (aV 0 (rs.map lr)).length (Uu (aV 0 (rs.map lr))) Kp w:=by
 intro l J Jx W hL hJ hJx hY h0
 obtain ⟨N,hN⟩:∃N,(aV 0 (rs.map lr)).length=N:=⟨_,rfl⟩
 have P0:=Lib.hid (h.laid hL)
 have J0:=Lib.hid h0
 have c0:W.cell? ⟨Bx,0,none⟩=some (.slice A n c):=cell_of_row _ _ 0 _ _ (0,0) (h.laid hL).box
 have YH:=Lib.hid hY
 have JH:=Lib.hid (And.intro hJ hJx)
 have KH:=Lib.hid hKp
 have NH:=Lib.hid hN
 have RL:=Lib.hid (show (rs.map lr).length=n from by rw [List.length_map]; exact h.rows.len)
 rw [hN] at YH ⊢
 clear hY hJ hJx hKp hN h hL h0
 refine callsIn_of_wp Tryz.func159 rfl trivial ?_ rfl
 simp only [Tryz.ntmps159,List.size_toArray,List.length_cons,List.length_nil,Nat.reduceAdd,Nat.reduceSub,Array.replicate_succ,Array.replicate_zero,List.push_toArray,List.append_toArray,List.nil_append,List.cons_append]
 gi_wp2
 gi_loopw [9] (fun t wr=>∃i:Nat,t=.int .i64 i∧i≤n∧Hid (jV S Bx A n c rs wr)∧Hid (J (aV 0 ((rs.map lr).take i)).length wr)) (fun t _=>n - (intOf t).toNat)
 case atStart=>exact ⟨0,rfl,Nat.zero_le _,P0,J0⟩
 case round =>
  obtain ⟨i,rfl,hi,P,JJ⟩:=hrel
  clear P0 J0 c0
  by_cases hlt:i<n
  ·obtain ⟨r,hr⟩:∃r,rs[i]? = some r:=⟨_,List.getElem?_eq_getElem (by rw [P.out.rows.len]; exact hlt)⟩
   obtain ⟨rA,rn,rc,rw',rl⟩:=r
   obtain ⟨b,off,rfl,hb,q0,q1⟩:=sM P.out.rows.sq hr hlt
   have hlr:(rs.map lr)[i]? = some (rw',rl):=by rw [List.getElem?_map,hr]; rfl
   have HR:=Lib.hid hr
   have HLR:=Lib.hid hlr
   have bb:Laid wr (wr.alloc (.cells #[.slice rA rn rc,.bool rw'] 122)):=(Below.refl _ _).alloc (Nat.le_refl _) _
   have RO:=Lib.hid (P.out.rows.each ⟨rA,rn,rc,rw',rl⟩ (List.mem_of_getElem? hr))
   obtain ⟨g,hg⟩:∃g,iL rl=g:=⟨_,rfl⟩
   have GO:=Lib.hid (zk rA rn rc rw' rl _ (P.out.laid bb).sp RO.out.signs ((RO.out.sq.below (bb.mono P.out.big)).up (Nat.le_trans P.out.big bb.size)))
   rw [hg] at GO
   have HG:=Lib.hid hg
   have P3:=Lib.hid (P.out.laid bb)
   have J3:=Lib.hid (JH.out.1 _ _ _ JJ.out bb)
   have Q3:=Lib.hid (heap_alloc_new wr (.cells #[.slice rA rn rc,.bool rw'] 122))
   clear bb hg hr hlr
   cases g
   ·have NX:=Lib.hid (told_none HLR.out HG.out)
    gi_wp2_with (refine ⟨trivial,?_⟩; gi_at_call 158; refine (callsIn_wide.2 GO.out).mono ?_; rintro e w3 ⟨rfl,b3⟩; (have P4:=Lib.hid (P3.out.laid b3)); (have J4:=Lib.hid (JH.out.1 _ _ _ J3.out b3)); clear b3 P3 J3 GO q0 q1 Q3)
    go_roundw
    case rel=>exact ⟨i+1,by go_num,by omega,P4,Lib.hid (by rw [NX.out]; exact J4.out)⟩
    case measure=>simp [intOf]; omega
   ·gi_wp2_with (refine ⟨trivial,?_⟩; gi_at_call 158; refine (callsIn_wide.2 GO.out).mono ?_; rintro e w3 ⟨rfl,b3⟩; (have P4:=Lib.hid (P3.out.laid b3)); (have J4:=Lib.hid (JH.out.1 _ _ _ J3.out b3)); (have k0:w3.cell? ⟨wr.heap.size,0,none⟩=some (.slice rA rn rc):=cell_of_row _ _ 0 _ _ (0,0) ((b3.block _ (by simp)).trans Q3.out)); clear b3 P3 J3 GO q0 q1 Q3)
    have K0:=Lib.hid (show J (told (rs.map lr) i 0 rl) w3 from by unfold told; exact J4.out)
    have RN:=Lib.hid (show rl.length=rn from by have:=RO.out.sq.len; rw [aX] at this; show rl.length=rn; simp only at this; omega)
    have hrn:rn≤300:=by
     have h1:=HG.out
     unfold iL at h1
     rw [Bool.and_eq_true,decide_eq_true_eq] at h1
     have:=RN.out
     omega
    clear J4
    gi_loopw [20] (fun t wx=>∃col:Nat,t=.int .i64 col∧col≤rn∧Hid (jV S Bx (some ⟨b,off,none⟩) n c rs wx)∧Hid (J (told (rs.map lr) i col rl) wx)) (fun t _=>rn - (intOf t).toNat)
    case atStart=>exact ⟨0,rfl,Nat.zero_le _,P4,K0⟩
    case round =>
     obtain ⟨col,rfl,hcol,P5,J5⟩:=hrel
     clear P4 K0 k0 P JJ
     by_cases hlc:col<rn
     ·obtain ⟨b',off',rfl,hb',⟨x,m,a⟩,hcc,q0,q1,q2⟩:=(P5.out.rows.each _ (List.mem_of_getElem? HR.out)).sq.three hlc
      have HC:=Lib.hid hcc
      have bb:Laid wr (wr.alloc (.cells #[.int .i32 x,.int .i64 m,.int .i64 a] 76)):=(Below.refl _ _).alloc (Nat.le_refl _) _
      have P6:=Lib.hid (P5.out.laid bb)
      have J6:=Lib.hid (JH.out.1 _ _ _ J5.out bb)
      have NX:=Lib.hid (Ra (r:=(rw',rl)) (i:=i) (rs.map lr) HC.out)
      simp only at NX
      by_cases hm0:m=0
      ·subst hm0
       rw [show iG (x,0,a)=false by simp [iG]] at NX
       clear bb P5 J5 hcc
       gi_wp2_with fail
       refine ⟨trivial,?_⟩
       gi_wp2_with fail
       go_roundw
       case rel=>exact ⟨col+1,by go_num,by omega,P6,Lib.hid (by rw [NX.out]; exact J6.out)⟩
       case measure=>simp [intOf]; omega
      ·have hm1:(m == 0)=false:=by simpa using hm0
       obtain ⟨p,hp⟩:∃p,jM 0 x m a=p:=⟨_,rfl⟩
       have PC:=Lib.hid (um x m a)
       have TG:=Lib.hid (fun h=>Us (r:=(rw',rl)) (i:=i) HLR.out HG.out HC.out h)
       rw [show iG (x,m,a) = !p by simp [iG,DC,hm1,hp]] at NX TG
       rw [hp] at PC
       have Q6:=Lib.hid (heap_alloc_new wr (.cells #[.int .i32 x,.int .i64 m,.int .i64 a] 76))
       clear bb P5 J5 hcc hp
       cases p
       ·have KL:=Lib.hid (show told (rs.map lr) i col rl<N from by
         rw [←NH.out]
         exact (List.getElem?_eq_some_iff.1 (TG.out rfl)).1)
        have FT:=Lib.hid (show ∀W,Uu (aV 0 (rs.map lr)) (told (rs.map lr) i col rl) #[.agg #[.int .i64 (i:Int),.int .i64 (col:Int)],cellV x m a] W from fun W=>⟨_,TG.out rfl,rfl⟩)
        gi_wp2_with (refine ⟨trivial,?_⟩; gi_at_call 126; refine (callsIn_wide.2 (PC.out _)).mono ?_; rintro e w4 ⟨rfl,b4⟩; (have P7:=Lib.hid (P6.out.laid b4)); (have J7:=Lib.hid (JH.out.1 _ _ _ J6.out b4)); (have Q7:=Lib.hid ((b4.block _ (by simp)).trans Q6.out)); (have k0:w4.cell? ⟨wr.heap.size,0,none⟩=some (.int .i32 x):=cell_of_row _ _ 0 _ _ (0,0) Q7.out); (have k1:w4.cell? ⟨wr.heap.size,1,none⟩=some (.int .i64 m):=cell_of_row _ _ 1 _ _ (0,0) Q7.out); (have k2:w4.cell? ⟨wr.heap.size,2,none⟩=some (.int .i64 a):=cell_of_row _ _ 2 _ _ (0,0) Q7.out); (obtain ⟨fn,tmps,assign,body,hy,hR⟩:=YH.out _ _ _ KL.out J7.out (FT.out _)); (have RR:=Lib.hid hR); clear b4 P6 J6 q0 q1 q2 Q6 PC hR J7)
        refine RR.out.mono ?_
        rintro e W5 (⟨rfl,hJ5,hk5⟩ | ⟨rfl,hJx5⟩)
        ·have P8:=Lib.hid (P7.out.kept (KH.out _ _ hk5))
         have J8:=Lib.hid hJ5
         clear hJ5 hk5 hy RR P7 FT TG Q7 k0 k1 k2
         gi_wp2
         go_roundw
         case rel=>exact ⟨col+1,by go_num,by omega,P8,Lib.hid (by rw [NX.out]; exact J8.out)⟩
         case measure=>simp [intOf]; omega
        ·have DX:=Lib.hid hJx5
         clear hJx5 hy RR P7 FT TG Q7 k0 k1 k2
         gi_wp2
         refine bodyPost_ret (results_none rfl _ _ _) rfl ?_
         exact ⟨⟨_,rfl⟩,.inr ⟨_,KL.out,DX.out⟩⟩
       ·gi_wp2_with (refine ⟨trivial,?_⟩; gi_at_call 126; refine (callsIn_wide.2 (PC.out _)).mono ?_; rintro e w4 ⟨rfl,b4⟩; (have P7:=Lib.hid (P6.out.laid b4)); (have J7:=Lib.hid (JH.out.1 _ _ _ J6.out b4)); clear b4 P6 J6 q0 q1 q2 Q6 PC TG)
        go_roundw
        case rel=>exact ⟨col+1,by go_num,by omega,P7,Lib.hid (by rw [NX.out]; exact J7.out)⟩
        case measure=>simp [intOf]; omega
     ·obtain rfl:col=rn:=by omega
      have E:=Lib.hid (show told (rs.map lr) i rl.length rl=(aV 0 ((rs.map lr).take (i+1))).length from Ut HLR.out HG.out)
      have J9:=Lib.hid (show J (aV 0 ((rs.map lr).take (i+1))).length wr from by
       rw [←E.out,RN.out]
       exact J5.out)
      clear J5 E
      gi_wp2
      go_roundw
      case rel=>exact ⟨i+1,by go_num,by omega,P5,J9⟩
      case measure=>simp [intOf]; omega
  ·obtain rfl:i=n:=by omega
   have DN:=Lib.hid (show J N wr from by have:=JJ.out; rwa [List.take_of_length_le (by rw [RL.out]; exact Nat.le_refl _),NH.out] at this)
   gi_wp2
   go_end0
   exact ⟨⟨_,rfl⟩,.inl DN.out⟩
end Ln
