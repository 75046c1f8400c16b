import Derived.ProofKit
namespace Go.Proofs.YteemnmalikomgaaGreatDoor.NF
inductive Nd where
  | mk (kind:Int) (set:List (Int×Int)) (nt:Bool) (kids:List Nd) (mn mx:Int):Nd
abbrev Sg:=List (Int×Int)
def anyS (s:Sg) (r:Int):Bool:=s.any fun x=>decide (x.1≤r) && decide (r≤x.2)
def ko (s:Sg) (nt:Bool) (r:Int):Bool:=anyS s r != nt
def Pow (R:Nat→Nat→Prop):Nat→Nat→Nat→Prop
  | 0,i,j=>i=j
  | c+1,i,j=>∃m,R i m∧Pow R c m j
theorem He {R S:Nat→Nat→Prop} (h:∀i j,R i j↔S i j):∀c i j,Pow R c i j↔Pow S c i j
  | 0,i,j=>Iff.rfl
  | c+1,i,j=>by
    constructor
    · rintro ⟨m,h1,h2⟩; exact ⟨m,(h i m).1 h1,(He h c m j).1 h2⟩
    · rintro ⟨m,h1,h2⟩; exact ⟨m,(h i m).2 h1,(He h c m j).2 h2⟩
mutual
def jd (l:List Int):Nd→Nat→Nat→Prop
  | .mk k s nt ks mn mx,i,j =>
    if k=2 then j=i+1∧∃r,l[i]? = some r∧ko s nt r=true
    else if k=3 then uM l ks i j
    else if k=4 then uN l ks i j
    else if k=5 then ∃c:Nat,mn≤(c:Int)∧(mx<0∨(c:Int)≤mx)∧Pow (fun a b=>sN l ks a b) c i j
    else if k=6 then i=0∧j=0
    else if k=7 then i=l.length∧j=l.length
    else False
def uM (l:List Int):List Nd→Nat→Nat→Prop
  | [],i,j=>i=j
  | x::xs,i,j=>∃m,jd l x i m∧uM l xs m j
def uN (l:List Int):List Nd→Nat→Nat→Prop
  | [],_,_=>False
  | x::xs,i,j=>jd l x i j∨uN l xs i j
def sN (l:List Int):List Nd→Nat→Nat→Prop
  | [],_,_=>False
  | x::_,i,j=>jd l x i j
end
def bL (r:Int):Bool:=decide (0≤r) && decide (r≤1114111) && !(decide (55296≤r) && decide (r≤57343)) && !decide (r=65533)
def bK (s:Sg):Bool:=s.all fun x=>bL x.1 && bL x.2 && decide (x.1≤x.2)
def aP (k:Int) (s:Sg) (nt:Bool) (n:Nat) (mn mx:Int):Bool :=
  if k=2 then bK s && (!s.isEmpty || nt) && decide (n=0) && decide (mn=0) && decide (mx=0)
  else if k=3∨k=4 then s.isEmpty && !nt && decide (2≤n) && decide (mn=0) && decide (mx=0)
  else if k=5 then s.isEmpty && !nt && decide (n=1) && decide (0≤mn) && decide (mn≤9) && (decide (mx = -1) || decide (mn≤mx) && decide (mx≤9))
  else if k=6∨k=7 then s.isEmpty && !nt && decide (n=0) && decide (mn=0) && decide (mx=0)
  else false
mutual
def may:Nd→Bool
  | .mk k s nt ks mn mx=>aP k s nt ks.length mn mx && aW ks
def aW:List Nd→Bool
  | []=>true
  | x::xs=>may x && aW xs
end
mutual
def count:Nd→Nat
  | .mk _ _ _ ks _ _=>counts ks+1
def counts:List Nd→Nat
  | []=>0
  | x::xs=>count x+counts xs
end
mutual
def deep:Nd→Nat
  | .mk _ _ _ ks _ _=>dI ks+1
def dI:List Nd→Nat
  | []=>0
  | x::xs=>max (deep x) (dI xs)
end
mutual
def wt:Nd→Nat
  | .mk k _ _ ks mn mx=>if k=3 then bf ks else if k=5 then (if mx<0 then bf ks*(mn.toNat+1)+1 else bf ks*mx.toNat+1) else bf ks+1
def bf:List Nd→Nat
  | []=>0
  | x::xs=>wt x+bf xs
end
structure St where
  kind:Int
  set:Sg
  nt:Bool
  next:Nat
  ways:List Nat
def aL (f:Nat→Nat→List St×Nat):Nat→Nat→Nat→List St×List Nat
  | 0,_,_=>([],[])
  | c+1,b,nx =>
    let r:=f b nx
    let t:=aL f c (b+r.1.length) r.2
    (r.1++t.1,r.2::t.2)
mutual
def lead:Nd→Nat→Nat→List St×Nat
  | .mk k s nt ks mn mx,b,nx =>
    if k=3 then bC ks b nx
    else if k=4 then
      let r:=aG ks b nx
      (r.1++[⟨4,[],false,0,r.2⟩],b+r.1.length)
    else if k=5 then
      if mx<0 then
        let r:=dx ks (b+1) b
        let t:=aL (fun b nx=>dx ks b nx) mn.toNat (b+1+r.1.length) b
        (⟨4,[],false,0,[r.2,nx]⟩::(r.1++t.1),t.2.getLastD b)
      else
        let t:=aL (fun b nx=>dx ks b nx) mx.toNat b nx
        (t.1++[⟨4,[],false,0,(nx::t.2).drop mn.toNat⟩],b+t.1.length)
    else ([⟨k,s,nt,nx,[]⟩],b)
def bC:List Nd→Nat→Nat→List St×Nat
  | [],_,nx=>([],nx)
  | x::xs,b,nx =>
    let r:=bC xs b nx
    let t:=lead x (b+r.1.length) r.2
    (r.1++t.1,t.2)
def aG:List Nd→Nat→Nat→List St×List Nat
  | [],_,_=>([],[])
  | x::xs,b,nx =>
    let r:=lead x b nx
    let t:=aG xs (b+r.1.length) nx
    (r.1++t.1,r.2::t.2)
def dx:List Nd→Nat→Nat→List St×Nat
  | [],_,nx=>([],nx)
  | x::_,b,nx=>lead x b nx
end
def Ed (l:List Int) (M:List St) (i q q':Nat):Prop :=
  ∃s,M[q]? = some s∧((s.kind=6∧i=0∧q'=s.next)∨(s.kind=7∧i=l.length∧q'=s.next)∨(s.kind=4∧q'∈s.ways))
def PI (l:List Int) (M:List St) (i q q':Nat):Prop :=
  ∃s,M[q]? = some s∧q'=s.next∧∃r,l[i]? = some r∧ko s.set s.nt r=true
def Stp (l:List Int) (M:List St) (q i q' i':Nat):Prop:=(i'=i∧Ed l M i q q')∨(i'=i+1∧PI l M i q q')
def mg (l:List Int) (M:List St):Nat→Nat→Nat→Nat→Prop
  | 0,q,i,j=>q=M.length∧i=j
  | n+1,q,i,j=>∃q' i',Stp l M q i q' i'∧mg l M n q' i' j
def Seg (M:List St) (b:Nat) (S:List St):Prop:=∀k,k<S.length→M[b+k]? = S[k]?
theorem Seg.left {M:List St} {b:Nat} {S T:List St} (h:Seg M b (S++T)):Seg M b S:=by
  intro k hk
  rw [h k (by simp; omega),List.getElem?_append_left hk]
theorem Seg.right {M:List St} {b:Nat} {S T:List St} (h:Seg M b (S++T)):Seg M (b+S.length) T:=by
  intro k hk
  have:=h (S.length+k) (by simp; omega)
  rw [show b+S.length+k=b+(S.length+k) by omega,this,List.getElem?_append_right (by omega)]
  congr 1; omega
theorem Seg.head {M:List St} {b:Nat} {s:St} {T:List St} (h:Seg M b (s::T)):M[b]? = some s:=by
  have:=h 0 (by simp)
  simpa using this
theorem Seg.tail {M:List St} {b:Nat} {s:St} {T:List St} (h:Seg M b (s::T)):Seg M (b+1) T:=by
  have h2:Seg M b ([s]++T):=h
  exact h2.right
structure dz (l:List Int) (M:List St) (q nx:Nat) (R:Nat→Nat→Prop):Prop where
  out:∀len i j,mg l M len q i j→∃m len',len'≤len∧R i m∧mg l M len' nx m j
  back:∀i m j len,R i m→mg l M len nx m j→∃len',mg l M len' q i j
theorem dz.refl (l:List Int) (M:List St) (q:Nat):dz l M q q (fun i j=>i=j) :=
  ⟨fun len i j h=>⟨i,len,Nat.le_refl _,rfl,h⟩,fun i m j len h h2=>by cases h; exact ⟨len,h2⟩⟩
theorem dz.trans {l:List Int} {M:List St} {q p r:Nat} {R S:Nat→Nat→Prop} (h1:dz l M q p R) (h2:dz l M p r S) :
    dz l M q r (fun i j=>∃m,R i m∧S m j):=by
  constructor
  · intro len i j h
    obtain ⟨m,len',hl,hr,ha⟩:=h1.out len i j h
    obtain ⟨m2,len2,hl2,hr2,ha2⟩:=h2.out len' m j ha
    exact ⟨m2,len2,by omega,⟨m,hr,hr2⟩,ha2⟩
  · rintro i m j len ⟨m2,hr,hs⟩ ha
    obtain ⟨len',ha'⟩:=h2.back m2 m j len hs ha
    exact h1.back i m2 j len' hr ha'
theorem dz.congr {l:List Int} {M:List St} {q p:Nat} {R S:Nat→Nat→Prop} (h1:dz l M q p R) (h:∀i j,R i j↔S i j) :
    dz l M q p S:=by
  have:R=S:=by funext i j; exact propext (h i j)
  exact this ▸ h1
theorem Ee {l:List Int} {M:List St} {q:Nat} {s:St} (h:M[q]? = some s) {len i j:Nat} (ha:mg l M len q i j) :
    ∃n q' i',len=n+1∧Stp l M q i q' i'∧mg l M n q' i' j:=by
  cases len with
  | zero =>
    obtain ⟨h1,_⟩:=ha
    rw [h1,List.getElem?_eq_none (Nat.le_refl _)] at h
    cases h
  | succ n =>
    obtain ⟨q',i',h1,h2⟩:=ha
    exact ⟨n,q',i',rfl,h1,h2⟩
theorem SB {l:List Int} {M:List St} {q i q':Nat} {s:St} (h:M[q]? = some s) (hs:s.set=[]) (hn:s.nt=false):¬PI l M i q q':=by
  rintro ⟨t,h1,_,r,_,h2⟩
  rw [h] at h1
  cases h1
  rw [hs,hn] at h2
  simp [ko,anyS] at h2
theorem sO {l:List Int} {M:List St} {q:Nat} {ws:List Nat} (h:M[q]? = some ⟨4,[],false,0,ws⟩) {len i j:Nat} :
    mg l M (len+1) q i j↔∃w∈ws,mg l M len w i j:=by
  constructor
  · rintro ⟨q',i',(⟨h1,t,h2,h3⟩ | ⟨_,h2⟩),h4⟩
    · subst h1
      rw [h] at h2
      cases h2
      rcases h3 with ⟨h3,_⟩ | ⟨h3,_⟩ | ⟨_,h3⟩
      · cases h3
      · cases h3
      · exact ⟨q',h3,h4⟩
    · exact absurd h2 (SB h rfl rfl)
  · rintro ⟨w,hw,ha⟩
    exact ⟨w,i,.inl ⟨rfl,_,h,.inr (.inr ⟨rfl,hw⟩)⟩,ha⟩
theorem wX {l:List Int} {M:List St} {q:Nat} {s:St} (h:M[q]? = some s) {i j:Nat}:¬mg l M 0 q i j:=by
  intro ha
  obtain ⟨_,_,_,h2,_⟩:=Ee h ha
  cases h2
theorem Ef {l:List Int} {M:List St} {q nx:Nat} {ws:List Nat} {Rs:List (Nat→Nat→Prop)} (h:M[q]? = some ⟨4,[],false,0,ws⟩)
    (hl:ws.length=Rs.length) (hw:∀(k:Nat) (w:Nat) (R:Nat→Nat→Prop),ws[k]? = some w→Rs[k]? = some R→dz l M w nx R):dz l M q nx (fun i j=>∃R∈Rs,R i j):=by
  constructor
  · intro len i j ha
    cases len with
    | zero=>exact absurd ha (wX h)
    | succ len =>
      obtain ⟨w,hm,ha⟩:=(sO h).1 ha
      obtain ⟨k,hk⟩:=List.getElem?_of_mem hm
      have hk2:k<Rs.length:=by rw [←hl]; exact (List.getElem?_eq_some_iff.1 hk).1
      obtain ⟨m,len',h1,h2,h3⟩:=(hw k w _ hk (List.getElem?_eq_getElem hk2)).out len i j ha
      exact ⟨m,len',by omega,⟨_,List.getElem_mem hk2,h2⟩,h3⟩
  · rintro i m j len ⟨R,hR,hr⟩ ha
    obtain ⟨k,hk⟩:=List.getElem?_of_mem hR
    have hk2:k<ws.length:=by rw [hl]; exact (List.getElem?_eq_some_iff.1 hk).1
    obtain ⟨len',h1⟩:=(hw k _ R (List.getElem?_eq_getElem hk2) hk).back i m j len hr ha
    exact ⟨len'+1,(sO h).2 ⟨_,List.getElem_mem hk2,h1⟩⟩
theorem JN {l:List Int} {M:List St} {q once nx:Nat} {R:Nat→Nat→Prop} (h:M[q]? = some ⟨4,[],false,0,[once,nx]⟩)
    (ho:dz l M once q R):dz l M q nx (fun i j=>∃c,Pow R c i j):=by
  constructor
  · intro len
    induction len using Nat.strongRecOn with
    | ind len ih =>
      intro i j ha
      cases len with
      | zero=>exact absurd ha (wX h)
      | succ len =>
        obtain ⟨w,hm,ha⟩:=(sO h).1 ha
        rcases List.mem_cons.1 hm with rfl | hm
        · obtain ⟨m,len',h1,h2,h3⟩:=ho.out len i j ha
          obtain ⟨m2,len2,h4,⟨c,h5⟩,h6⟩:=ih len' (by omega) m j h3
          exact ⟨m2,len2,by omega,⟨c+1,m,h2,h5⟩,h6⟩
        · rcases List.mem_cons.1 hm with rfl | hm
          · exact ⟨i,len,by omega,⟨0,rfl⟩,ha⟩
          · cases hm
  · rintro i m j len ⟨c,hc⟩ ha
    induction c generalizing i with
    | zero =>
      cases hc
      exact ⟨len+1,(sO h).2 ⟨nx,by simp,ha⟩⟩
    | succ c ih =>
      obtain ⟨m2,h1,h2⟩:=hc
      obtain ⟨len',h3⟩:=ih m2 h2
      obtain ⟨len2,h4⟩:=ho.back i m2 j len' h1 h3
      exact ⟨len2+1,(sO h).2 ⟨once,by simp,h4⟩⟩
theorem uG (f:Nat→Nat→List St×Nat):∀c b nx,(aL f c b nx).2.length=c
  | 0,_,_=>rfl
  | c+1,b,nx=>by simp [aL,uG f c]
theorem uO {l:List Int} {M:List St} {f:Nat→Nat→List St×Nat} {R:Nat→Nat→Prop} (hf:∀b nx,Seg M b (f b nx).1→dz l M (f b nx).2 nx R) :
    ∀c b nx p c0,Seg M b (aL f c b nx).1→dz l M nx p (fun i j=>Pow R c0 i j) →
     ∀k q,(aL f c b nx).2[k]? = some q→dz l M q p (fun i j=>Pow R (c0+k+1) i j)
  | 0,b,nx,p,c0,_,_,k,q,h=>by simp [aL] at h
  | c+1,b,nx,p,c0,hs,hp,k,q,h=>by
    have h1:=hf b nx hs.left
    have h2:dz l M (f b nx).2 p (fun i j=>Pow R (c0+1) i j):=(h1.trans hp).congr fun i j=>Iff.rfl
    cases k with
    | zero =>
      simp [aL] at h
      subst h
      exact h2
    | succ k =>
      have h3:=uO hf c _ _ p (c0+1) hs.right h2 k q (by simpa [aL] using h)
      rw [show c0+(k+1)+1=c0+1+k+1 by omega]
      exact h3
theorem pow_add {R:Nat→Nat→Prop}:∀ {a c i j k},Pow R a i j→Pow R c j k→Pow R (a+c) i k
  | 0,c,i,j,k,h,h2=>by cases h; rw [Nat.zero_add]; exact h2
  | a+1,c,i,j,k,⟨m,h1,h3⟩,h2=>by rw [Nat.add_right_comm]; exact ⟨m,h1,pow_add h3 h2⟩
theorem PK {l:List Int} {M:List St} {f:Nat→Nat→List St×Nat} {R:Nat→Nat→Prop} (hf:∀b nx,Seg M b (f b nx).1→dz l M (f b nx).2 nx R)
    (c b nx:Nat) (hs:Seg M b (aL f c b nx).1):dz l M ((aL f c b nx).2.getLastD nx) nx (fun i j=>Pow R c i j):=by
  cases c with
  | zero=>exact (dz.refl l M nx).congr fun i j=>Iff.rfl
  | succ c =>
    have hl:=uG f (c+1) b nx
    have h1:(aL f (c+1) b nx).2[c]? = some ((aL f (c+1) b nx).2.getLastD nx):=by
      rw [List.getLastD_eq_getLast?,List.getLast?_eq_getElem?,hl]
      simp only [Nat.add_sub_cancel]
      rw [List.getElem?_eq_getElem (by omega)]
      rfl
    have:=uO hf (c+1) b nx nx 0 hs ((dz.refl l M nx).congr fun i j=>Iff.rfl) c _ h1
    rw [show 0+c+1=c+1 by omega] at this
    exact this
theorem eP {k:Int} {s:Sg} {nt:Bool} {ks:List Nd} {mn mx:Int} (h:may (.mk k s nt ks mn mx)=true) :
    aP k s nt ks.length mn mx=true∧aW ks=true:=by
  rw [may,Bool.and_eq_true] at h
  exact h
theorem wM {k:Int} {s:Sg} {nt:Bool} {n:Nat} {mn mx:Int} (h:aP k s nt n mn mx=true) (hk:k≠2):s=[]∧nt=false:=by
  unfold aP at h
  rw [if_neg hk] at h
  split at h
  · simp at h; exact ⟨h.1.1.1.1,h.1.1.1.2⟩
  split at h
  · simp at h; exact ⟨h.1.1.1.1.1,h.1.1.1.1.2⟩
  split at h
  · simp at h; exact ⟨h.1.1.1.1,h.1.1.1.2⟩
  · cases h
theorem lJ {s:Sg} {nt:Bool} {n:Nat} {mn mx:Int} (h:aP 5 s nt n mn mx=true):n=1∧0≤mn∧mn≤9∧(mx = -1∨mn≤mx∧mx≤9):=by
  unfold aP at h
  simp at h
  exact ⟨h.1.1.1.2,h.1.1.2,h.1.2,h.2⟩
theorem zG {k:Int} {s:Sg} {nt:Bool} {n:Nat} {mn mx:Int} (h:aP k s nt n mn mx=true):k=2∨k=3∨k=4∨k=5∨k=6∨k=7:=by
  unfold aP at h
  split at h
  · exact .inl ‹_›
  split at h
  · rename_i h1; rcases h1 with h1 | h1<;>simp [h1]
  split at h
  · simp [*]
  split at h
  · rename_i h1; rcases h1 with h1 | h1<;>simp [h1]
  · cases h
theorem PO {l:List Int} {M:List St} {q nx:Nat} {k:Int} {s:Sg} {nt:Bool} (h:M[q]? = some ⟨k,s,nt,nx,[]⟩) (hk:k=2∨k=6∨k=7) (hp:k≠2→s=[]∧nt=false) {ks:List Nd} {mn mx:Int} :
    dz l M q nx (fun i j=>jd l (.mk k s nt ks mn mx) i j):=by
  constructor
  · intro len i j ha
    obtain ⟨n,q',i',hn,hst,ha⟩:=Ee h ha
    refine ⟨i',n,by omega,?_,?_⟩
    · rw [jd]
      rcases hst with ⟨h1,t,h2,h3⟩ | ⟨h1,t,h2,h3,r,h4,h5⟩
      · rw [h] at h2
        cases h2
        dsimp only at h3
        rcases h3 with ⟨h3,h4,_⟩ | ⟨h3,h4,_⟩ | ⟨h3,h4⟩
        · subst h3; simp; omega
        · subst h3; simp; omega
        · cases h4
      · rw [h] at h2
        cases h2
        dsimp only at h5
        by_cases h6:k=2
        · rw [if_pos h6]
          exact ⟨h1,r,h4,h5⟩
        · obtain ⟨h7,h8⟩:=hp h6
          subst h7 h8
          simp [ko,anyS] at h5
    · rcases hst with ⟨h1,t,h2,h3⟩ | ⟨h1,t,h2,h3,r,h4,h5⟩
      · rw [h] at h2
        cases h2
        dsimp only at h3
        rcases h3 with ⟨h3,h4,h5⟩ | ⟨h3,h4,h5⟩ | ⟨h3,h4⟩
        · rw [←h5]; exact ha
        · rw [←h5]; exact ha
        · cases h4
      · rw [h] at h2
        cases h2
        dsimp only at h3
        rw [←h3]; exact ha
  · intro i m j len hm ha
    rw [jd] at hm
    rcases hk with rfl | rfl | rfl
    · rw [if_pos rfl] at hm
      obtain ⟨h1,r,h2,h3⟩:=hm
      exact ⟨len+1,nx,m,.inr ⟨h1,_,h,rfl,r,h2,h3⟩,ha⟩
    · simp at hm
      exact ⟨len+1,nx,m,.inl ⟨by omega,_,h,.inl ⟨rfl,hm.1,rfl⟩⟩,ha⟩
    · simp at hm
      exact ⟨len+1,nx,m,.inl ⟨by omega,_,h,.inr (.inl ⟨rfl,hm.1,rfl⟩)⟩,ha⟩
mutual
theorem oL (l:List Int) (M:List St):∀(n:Nd) (b nx:Nat),may n=true→Seg M b (lead n b nx).1→dz l M (lead n b nx).2 nx (fun i j=>jd l n i j)
  | .mk k s nt ks mn mx,b,nx,hm,hs=>by
    obtain ⟨h1,h2⟩:=eP hm
    rw [lead] at hs ⊢
    by_cases k3:k=3
    · rw [if_pos k3] at hs ⊢
      refine (vZ l M ks b nx h2 hs).congr fun i j=> ?_
      subst k3
      rw [jd]; simp
    rw [if_neg k3] at hs ⊢
    by_cases k4:k=4
    · rw [if_pos k4] at hs ⊢
      dsimp only at hs ⊢
      obtain ⟨e1,e2⟩:=wh l M ks b nx h2 hs.left
      refine (Ef (Rs:=ks.map fun x i j=>jd l x i j) hs.right.head (by simpa using e1) ?_).congr fun i j=> ?_
      · intro k w R hw hR
        rw [List.getElem?_map] at hR
        cases hx:ks[k]? with
        | none=>rw [hx] at hR; cases hR
        | some x =>
          rw [hx] at hR
          cases hR
          exact e2 k w x hw hx
      · subst k4
        rw [jd]
        simp only [show ¬((4:Int)=2) by decide,show ¬((4:Int)=3) by decide,if_false,if_true]
        have:∀ks:List Nd,(∃R∈ks.map fun x i j=>jd l x i j,R i j)↔uN l ks i j:=by
          intro ks
          induction ks with
          | nil=>simp [uN]
          | cons x xs ih=>rw [uN,←ih]; simp
        exact this ks
    rw [if_neg k4] at hs ⊢
    by_cases k5:k=5
    · rw [if_pos k5] at hs ⊢
      subst k5
      obtain ⟨hn,h3,h4,h5⟩:=lJ h1
      have hf:∀b nx,Seg M b (dx ks b nx).1→dz l M (dx ks b nx).2 nx (fun i j=>sN l ks i j):=fun b nx=>Fh l M ks b nx h2 (by omega)
      by_cases hx:mx<0
      · rw [if_pos hx] at hs ⊢
        dsimp only at hs ⊢
        have e1:=hf (b+1) b hs.tail.left
        have e2:=JN hs.head e1
        have e3:=PK hf mn.toNat (b+1+(dx ks (b+1) b).1.length) b hs.tail.right
        refine (e3.trans e2).congr fun i j=> ?_
        rw [jd]
        simp only [show ¬((5:Int)=2) by decide,show ¬((5:Int)=3) by decide,show ¬((5:Int)=4) by decide,if_false,if_true]
        constructor
        · rintro ⟨m,h6,c,h7⟩
          exact ⟨mn.toNat+c,by omega,.inl hx,pow_add h6 h7⟩
        · rintro ⟨c,h6,_,h7⟩
          obtain ⟨d,rfl⟩:∃d,c=mn.toNat+d:=⟨c - mn.toNat,by omega⟩
          have:∀(a d i:Nat),Pow (fun a b=>sN l ks a b) (a+d) i j→∃m,Pow (fun a b=>sN l ks a b) a i m∧Pow (fun a b=>sN l ks a b) d m j:=by
            intro a
            induction a with
            | zero=>intro d i h; rw [Nat.zero_add] at h; exact ⟨i,rfl,h⟩
            | succ a ih =>
              intro d i h
              rw [Nat.add_right_comm] at h
              obtain ⟨m,h8,h9⟩:=h
              obtain ⟨m2,h10,h11⟩:=ih d m h9
              exact ⟨m2,⟨m,h8,h10⟩,h11⟩
          obtain ⟨m,h8,h9⟩:=this _ _ _ h7
          exact ⟨m,h8,d,h9⟩
      · rw [if_neg hx] at hs ⊢
        dsimp only at hs ⊢
        have e1:∀k q,(nx::(aL (fun b nx=>dx ks b nx) mx.toNat b nx).2)[k]? = some q→dz l M q nx (fun i j=>Pow (fun a b=>sN l ks a b) k i j):=by
          intro k q hq
          cases k with
          | zero =>
            simp at hq
            subst hq
            exact (dz.refl l M nx).congr fun i j=>Iff.rfl
          | succ k =>
            have:=uO hf mx.toNat b nx nx 0 hs.left ((dz.refl l M nx).congr fun i j=>Iff.rfl) k q (by simpa using hq)
            rw [show 0+k+1=k+1 by omega] at this
            exact this
        have hlen:=uG (fun b nx=>dx ks b nx) mx.toNat b nx
        generalize hg:aL (fun b nx=>dx ks b nx) mx.toNat b nx=t at *
        refine (Ef (Rs:=(List.range (mx.toNat+1 - mn.toNat)).map fun c i j=>Pow (fun a b=>sN l ks a b) (mn.toNat+c) i j) hs.right.head ?_ ?_).congr fun i j=> ?_
        · simp [hlen]
        · intro k w R hw hR
          rw [List.getElem?_map] at hR
          by_cases hk:k<mx.toNat+1 - mn.toNat
          · rw [List.getElem?_range hk] at hR
            cases hR
            rw [List.getElem?_drop] at hw
            exact e1 _ w hw
          · rw [List.getElem?_eq_none (by simp; omega)] at hR
            cases hR
        · rw [jd]
          simp only [show ¬((5:Int)=2) by decide,show ¬((5:Int)=3) by decide,show ¬((5:Int)=4) by decide,if_false,if_true]
          constructor
          · rintro ⟨R,hR,hr⟩
            obtain ⟨c,hc,rfl⟩:=List.mem_map.1 hR
            rw [List.mem_range] at hc
            exact ⟨mn.toNat+c,by omega,.inr (by omega),hr⟩
          · rintro ⟨c,h6,h7,h8⟩
            refine ⟨_,List.mem_map.2 ⟨c - mn.toNat,List.mem_range.2 (by omega),rfl⟩,?_⟩
            rw [show mn.toNat+(c - mn.toNat)=c by omega]
            exact h8
    rw [if_neg k5] at hs ⊢
    have hk:=zG h1
    have hk2:k=2∨k=6∨k=7:=by omega
    exact PO hs.head hk2 (fun h=>wM h1 h)
theorem vZ (l:List Int) (M:List St):∀(ks:List Nd) (b nx:Nat),aW ks=true→Seg M b (bC ks b nx).1→dz l M (bC ks b nx).2 nx (fun i j=>uM l ks i j)
  | [],b,nx,_,_=>(dz.refl l M nx).congr fun i j=>by rw [uM]
  | x::xs,b,nx,hm,hs=>by
    rw [aW,Bool.and_eq_true] at hm
    rw [bC] at hs ⊢
    dsimp only at hs ⊢
    have e1:=vZ l M xs b nx hm.2 hs.left
    have e2:=oL l M x _ _ hm.1 hs.right
    exact (e2.trans e1).congr fun i j=>by rw [uM]
theorem wh (l:List Int) (M:List St):∀(ks:List Nd) (b nx:Nat),aW ks=true→Seg M b (aG ks b nx).1 →
    (aG ks b nx).2.length=ks.length∧∀(k q:Nat) (x:Nd),(aG ks b nx).2[k]? = some q→ks[k]? = some x→dz l M q nx (fun i j=>jd l x i j)
  | [],b,nx,_,_=>by rw [aG]; exact ⟨rfl,fun k q x h=>by simp at h⟩
  | x::xs,b,nx,hm,hs=>by
    rw [aW,Bool.and_eq_true] at hm
    rw [aG] at hs ⊢
    dsimp only at hs ⊢
    obtain ⟨e1,e2⟩:=wh l M xs _ nx hm.2 hs.right
    refine ⟨by simp [e1],fun k q y hq hy=> ?_⟩
    cases k with
    | zero =>
      simp at hq hy
      subst hq hy
      exact oL l M x b nx hm.1 hs.left
    | succ k=>exact e2 k q y (by simpa using hq) (by simpa using hy)
theorem Fh (l:List Int) (M:List St):∀(ks:List Nd) (b nx:Nat),aW ks=true→0<ks.length→Seg M b (dx ks b nx).1→dz l M (dx ks b nx).2 nx (fun i j=>sN l ks i j)
  | [],_,_,_,h,_=>absurd h (by simp)
  | x::xs,b,nx,hm,_,hs=>by
    rw [aW,Bool.and_eq_true] at hm
    rw [dx] at hs ⊢
    exact (oL l M x b nx hm.1 hs).congr fun i j=>by rw [sN]
end
structure uI (E:Nat) (P:Sg→Prop) (s:St):Prop where
  kind:s.kind=2∨s.kind=4∨s.kind=6∨s.kind=7
  plain:s.kind≠2→s.set=[]∧s.nt=false
  set:P s.set
  next:s.next≤E
  ways:∀w∈s.ways,w≤E
mutual
def sets (P:Sg→Prop):Nd→Prop
  | .mk _ s _ ks _ _=>P s∧j3 P ks
def j3 (P:Sg→Prop):List Nd→Prop
  | []=>True
  | x::xs=>sets P x∧j3 P xs
end
theorem CO {E:Nat} {P:Sg→Prop} {f:Nat→Nat→List St×Nat} {w:Nat}
    (hf:∀b nx,b+w≤E→nx≤E→(f b nx).1.length=w∧(f b nx).2≤E∧∀s∈(f b nx).1,uI E P s) :
    ∀c b nx,b+w*c≤E→nx≤E→(aL f c b nx).1.length=w*c∧(∀q∈(aL f c b nx).2,q≤E)∧∀s∈(aL f c b nx).1,uI E P s
  | 0,b,nx,_,_=>by simp [aL]
  | c+1,b,nx,hb,hn=>by
    rw [Nat.mul_add,Nat.mul_one] at hb
    obtain ⟨h1,h2,h3⟩:=hf b nx (by omega) hn
    obtain ⟨h4,h5,h6⟩:=CO hf c (b+(f b nx).1.length) (f b nx).2 (by omega) h2
    rw [aL]
    dsimp only
    refine ⟨?_,?_,?_⟩
    · rw [List.length_append,h4,h1,Nat.mul_add]; omega
    · intro q hq
      rcases List.mem_cons.1 hq with rfl | hq
      · exact h2
      · exact h5 q hq
    · intro s hs
      rcases List.mem_append.1 hs with hs | hs
      · exact h3 s hs
      · exact h6 s hs
theorem JO {E:Nat}:∀ {l:List Nat} {d:Nat},(∀q∈l,q≤E)→d≤E→l.getLastD d≤E
  | [],d,_,h=>h
  | x::xs,d,h,_=>by
    rw [List.getLastD_eq_getLast?,List.getLast?_eq_some_getLast (by simp)]
    exact h _ (List.getLast_mem _)
mutual
theorem lN (E:Nat) (P:Sg→Prop) (p0:P []):∀(n:Nd) (b nx:Nat),may n=true→sets P n→b+wt n≤E→nx≤E →
    (lead n b nx).1.length=wt n∧(lead n b nx).2≤E∧∀s∈(lead n b nx).1,uI E P s
  | .mk k s nt ks mn mx,b,nx,hm,hp,hb,hn=>by
    obtain ⟨h1,h2⟩:=eP hm
    obtain ⟨hp1,hp2⟩:=hp
    rw [lead,wt]
    rw [wt] at hb
    by_cases k3:k=3
    · rw [if_pos k3] at hb ⊢
      rw [if_pos k3]
      exact Az E P p0 ks b nx h2 hp2 hb hn
    rw [if_neg k3] at hb ⊢
    rw [if_neg k3]
    by_cases k4:k=4
    · have k5:¬k=5:=by omega
      rw [if_neg k5] at hb ⊢
      rw [if_pos k4]
      dsimp only
      obtain ⟨e1,e2,e3⟩:=AA E P p0 ks b nx h2 hp2 (by omega) hn
      refine ⟨by rw [if_neg k5,List.length_append,e1]; rfl,by omega,?_⟩
      intro t ht
      rcases List.mem_append.1 ht with ht | ht
      · exact e3 t ht
      · rw [List.mem_singleton] at ht
        subst ht
        exact ⟨.inr (.inl rfl),fun _=>⟨rfl,rfl⟩,p0,Nat.zero_le _,e2⟩
    rw [if_neg k4]
    by_cases k5:k=5
    · subst k5
      rw [if_pos rfl] at hb ⊢
      rw [if_pos rfl]
      obtain ⟨hn1,h3,h4,h5⟩:=lJ h1
      have hf:∀b nx,b+bf ks≤E→nx≤E→(dx ks b nx).1.length=bf ks∧(dx ks b nx).2≤E∧∀s∈(dx ks b nx).1,uI E P s :=
        fun b nx hb hn=>MV E P p0 ks b nx hn1 h2 hp2 hb hn
      by_cases hx:mx<0
      · rw [if_pos hx] at hb ⊢
        rw [if_pos hx]
        dsimp only
        rw [Nat.mul_add,Nat.mul_one] at hb
        obtain ⟨e1,e2,e3⟩:=hf (b+1) b (by omega) (by omega)
        obtain ⟨e4,e5,e6⟩:=CO hf mn.toNat (b+1+(dx ks (b+1) b).1.length) b (by omega) (by omega)
        refine ⟨?_,JO e5 (by omega),?_⟩
        · rw [List.length_cons,List.length_append,e4,e1,Nat.mul_add]; omega
        · intro t ht
          rcases List.mem_cons.1 ht with rfl | ht
          · refine ⟨.inr (.inl rfl),fun _=>⟨rfl,rfl⟩,p0,Nat.zero_le _,?_⟩
            intro w hw
            rcases List.mem_cons.1 hw with rfl | hw
            · exact e2
            · rw [List.mem_singleton] at hw; omega
          rcases List.mem_append.1 ht with ht | ht
          · exact e3 t ht
          · exact e6 t ht
      · rw [if_neg hx] at hb ⊢
        rw [if_neg hx]
        dsimp only
        obtain ⟨e4,e5,e6⟩:=CO hf mx.toNat b nx (by omega) hn
        refine ⟨by rw [List.length_append,e4]; rfl,Nat.le_trans (Nat.add_le_add_left (Nat.le_of_eq e4) b) (by omega),?_⟩
        intro t ht
        rcases List.mem_append.1 ht with ht | ht
        · exact e6 t ht
        · rw [List.mem_singleton] at ht
          subst ht
          refine ⟨.inr (.inl rfl),fun _=>⟨rfl,rfl⟩,p0,Nat.zero_le _,?_⟩
          intro w hw
          rcases List.mem_cons.1 (List.mem_of_mem_drop hw) with rfl | hw
          · exact hn
          · exact e5 w hw
    rw [if_neg k5] at hb ⊢
    rw [if_neg k5]
    have hk:=zG h1
    have hk2:k=2∨k=6∨k=7:=by omega
    have hks:ks=[]:=by
      unfold aP at h1
      rcases hk2 with rfl | rfl | rfl<;>simp at h1
      · exact h1.1.1.2
      · exact h1.1.1.2
      · exact h1.1.1.2
    subst hks
    rw [bf] at hb ⊢
    refine ⟨rfl,by omega,?_⟩
    intro t ht
    rw [List.mem_singleton] at ht
    subst ht
    exact ⟨(show k=2∨k=4∨k=6∨k=7 by omega),fun h=>wM h1 h,hp1,hn,fun w hw=>by cases hw⟩
theorem Az (E:Nat) (P:Sg→Prop) (p0:P []):∀(ks:List Nd) (b nx:Nat),aW ks=true→j3 P ks→b+bf ks≤E→nx≤E →
    (bC ks b nx).1.length=bf ks∧(bC ks b nx).2≤E∧∀s∈(bC ks b nx).1,uI E P s
  | [],b,nx,_,_,_,hn=>by rw [bC]; exact ⟨rfl,hn,fun s h=>by cases h⟩
  | x::xs,b,nx,hm,hp,hb,hn=>by
    rw [aW,Bool.and_eq_true] at hm
    obtain ⟨hp1,hp2⟩:=hp
    rw [bf] at hb
    rw [bC,bf]
    dsimp only
    obtain ⟨e1,e2,e3⟩:=Az E P p0 xs b nx hm.2 hp2 (by omega) hn
    obtain ⟨e4,e5,e6⟩:=lN E P p0 x (b+(bC xs b nx).1.length) (bC xs b nx).2 hm.1 hp1 (by omega) e2
    refine ⟨by rw [List.length_append]; omega,e5,?_⟩
    intro t ht
    rcases List.mem_append.1 ht with ht | ht
    · exact e3 t ht
    · exact e6 t ht
theorem AA (E:Nat) (P:Sg→Prop) (p0:P []):∀(ks:List Nd) (b nx:Nat),aW ks=true→j3 P ks→b+bf ks≤E→nx≤E →
    (aG ks b nx).1.length=bf ks∧(∀q∈(aG ks b nx).2,q≤E)∧∀s∈(aG ks b nx).1,uI E P s
  | [],b,nx,_,_,_,hn=>by rw [aG]; exact ⟨rfl,fun s h=>by (cases h),fun s h=>by (cases h)⟩
  | x::xs,b,nx,hm,hp,hb,hn=>by
    rw [aW,Bool.and_eq_true] at hm
    obtain ⟨hp1,hp2⟩:=hp
    rw [bf] at hb
    rw [aG,bf]
    dsimp only
    obtain ⟨e4,e5,e6⟩:=lN E P p0 x b nx hm.1 hp1 (by omega) hn
    obtain ⟨e1,e2,e3⟩:=AA E P p0 xs (b+(lead x b nx).1.length) nx hm.2 hp2 (by omega) hn
    refine ⟨by rw [List.length_append]; omega,?_,?_⟩
    · intro q hq
      rcases List.mem_cons.1 hq with rfl | hq
      · exact e5
      · exact e2 q hq
    · intro t ht
      rcases List.mem_append.1 ht with ht | ht
      · exact e6 t ht
      · exact e3 t ht
theorem MV (E:Nat) (P:Sg→Prop) (p0:P []):∀(ks:List Nd) (b nx:Nat),ks.length=1→aW ks=true→j3 P ks→b+bf ks≤E→nx≤E →
    (dx ks b nx).1.length=bf ks∧(dx ks b nx).2≤E∧∀s∈(dx ks b nx).1,uI E P s
  | [],_,_,h,_,_,_,_=>absurd h (by simp)
  | x::xs,b,nx,hl,hm,hp,hb,hn=>by
    have:xs=[]:=by simpa using hl
    subst this
    rw [aW,Bool.and_eq_true] at hm
    obtain ⟨hp1,hp2⟩:=hp
    rw [bf,bf,Nat.add_zero] at hb
    rw [dx,bf,bf,Nat.add_zero]
    exact lN E P p0 x b nx hm.1 hp1 hb hn
end
def dQ:Sg→Prop
  | []=>True
  | [x]=>x.1≤x.2
  | x::y::r=>x.1≤x.2∧x.2<y.1∧dQ (y::r)
mutual
def lY:Nd→Nd→Prop
  | .mk k s nt ks mn mx,n=>∃s2 ks2,n=.mk k s2 nt ks2 mn mx∧(∀r,anyS s2 r=anyS s r)∧bK s2=true∧s2.isEmpty=s.isEmpty∧dQ s2∧eu ks ks2
def eu:List Nd→List Nd→Prop
  | [],ks2=>ks2=[]
  | x::xs,ks2=>∃y ys,ks2=y::ys∧lY x y∧eu xs ys
end
theorem zB:∀ {ks ks2:List Nd},eu ks ks2→ks2.length=ks.length
  | [],_,h=>by rw [eu] at h; rw [h]
  | x::xs,_,h=>by
    rw [eu] at h
    obtain ⟨y,ys,rfl,_,h2⟩:=h
    simp [zB h2]
theorem PU {k:Int} {s s2:Sg} {nt:Bool} {n:Nat} {mn mx:Int} (h:aP k s nt n mn mx=true) (h1:bK s2=true) (h2:s2.isEmpty=s.isEmpty) :
    aP k s2 nt n mn mx=true:=by
  unfold aP at h ⊢
  rw [h2]
  split
  · rw [if_pos ‹_›] at h
    simp [h1] at h ⊢
    exact ⟨⟨⟨h.1.1.1.2,h.1.1.2⟩,h.1.2⟩,h.2⟩
  · rw [if_neg ‹_›] at h
    exact h
mutual
theorem uH (l:List Int):∀(n n2:Nd),lY n n2→may n=true→may n2=true∧wt n2=wt n∧sets dQ n2∧∀i j,jd l n2 i j↔jd l n i j
  | .mk k s nt ks mn mx,n2,ho,hm=>by
    rw [lY] at ho
    obtain ⟨s2,ks2,rfl,h1,h2,h3,h4,h5⟩:=ho
    obtain ⟨m1,m2⟩:=eP hm
    obtain ⟨e1,e2,e3,e4,e5,e6⟩:=Eh l ks ks2 h5 m2
    refine ⟨?_,?_,?_,?_⟩
    · rw [may,Bool.and_eq_true,zB h5]
      exact ⟨PU m1 h2 h3,e1⟩
    · rw [wt,wt,e2]
    · rw [sets]; exact ⟨h4,e3⟩
    · intro i j
      rw [jd,jd]
      have i1:∀r,ko s2 nt r=ko s nt r:=fun r=>by unfold ko; rw [h1]
      simp only [i1,e4,e5,e6]
theorem Eh (l:List Int):∀(ks ks2:List Nd),eu ks ks2→aW ks=true→aW ks2=true∧bf ks2=bf ks∧j3 dQ ks2 ∧
    (∀i j,uM l ks2 i j↔uM l ks i j)∧(∀i j,uN l ks2 i j↔uN l ks i j)∧sN l ks2=sN l ks
  | [],ks2,ho,_=>by
    rw [eu] at ho
    subst ho
    exact ⟨rfl,rfl,trivial,fun _ _=>Iff.rfl,fun _ _=>Iff.rfl,rfl⟩
  | x::xs,ks2,ho,hm=>by
    rw [eu] at ho
    obtain ⟨y,ys,rfl,h1,h2⟩:=ho
    rw [aW,Bool.and_eq_true] at hm
    obtain ⟨a1,a2,a3,a4⟩:=uH l x y h1 hm.1
    obtain ⟨b1,b2,b3,b4,b5,b6⟩:=Eh l xs ys h2 hm.2
    refine ⟨by rw [aW,a1,b1]; rfl,by rw [bf,bf,a2,b2],by rw [j3]; exact ⟨a3,b3⟩,?_,?_,?_⟩
    · intro i j; rw [uM,uM]; simp only [a4,b4]
    · intro i j; rw [uN,uN,a4,b5]
    · funext i j; rw [sN,sN,a4]
end
def iJ (n:Nd):List St:=(lead n 0 (wt n)).1
def start (n:Nd):Nat:=(lead n 0 (wt n)).2
theorem pK {n:Nd} (hm:may n=true):(iJ n).length=wt n :=
  have s0:∀(n:Nd),sets (fun _=>True) n:=fun n=>all_sets n
  (lN (wt n) (fun _=>True) trivial n 0 (wt n) hm (s0 n) (by omega) (Nat.le_refl _)).1
where
  all_sets:∀n:Nd,sets (fun _=>True) n
    | .mk _ _ _ ks _ _=>by rw [sets]; exact ⟨trivial,all_setss ks⟩
  all_setss:∀ks:List Nd,j3 (fun _=>True) ks
    | []=>by rw [j3]; trivial
    | x::xs=>by rw [j3]; exact ⟨all_sets x,all_setss xs⟩
theorem SC (l:List Int) {n n2:Nd} (hm:may n=true) (ho:lY n n2) (i j:Nat):(∃len,mg l (iJ n2) len (start n2) i j)↔jd l n i j:=by
  obtain ⟨h1,h2,_,h4⟩:=uH l n n2 ho hm
  have hs:Seg (iJ n2) 0 (lead n2 0 (wt n2)).1:=fun k _=>by rw [Nat.zero_add]; rfl
  have hl:=oL l (iJ n2) n2 0 (wt n2) h1 hs
  have hlen:=pK h1
  rw [←h4]
  constructor
  · rintro ⟨len,ha⟩
    obtain ⟨m,len',_,hm2,ha2⟩:=hl.out len i j ha
    cases len' with
    | zero=>obtain ⟨_,rfl⟩:=ha2; exact hm2
    | succ len' =>
      obtain ⟨q',i',hst,_⟩:=ha2
      exfalso
      rcases hst with ⟨_,s,hs,_⟩ | ⟨_,s,hs,_⟩<;>rw [List.getElem?_eq_none (by omega)] at hs<;>cases hs
  · intro h
    exact hl.back i j j 0 h ⟨hlen.symm,rfl⟩
inductive gD (l:List Int) (M:List St) (st a:Nat):Nat→Nat→Prop where
  | refl:gD l M st a st a
  | step {q i q' i':Nat}:gD l M st a q i→Stp l M q i q' i'→gD l M st a q' i'
theorem AB {l:List Int} {M:List St} {st a:Nat}:∀ {n q i j},gD l M st a q i→mg l M n q i j→gD l M st a M.length j
  | 0,q,i,j,h,⟨h1,h2⟩=>by subst h1 h2; exact h
  | n+1,q,i,j,h,⟨q',i',h1,h2⟩=>AB (h.step h1) h2
theorem MX {l:List Int} {M:List St} {st a q i:Nat} (h:gD l M st a q i):∀n j,mg l M n q i j→∃n',mg l M n' st a j:=by
  induction h with
  | refl=>exact fun n j h=>⟨n,h⟩
  | step h1 h2 ih=>exact fun n j h=>ih (n+1) j ⟨_,_,h2,h⟩
theorem Vf {l:List Int} {n n2:Nd} (hm:may n=true) (ho:lY n n2) (a j:Nat):gD l (iJ n2) (start n2) a (iJ n2).length j↔jd l n a j:=by
  rw [←SC l hm ho]
  exact ⟨fun h=>MX h 0 j ⟨rfl,rfl⟩,fun ⟨len,h⟩=>AB .refl h⟩
inductive wY (l:List Int) (M:List St) (i:Nat):Nat→Nat→Prop where
  | refl (q:Nat):wY l M i q q
  | snoc {q p r:Nat}:wY l M i q p→Ed l M i p r→wY l M i q r
theorem Vl {l:List Int} {M:List St} {st a i c q:Nat} (h:gD l M st a c i) (he:wY l M i c q):gD l M st a q i:=by
  induction he with
  | refl=>exact h
  | snoc _ h2 ih=>exact ih.step (.inl ⟨rfl,h2⟩)
theorem PV {l:List Int} {M:List St} {st a q i:Nat} (h:gD l M st a q i):a≤i:=by
  induction h with
  | refl=>exact Nat.le_refl _
  | step _ h2 ih=>rcases h2 with ⟨h,_⟩ | ⟨h,_⟩<;>omega
structure Seeds (l:List Int) (M:List St) (st a i:Nat) (C:List Nat):Prop where
  sound:∀c∈C,gD l M st a c i
  full:∀q,gD l M st a q i→∃c∈C,wY l M i c q
theorem JQ {l:List Int} {M:List St} {st a:Nat}:Seeds l M st a a [st]:=by
  refine ⟨fun c hc=>by rw [List.mem_singleton] at hc; subst hc; exact .refl,fun q h=>⟨st,List.mem_singleton.2 rfl,?_⟩⟩
  have:∀q i,gD l M st a q i→i=a→wY l M a st q:=by
    intro q i h
    induction h with
    | refl=>exact fun _=>.refl _
    | step h1 h2 ih =>
      intro he
      rcases h2 with ⟨h3,h4⟩ | ⟨h3,h4⟩
      · subst h3
        exact (ih he).snoc (he ▸ h4)
      · have:=PV h1
        omega
  exact this q a h rfl
theorem Hf {l:List Int} {M:List St} {st a i:Nat} {C D:List Nat} (h:Seeds l M st a i C) (h1:∀c∈C,c∈D) (h2:∀d∈D,gD l M st a d i)
    (h3:∀d∈D,∀q,Ed l M i d q→q∈D) (q:Nat):q∈D↔gD l M st a q i:=by
  refine ⟨h2 q,fun hq=> ?_⟩
  obtain ⟨c,hc,he⟩:=h.full q hq
  have hcD:=h1 c hc
  clear hc hq
  induction he with
  | refl=>exact hcD
  | snoc _ h5 ih=>exact h3 _ ih _ h5
theorem MZ {l:List Int} {M:List St} {st a i:Nat} {D E:List Nat} (hi:a≤i) (h:∀q,q∈D↔gD l M st a q i) (h2:∀q,q∈E↔∃p∈D,PI l M i p q) :
    Seeds l M st a (i+1) E:=by
  constructor
  · intro c hc
    obtain ⟨p,hp,ht⟩:=(h2 c).1 hc
    exact ((h p).1 hp).step (.inr ⟨rfl,ht⟩)
  · intro q hq
    have:∀q k,gD l M st a q k→k=i+1→∃c∈E,wY l M (i+1) c q:=by
      intro q k hq
      induction hq with
      | refl=>intro he; omega
      | step h4 h5 ih =>
        intro he
        rcases h5 with ⟨h6,h7⟩ | ⟨h6,h7⟩
        · subst h6
          obtain ⟨c,hc,hs⟩:=ih he
          exact ⟨c,hc,hs.snoc (he ▸ h7)⟩
        · have h8:∃k,k=i:=⟨_,rfl⟩
          rename_i q1 i1 q2 i2
          have:i1=i:=by omega
          subst this
          exact ⟨q2,(h2 q2).2 ⟨q1,(h q1).2 h4,h7⟩,.refl _⟩
    exact this q _ hq rfl
theorem JR {l:List Int} {M:List St} {st a i:Nat} (hi:a≤i) (h:∀q,¬gD l M st a q i):∀q j,i≤j→¬gD l M st a q j:=by
  intro q j hj hr
  induction hr with
  | refl=>exact h st (by have:i=a:=by omega
                         rw [this]; exact .refl)
  | step h1 h2 ih =>
    rename_i q1 i1 q2 i2
    by_cases he:i≤i1
    · exact ih he
    · rcases h2 with ⟨h3,_⟩ | ⟨h3,h4⟩
      · omega
      · have:i2=i:=by omega
        subst this
        exact h _ (h1.step (.inr ⟨h3,h4⟩))
noncomputable def dJ (P:Nat→Prop) (k:Nat):List Nat :=
  open Classical in (List.range k).filter (fun e=>decide (P e))
theorem AJ (P:Nat→Prop) (k:Nat):(P k→dJ P (k+1)=dJ P k++[k])∧(¬P k→dJ P (k+1)=dJ P k):=by
  unfold dJ
  constructor
  · intro h
    rw [List.range_succ,List.filter_append]
    simp [h]
  · intro h
    rw [List.range_succ,List.filter_append]
    simp [h]
theorem JF {P Q:Nat→Prop} (k:Nat) (h:∀e,e<k→(P e↔Q e)):dJ P k=dJ Q k:=by
  unfold dJ
  apply List.filter_congr
  intro e he
  rw [List.mem_range] at he
  simp [h e he]
theorem AO {P:Nat→Prop} {a b:Nat} (hab:a≤b) (h:∀e,a≤e→e<b→¬P e):dJ P b=dJ P a:=by
  induction b with
  | zero=>have:a=0:=by omega
          rw [this]
  | succ b ih =>
    by_cases hb:a=b+1
    · rw [hb]
    · rw [(AJ P b).2 (h b (by omega) (by omega)),ih (by omega) (fun e h1 h2=>h e h1 (by omega))]
theorem D9 (P:Nat→Prop) (k:Nat):(dJ P k).length≤k:=by
  unfold dJ
  exact Nat.le_trans (List.length_filter_le _ _) (by simp)
end Go.Proofs.YteemnmalikomgaaGreatDoor.NF
