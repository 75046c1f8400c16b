import Derived.Test.YteemnmalikomgaaGreatDoorQSwStore0
import Derived.Laws.IdiomStrings
import Derived.OrdersIn
set_option maxRecDepth 100000
set_option maxHeartbeats 1600000
namespace Go.Proofs.YteemnmalikomgaaGreatDoor
open Go.ChangeShapes Go.WideShapes Go.ChangeAt Go.RowKit
theorem lC.sq {w:World} {base n c:Nat} {A:Option Addr} {l:List Int} (h:lC w base (.slice A n c) l):Sq w w.heap.size 1 n A (l.map (Value.int .u8)):=by
 obtain ⟨A',c',e⟩:=lC.shape h
 injection e with e1 e2 e3
 subst e1 e2 e3
 exact Sq.own h
theorem CG {P:Program} (w:World) (t ty:TypeId) (base:Nat) (e:TypeId) (i:TypeInfo) (z:Value) (size bytes:Nat) (ht:P.underlying t=some (.slice e)) (hi:P.info? e=some i) (hz:i.zero=some z)
  (hsize:i.size=size) (hby:i.bytes=bytes) (hzs:z.cells.size=size) (hsz:0<size) (v:Value) (n:Nat) (xs:List Value) (hown:w.ownsRow base e size v n xs)
  (A:Option Addr) (m c:Nat) (news:List Value) (B:Nat) (hq:Sq w B size m A news) (h1:∀u∈news,u.oneCell'=true) (h63:n+m≤maxLen) (hbytes:(n+m)*bytes≤140737488355328) (hbase:base≤w.heap.size) :
  ∃A' c' w',(Builtin.append_ #[t,t] ty #[v,.slice A m c]).run P w=.ok (.slice A' (n+m) c') w'∧w'.ownsRow base e size (.slice A' (n+m) c') (n+m) (xs++news)∧w.grownBy w' v.ownBlock∧((Value.slice A' (n+m) c').ownBlock=v.ownBlock∨(Value.slice A' (n+m) c').ownBlock=some w.heap.size):=by
 have shape:∀ {w':World} {v':Value} {k:Nat} {ys:List Value},w'.ownsRow base e size v' k ys→∃A' c',v'=.slice A' k c':=fun h=>by
  rcases h.2 with ⟨rfl,h0⟩ | ⟨g,cap,cur,rfl,_⟩
  ·rw [h0]; exact ⟨_,_,rfl⟩
  ·exact ⟨_,_,rfl⟩
 rcases A with _ | ad
 ·have hm:m=0:=by
   rcases Nat.eq_zero_or_pos m with h0 | h0
   ·exact h0
   ·obtain ⟨_,_,e,_⟩:=hq.spot h0
    cases e
  subst hm
  have hn:news=[]:=List.eq_nil_of_length_eq_zero (by have:=hq.len; omega)
  subst hn
  have hrun:=rZ (P:=P) (ty:=ty) ht hi hown c
  obtain ⟨A',c',rfl⟩:=shape hown
  refine ⟨A',c',w,hrun,by simpa using hown,⟨rfl,rfl,rfl,Nat.le_refl _,fun _ _ _=>rfl⟩,.inl rfl⟩
 ·obtain ⟨v',w',hr,h2,h3,_,h5⟩:=run_append_own_at (P:=P) w base t ty e i z size bytes ht hi hz hsize hby hzs hsz v n xs hown ad m c news hq.len (fun j u hu=>by
   have hj:0<m:=by
    rcases Nat.eq_zero_or_pos m with h0 | h0
    ·subst h0
     have hn:news=[]:=List.eq_nil_of_length_eq_zero (by have:=hq.len; omega)
     subst hn
     simp at hu
    ·exact h0
   obtain ⟨b,off,e,_,hc⟩:=hq.spot hj
   injection e with e
   subst e
   rw [pI]
   exact hc j u hu) h1 h63 hbytes hbase
  obtain ⟨A',c',rfl⟩:=shape h2
  exact ⟨A',c',w',hr,h2,h3,h5⟩
namespace Ord
open Chain (dO next enters oK)
abbrev Line:=Option Tmp×Op×Option (Nat×Bool)×List Nat
def FP (l:List Edge):List Nat:=l.filterMap fun e=>if Region.binds .any e then some e.on else none
def line (o:Oper):Line:=(o.dst,o.op,o.guard,FP o.after.toList)
def look (ops:Array Oper):List Line:=ops.toList.map line
def up (bs:List Bool) (L:List Line):List Nat:=(List.range L.length).filter fun j=> !(bs.getD j true) && (L[j]?).elim false fun x=>x.2.2.2.all fun p=>bs.getD p false
section
variable {P:Program} {ops:Array Oper} {Q:Exit→Act→World→Prop} {S:World→Prop} {L:List Line}
theorem iB (hL:look ops=L) (bs:List Bool) (i:Nat):i∈Region.ready .any ops bs.toArray↔i∈up bs L:=by
  subst hL
  unfold up
  rw [mem_ready,List.mem_filter,List.mem_range]
  have hl:(look ops)[i]? = (ops[i]?).map line:=by unfold look; simp
  rw [hl]
  constructor
  · rintro ⟨h1,o,ho,he⟩
    refine ⟨by unfold look; simpa using (Array.getElem?_eq_some_iff.1 ho).1,?_⟩
    rw [ho]
    simp only [Option.map_some,Option.elim_some,Bool.and_eq_true,Bool.not_eq_true',List.all_eq_true]
    refine ⟨by simpa [Array.getD_eq_getD_getElem?] using h1,fun p hp=> ?_⟩
    simp only [line,FP,List.mem_filterMap] at hp
    obtain ⟨e,hm,h⟩:=hp
    by_cases hb:Region.binds .any e=true
    · rw [if_pos hb] at h
      injection h with h
      subst h
      have:=he e (by simpa using hm) hb
      simpa [Array.getD_eq_getD_getElem?] using this
    · rw [if_neg hb] at h; cases h
  · rintro ⟨_,h⟩
    cases ho:ops[i]? with
    | none=>rw [ho] at h; simp at h
    | some o =>
      rw [ho] at h
      simp only [Option.map_some,Option.elim_some,Bool.and_eq_true,Bool.not_eq_true',List.all_eq_true] at h
      refine ⟨by simpa [Array.getD_eq_getD_getElem?] using h.1,o,rfl,fun e he hb=> ?_⟩
      have:=h.2 e.on (by
        simp only [line,FP,List.mem_filterMap]
        exact ⟨e,by simpa using he,by rw [if_pos hb]⟩)
      simpa [Array.getD_eq_getD_getElem?] using this
def Au (L:List Line) (x:Line):List Tmp :=
  (x.2.1.operands.toList.filterMap fun | .tmp t=>some t | _=>none) ++
  (match x.2.2.1 with
   | some (g,_)=>((L[g]?).bind (·.1)).toList
   | none=>[])
def GY (L:List Line) (x y:Line):Bool :=
  (match x.1 with
   | some d=> !(Au L y).contains d && y.1 != some d
   | none=>true) &&
  (match y.1 with
   | some d=> !(Au L x).contains d
   | none=>true)
def MC (bs:List Bool) (L:List Line) (i:Nat):Bool :=
  match L[i]? with
  | none=>false
  | some x=>(List.range L.length).all fun j=>j == i || bs.getD j true || match L[j]? with
      | some y=>y.2.2.2.contains i || GY L x y
      | none=>true
theorem Av (hL:look ops=L) (o:Oper):o.looksAt ops=Au L (line o):=by
  subst hL
  unfold Oper.looksAt Au line
  simp only
  congr 1
  cases o.guard with
  | none=>rfl
  | some p =>
    obtain ⟨g,b⟩:=p
    simp only
    have hl:(look ops)[g]? = (ops[g]?).map line:=by unfold look; simp
    rw [hl]
    cases ops[g]? with
    | none=>rfl
    | some o'=>rfl
theorem ME (hL:look ops=L) (x y:Oper):x.apart ops y=GY L (line x) (line y):=by
  unfold Oper.apart GY
  rw [Av hL,Av hL]
  rfl
theorem yI (hL:look ops=L) (bs:List Bool) (i:Nat) (h:MC bs L i=true):Region.free .any ops bs.toArray i=true:=by
  unfold MC at h
  unfold Region.free
  have hl:∀j:Nat,L[j]? = (ops[j]?).map line:=fun j=>by subst hL; unfold look; simp
  have hsz:L.length=ops.size:=by subst hL; unfold look; simp
  cases ho:ops[i]? with
  | none=>rw [hl,ho] at h; simp at h
  | some oi =>
    rw [hl,ho] at h
    simp only [Option.map_some,List.all_eq_true] at h ⊢
    intro j hj
    have hj2:=h j (by rw [hsz]; exact hj)
    simp only [Bool.or_eq_true] at hj2 ⊢
    rcases hj2 with (h1 | h1) | h1
    · exact .inl (.inl h1)
    · exact .inl (.inr (by simpa [Array.getD_eq_getD_getElem?] using h1))
    · right
      rw [hl] at h1
      cases hoj:ops[j]? with
      | none=>rfl
      | some oj =>
        rw [hoj] at h1
        simp only [Option.map_some,Bool.or_eq_true] at h1 ⊢
        rcases h1 with h1 | h1
        · left
          simp only [line,FP,List.contains_iff_mem,List.mem_filterMap] at h1
          obtain ⟨e,he,h2⟩:=h1
          rw [Array.any_eq_true']
          by_cases hb:Region.binds .any e=true
          · rw [if_pos hb] at h2
            injection h2 with h2
            exact ⟨e,by simpa using he,by simp [hb,h2]⟩
          · rw [if_neg hb] at h2; cases h2
        · right
          rw [ME hL]; exact h1
structure eT (ops:Array Oper) (L:List Line):Prop where
  look:look ops=L
  noSelect:Region.noSelect ops=true
theorem cB (hL:look ops=L) {k:Nat} {d:Option Tmp} {op:Op} {g:Option (Nat×Bool)} {m:List Nat} (h:L[k]? = some (d,op,g,m)):∃o,ops[k]? = some o∧o.dst=d∧o.op=op∧o.guard=g:=by
  subst hL
  unfold look at h
  simp only [List.getElem?_map,Option.map_eq_some_iff,Array.getElem?_toList,line,Prod.mk.injEq] at h
  obtain ⟨o,ho,h1,h2,h3,_⟩:=h
  exact ⟨o,ho,h1,h2,h3⟩
theorem eT.opened (R:eT ops L) {a:Act} {j t:Nat} {b:Bool} {op:Op} {g:Option (Nat×Bool)} {m:List Nat} (h:L[j]? = some (some t,op,g,m)) (hat:Chain.At a t (.bool b)):Chain.Open ops a (some (j,b)):=by
  obtain ⟨o,ho,h1,_,_⟩:=cB R.look h
  exact ⟨t,by rw [ho]; exact h1,hat⟩
def Shut (ops:Array Oper) (a:Act):Option (Nat×Bool)→Prop
  | none=>False
  | some (j,b)=>∃t v,((ops[j]?).bind (·.dst))=some t∧Chain.At a t v∧v≠.bool b
theorem Shut.wanted {a:Act} {o:Oper} (h:Shut ops a o.guard):Region.wanted o (yielded ops a.tmps)=false:=by
  unfold Region.wanted
  cases hg:o.guard with
  | none=>rw [hg] at h; exact h.elim
  | some p =>
    obtain ⟨j,b⟩:=p
    rw [hg] at h
    obtain ⟨t,v,ht,hat,hv⟩:=h
    simp only
    cases hy:yielded ops a.tmps j with
    | none=>rfl
    | some c =>
      unfold yielded at hy
      rw [ht] at hy
      unfold Chain.At at hat
      simp only [Option.bind_some,hat] at hy
      split at hy
      · rename_i b' e
        injection e with e
        injection hy with hy
        subst e hy
        cases hc:(some b' == some b)
        · rfl
        · exact absurd (by simp at hc; rw [hc]) hv
      · cases hy
theorem eT.shut (R:eT ops L) {a:Act} {j t:Nat} {b:Bool} {v:Value} {op:Op} {g:Option (Nat×Bool)} {m:List Nat} (h:L[j]? = some (some t,op,g,m)) (hat:Chain.At a t v) (hv:v≠.bool b):Shut ops a (some (j,b)):=by
  obtain ⟨o,ho,h1,_,_⟩:=cB R.look h
  exact ⟨t,v,by rw [ho]; exact h1,hat,hv⟩
theorem Ws {b c:Bool} (h:(b == c)=false):(Value.bool b)≠.bool c:=fun e=>by injection e with e; subst e; simp at h
def upto (k n:Nat):List Bool:=List.replicate k true++List.replicate (n - k) false
def Eb (bs:List Bool) (L:List Line) (k:Nat) (bs':List Bool):Bool:=(up bs L).contains k && MC bs L k && bs.set k true == bs'
def okF (bs:List Bool) (L:List Line) (k:Nat) (bs':List Bool):Bool:=up bs L == [k] && bs.set k true == bs'
theorem forced {bs bs':List Bool} {i fuel:Nat} {a:Act} {w:World} (R:eT ops L) (hok:okF bs L i bs'=true) (h:wpOp P ops Q i (fun a' w'=>S w'∧wpAnyH P .any ops Q S fuel bs'.toArray a' w') a w):wpAnyH P .any ops Q S (fuel+1) bs.toArray a w:=by
  simp only [okF,Bool.and_eq_true,beq_iff_eq] at hok
  obtain ⟨hr,hb⟩:=hok
  subst hb
  refine ⟨fun h0=> ?_,fun j hj=> ?_⟩
  · have:=(iB R.look bs i).2 (by rw [hr]; simp)
    rw [h0] at this
    cases this
  · have hj':=(iB R.look bs j).1 hj
    rw [hr] at hj'
    obtain rfl:j=i:=by simpa using hj'
    rw [List.setIfInBounds_toArray]
    exact h
theorem take {bs bs':List Bool} {k fuel d:Nat} {m:List Nat} {op:Op} {g:Option (Nat×Bool)} {v:Value} {a:Act} {w:World} (R:eT ops L) (hs:L[k]? = some (some d,op,g,m)) (hok:Eb bs L k bs'=true) (hQ:∀c a w d v,Q (.panic c) (Act.put a (some d) v) w→Q (.panic c) a w)
    (hg:Chain.Open ops a g) (hS:S w) (hv:∀w ty,S w→(execOp a.eval ⟨some d,op,ty, "",#[],none⟩).run P w=.ok (.value v) w) (hd:d<a.tmps.size)
    (h:∀a',Chain.Next a a' d v→wpAnyH P .any ops Q S fuel bs'.toArray a' w):wpAnyH P .any ops Q S (fuel+1) bs.toArray a w:=by
  simp only [Eb,Bool.and_eq_true,beq_iff_eq] at hok
  obtain ⟨⟨hr,hf⟩,hb⟩:=hok
  subst hb
  obtain ⟨o,ho,e1,e2,e3⟩:=cB R.look hs
  subst e2 e3
  have hr':(Region.ready .any ops bs.toArray).contains k=true:=by
    have:=(iB R.look bs k).2 (by simpa using hr)
    simpa using this
  refine wpAnyH_take (oi:=o) (v:=v) ho R.noSelect (yI R.look bs k hf) hr' (fun c a w=>by rw [e1]; exact hQ c a w d v) (.inl ⟨hg.wanted,fun w hw=> ?_⟩) hS ?_
  · rw [dO,e1]; exact hv w _ hw
  · rw [List.setIfInBounds_toArray,e1]; exact h _ (next hd v)
theorem skip {bs bs':List Bool} {k fuel d:Nat} {m:List Nat} {op:Op} {g:Option (Nat×Bool)} {a:Act} {w:World} (R:eT ops L) (hs:L[k]? = some (some d,op,g,m)) (hok:Eb bs L k bs'=true) (hQ:∀c a w d v,Q (.panic c) (Act.put a (some d) v) w→Q (.panic c) a w)
    (hg:Shut ops a g) (hS:S w) (hd:d<a.tmps.size)
    (h:∀a',Chain.Next a a' d undef→wpAnyH P .any ops Q S fuel bs'.toArray a' w):wpAnyH P .any ops Q S (fuel+1) bs.toArray a w:=by
  simp only [Eb,Bool.and_eq_true,beq_iff_eq] at hok
  obtain ⟨⟨hr,hf⟩,hb⟩:=hok
  subst hb
  obtain ⟨o,ho,e1,e2,e3⟩:=cB R.look hs
  subst e2 e3
  have hr':(Region.ready .any ops bs.toArray).contains k=true:=by
    have:=(iB R.look bs k).2 (by simpa using hr)
    simpa using this
  refine wpAnyH_take (oi:=o) (v:=undef) ho R.noSelect (yI R.look bs k hf) hr' (fun c a w=>by rw [e1]; exact hQ c a w d undef) (.inr ⟨hg.wanted,rfl⟩) hS ?_
  rw [List.setIfInBounds_toArray,e1]; exact h _ (next hd undef)
theorem value {bs bs':List Bool} {k fuel d:Nat} {m:List Nat} {op:Op} {g:Option (Nat×Bool)} {v:Value} {a:Act} {w w1:World} (R:eT ops L) (hs:L[k]? = some (some d,op,g,m)) (hok:okF bs L k bs'=true)
    (hg:Chain.Open ops a g) (hS:S w1) (hv:∀ty,(execOp a.eval ⟨some d,op,ty, "",#[],none⟩).run P w=.ok (.value v) w1) (hd:d<a.tmps.size)
    (h:∀a',Chain.Next a a' d v→wpAnyH P .any ops Q S fuel bs'.toArray a' w1):wpAnyH P .any ops Q S (fuel+1) bs.toArray a w:=by
  obtain ⟨o,ho,e1,e2,e3⟩:=cB R.look hs
  subst e2 e3
  refine forced R hok (wpOp_step ho fun K hK=> ?_)
  rw [if_pos hg.wanted]
  unfold Oper.wp
  rw [dO,e1,hv]
  simp only [Oper.upon,e1]
  exact hK _ _ ⟨hS,h _ (next hd v)⟩
theorem call {bs bs':List Bool} {k fuel d f:Nat} {m:List Nat} {xs:Array Operand} {ts:Array TypeId} {args:Array Value} {g:Option (Nat×Bool)} {a:Act} {w:World} {Post:Ending→World→Prop} (R:eT ops L)
    (hs:L[k]? = some (some d,.call { callee:=.value (.func f),args:=xs,argTypes:=ts },g,m)) (hok:okF bs L k bs'=true)
    (hg:Chain.Open ops a g) (ha:xs.map a.eval=args) (hf:enters P f=true) (hc:Calls P f args w Post) (hd:d<a.tmps.size)
    (h:∀e w',Post e w'→∃v,e=.returned v∧S w'∧∀a',Chain.Next a a' d v→wpAnyH P .any ops Q S fuel bs'.toArray a' w'):wpAnyH P .any ops Q S (fuel+1) bs.toArray a w:=by
  obtain ⟨o,ho,e1,e2,e3⟩:=cB R.look hs
  subst e3
  refine forced R hok (wpOp_step ho fun K hK=> ?_)
  rw [if_pos hg.wanted]
  unfold Oper.wp
  have he:(execOp a.eval o).run P w=.ok (.enter f args) w:=by
    rw [dO,e1,e2]
    subst ha
    simp [execOp,resolve,invoke,Act.eval,Deferred.ofValue,oK hf]
  rw [he,Oper.upon_enter]
  refine hc.mono fun e w' hp=> ?_
  obtain ⟨v,rfl,hS,hw⟩:=h e w' hp
  rw [e1]
  exact hK _ _ ⟨hS,hw _ (next hd v)⟩
theorem append {bs bs':List Bool} {k fuel d:Nat} {l:List Nat} {g:Option (Nat×Bool)} {a:Act} {w:World} (R:eT ops L) (s x:Operand) (t:TypeId)
    (hsl:L[k]? = some (some d,.call { callee:=.builtin .append,args:= #[s,x],argTypes:= #[t,t] },g,l)) (hok:okF bs L k bs'=true) (hg:Chain.Open ops a g) (hd:d<a.tmps.size)
    (base:Nat) (e:TypeId) (i:TypeInfo) (z:Value) (size bytes:Nat) (ht:P.underlying t=some (.slice e)) (hi:P.info? e=some i) (hz:i.zero=some z)
    (hsize:i.size=size) (hby:i.bytes=bytes) (hzs:z.cells.size=size) (hsz:0<size) (v:Value) (n:Nat) (xs:List Value) (hs:a.eval s=v) (hown:w.ownsRow base e size v n xs)
    (A:Option Addr) (m c:Nat) (news:List Value) (hx:a.eval x=.slice A m c) (B:Nat) (hq:Sq w B size m A news) (h1:∀u∈news,u.oneCell'=true) (h63:n+m≤maxLen) (hbytes:(n+m)*bytes≤140737488355328) (hbase:base≤w.heap.size)
    (h:∀A' c' w',w'.ownsRow base e size (.slice A' (n+m) c') (n+m) (xs++news)→w.grownBy w' v.ownBlock→((Value.slice A' (n+m) c').ownBlock=v.ownBlock∨(Value.slice A' (n+m) c').ownBlock=some w.heap.size)→S w'∧∀a',Chain.Next a a' d (.slice A' (n+m) c')→wpAnyH P .any ops Q S fuel bs'.toArray a' w'):wpAnyH P .any ops Q S (fuel+1) bs.toArray a w:=by
  obtain ⟨o,ho,e1,e2,e3⟩:=cB R.look hsl
  subst e3
  refine forced R hok (wpOp_step ho fun K hK=> ?_)
  rw [if_pos hg.wanted]
  obtain ⟨A',c',w',hrun,h2,h3,h4⟩:=CG (P:=P) w t o.type base e i z size bytes ht hi hz hsize hby hzs hsz v n xs hown A m c news B hq h1 h63 hbytes hbase
  unfold Oper.wp execOp
  simp only [e2,resolve,invoke,builtin,Sem.run_bind,Sem.run_pure,Result.andThen_ok,List.map_toArray,List.map_cons,List.map_nil,hs,hx,hrun]
  simp only [Oper.upon,e1]
  obtain ⟨hS,hw⟩:=h A' c' w' h2 h3 h4
  exact hK _ _ ⟨hS,hw _ (next hd _)⟩
theorem MF {l:List Value} {n:Nat} (h:l.length=n):l=(List.range n).map fun i=>l.getD i undef:=by
  subst h
  apply List.ext_getElem?
  intro i
  by_cases hi:i<l.length
  · simp [hi,List.getD]
  · simp [hi]
theorem Pz {a:Act} {n:Nat} (hz:a.tmps.size=n) (hd:a.defers=[]):a=⟨((List.range n).map fun i=>a.tmps.toList.getD i undef).toArray,[]⟩:=by
  obtain ⟨⟨l⟩,d⟩:=a
  simp only at hd hz
  subst hd
  congr 1
  exact congrArg List.toArray (MF (by simpa using hz))
theorem bF {a:Act} {t:Nat} {v:Value} (h:Chain.At a t v):a.tmps.toList.getD t undef=v:=by
  unfold Chain.At at h
  rw [List.getD,Array.getElem?_toList,h]
  rfl
theorem JK {ρ:Operand→Value} {d:Option Tmp} {ty:TypeId} {w:World} {c x y:Operand} {v:Value} (hc:ρ c=.bool true) (h:ρ x=v):(execOp ρ ⟨d,.pick c x y,ty, "",#[],none⟩).run P w=.ok (.value v) w:=by simp [execOp,h,hc,asBool]
theorem MJ {ρ:Operand→Value} {d:Option Tmp} {ty:TypeId} {w:World} {c x y:Operand} {v:Value} (hc:ρ c=.bool false) (h:ρ y=v):(execOp ρ ⟨d,.pick c x y,ty, "",#[],none⟩).run P w=.ok (.value v) w:=by simp [execOp,h,hc,asBool]
theorem finish {bs:List Bool} {fuel:Nat} {a:Act} {w:World} (R:eT ops L) (hr:up bs L=[]) (h:Q .normal a w):wpAnyH P .any ops Q S fuel bs.toArray a w:=by
  refine wpAnyH_done (List.eq_nil_iff_forall_not_mem.2 fun i hi=> ?_) h fuel
  have:=(iB R.look bs i).1 hi
  rw [hr] at this
  cases this
theorem start {n id:Nat} {a:Act} {w:World} (hn:ops.size=n) (hm:P.follows .mixedOrders=true) (hS:S w.drew) (h:wpAnyH P .any ops Q S n (List.replicate n false).toArray a w.drew):(Code.region id ops true).wp P Q a w:=by
  refine wp_region_held_drew (S:=S) hm hS fun _=> ?_
  rw [hn]
  simpa using h
end
end Ord
end Go.Proofs.YteemnmalikomgaaGreatDoor
namespace Go.Proofs.YteemnmalikomgaaGreatDoor.Ord
open Go.ChangeShapes Go.WideShapes Go.ChangeAt Go.RowKit
section
variable {P:Program} {ops:Array Oper} {L:List Line} {Q:Exit→Act→World→Prop} {S:World→Prop}
theorem effect {bs bs':List Bool} {k fuel:Nat} {m:List Nat} {op:Op} {g:Option (Nat×Bool)} {a:Act} {w w1:World} (R:eT ops L) (hs:L[k]? = some (none,op,g,m)) (hok:okF bs L k bs'=true)
  (hg:Chain.Open ops a g) (hS:S w1) (hv:∀ty,(execOp a.eval ⟨none,op,ty, "",#[],none⟩).run P w=.ok .skip w1)
  (h:wpAnyH P .any ops Q S fuel bs'.toArray a w1):wpAnyH P .any ops Q S (fuel+1) bs.toArray a w:=by
 obtain ⟨o,ho,e1,e2,e3⟩:=cB R.look hs
 subst e2 e3
 refine forced R hok (wpOp_step ho fun K hK=> ?_)
 rw [if_pos hg.wanted]
 unfold Oper.wp
 rw [Chain.dO,e1,hv]
 simp only [Oper.upon,e1]
 exact hK _ _ ⟨hS,h⟩
def Step (P:Program) (ops:Array Oper) (Q:Exit→Act→World→Prop) (S:World→Prop) (fuel k:Nat) (bs':List Bool) (a:Act) (w:World):Prop:=wpOp P ops Q k (fun a' w'=>S w'∧wpAnyH P .any ops Q S fuel bs'.toArray a' w') a w
theorem either {bs bs1 bs2:List Bool} {i j fuel:Nat} {a:Act} {w:World} (R:eT ops L) (hr:(up bs L == [i,j] && bs.set i true == bs1 && bs.set j true == bs2)=true) (h1:Step P ops Q S fuel i bs1 a w) (h2:Step P ops Q S fuel j bs2 a w):wpAnyH P .any ops Q S (fuel+1) bs.toArray a w:=by
 simp only [Bool.and_eq_true,beq_iff_eq] at hr
 obtain ⟨⟨hr,hb1⟩,hb2⟩:=hr
 subst hb1 hb2
 refine ⟨fun h0=> ?_,fun t ht=> ?_⟩
 ·have:=(iB R.look bs i).2 (by rw [hr]; simp)
  rw [h0] at this
  cases this
 ·have ht':=(iB R.look bs t).1 ht
  rw [hr] at ht'
  have ht2:t=i∨t=j:=by simpa using ht'
  rw [List.setIfInBounds_toArray]
  rcases ht2 with rfl | rfl
  ·exact h1
  ·exact h2
theorem iC {bs':List Bool} {k fuel d:Nat} {m:List Nat} {op:Op} {g:Option (Nat×Bool)} {v:Value} {a:Act} {w w1:World} (R:eT ops L) (hs:L[k]? = some (some d,op,g,m))
  (hg:Chain.Open ops a g) (hS:S w1) (hv:∀ty,(execOp a.eval ⟨some d,op,ty, "",#[],none⟩).run P w=.ok (.value v) w1) (hd:d<a.tmps.size)
  (h:∀a',Chain.Next a a' d v→wpAnyH P .any ops Q S fuel bs'.toArray a' w1):Step P ops Q S fuel k bs' a w:=by
 obtain ⟨o,ho,e1,e2,e3⟩:=cB R.look hs
 subst e2 e3
 refine wpOp_step ho fun K hK=> ?_
 rw [if_pos hg.wanted]
 unfold Oper.wp
 rw [Chain.dO,e1,hv]
 simp only [Oper.upon,e1]
 exact hK _ _ ⟨hS,h _ (Chain.next hd v)⟩
theorem Ec {bs':List Bool} {k fuel d f:Nat} {m:List Nat} {xs:Array Operand} {ts:Array TypeId} {args:Array Value} {g:Option (Nat×Bool)} {a:Act} {w:World} {Post:Ending→World→Prop} (R:eT ops L)
  (hs:L[k]? = some (some d,.call { callee:=.value (.func f),args:=xs,argTypes:=ts },g,m))
  (hg:Chain.Open ops a g) (ha:xs.map a.eval=args) (hf:Chain.enters P f=true) (hc:Calls P f args w Post) (hd:d<a.tmps.size)
  (h:∀e w',Post e w'→∃v,e=.returned v∧S w'∧∀a',Chain.Next a a' d v→wpAnyH P .any ops Q S fuel bs'.toArray a' w'):Step P ops Q S fuel k bs' a w:=by
 obtain ⟨o,ho,e1,e2,e3⟩:=cB R.look hs
 subst e3
 refine wpOp_step ho fun K hK=> ?_
 rw [if_pos hg.wanted]
 unfold Oper.wp
 have he:(execOp a.eval o).run P w=.ok (.enter f args) w:=by
  rw [Chain.dO,e1,e2]
  subst ha
  simp [execOp,resolve,invoke,Act.eval,Deferred.ofValue,Chain.oK hf]
 rw [he,Oper.upon_enter]
 refine hc.mono fun e w' hp=> ?_
 obtain ⟨v,rfl,hS,hw⟩:=h e w' hp
 rw [e1]
 exact hK _ _ ⟨hS,hw _ (Chain.next hd v)⟩
end
end Go.Proofs.YteemnmalikomgaaGreatDoor.Ord
namespace Go.Proofs.YteemnmalikomgaaGreatDoor.Ord
open Go.ChangeShapes Go.WideShapes Go.ChangeAt Go.RowKit
section
variable {P:Program} {ops:Array Oper} {S:World→Prop}
def mU (o:Oper):Bool:=match o.op with | .defer _=>false | _=>true
theorem XC {Q:Exit→Act→World→Prop} {o:Oper} {a:Act} {w:World} {K:Act→World→Prop} (l k:Nat) (hd:mU o=true) (h:o.wp P a w K Q):o.wpIn (Fence.wide.inRound l) k P a w K Q:=by
 have hd':∀c,o.op≠.defer c:=fun c e=>by unfold mU at hd; rw [e] at hd; cases hd
 refine ⟨fun f _=>trivial,?_⟩
 rw [Oper.semAt_eq _ _ _ hd']
 unfold Oper.wp at h
 generalize (execOp a.eval o).run P w=r at h
 cases r with
 | ok nx w' =>
  cases nx with
  | value v=>exact h
  | skip=>exact h
  | defer d=>exact h
  | enter f args=>exact ⟨fun e=>(by cases e),CallsIn.inRound l (callsIn_wide.2 h)⟩
  | row r args=>exact ⟨fun e=>(by cases e),fun c cs _=>let ⟨v,w2,q,s⟩:=h c cs; ⟨v,w2,q,(stepsIn_wide (P:=P)).2 s⟩⟩
  | round _ _ _ _ _=>exact h.elim
  | _=>exact h.elim
 | halt x w' =>
  cases x with
  | panic v=>exact h
  | _=>exact h.elim
theorem Vi {F:Fence} {n:Nat} {R:Act→World→Prop} {Q:Exit→Act→World→Prop} {o:Oper} {a:Act} {w:World} {K:Act→World→Prop} (hh:o.wpIn F n P a w K (fun e a w=>e=.normal∧R a w)):o.wpIn F n P a w K Q:=by
 unfold Oper.wpIn at *
 refine ⟨hh.1,?_⟩
 have hh:=hh.2
 generalize (o.semAt F.round a.eval).run P w=r at *
 cases r with
 | ok x w' =>
  cases x<;>simp only [Oper.uponIn] at hh ⊢ <;>
   first
    | exact hh
    | exact ⟨hh.1,CallsIn.mono hh.2 (fun e w'' he=>by cases e<;>first | exact he | (cases he.1) | (obtain ⟨_,_,h0,_⟩:=he; cases h0))⟩
    | exact ⟨hh.1,RoundIn.mono hh.2 (fun e w'' he=>by cases e<;>first | exact he | (cases he.1) | (obtain ⟨_,_,h0,_⟩:=he; cases h0))⟩
 | halt x w'=>cases x<;>simp only [Oper.uponIn] at hh ⊢ <;> first | exact hh | cases hh.1
theorem wW {l k:Nat} {R:Act→World→Prop} {Q:Exit→Act→World→Prop} (hp:∀o∈ops,mU o=true) (hQ:∀a w,R a w→Q .normal a w) :
  ∀(fuel:Nat) (listed:Array Bool) (a:Act) (w:World),wpAny P .any ops (fun e a w=>e=.normal∧R a w) fuel listed a w→wpAnyIn (Fence.wide.inRound l) k P .any ops Q fuel listed a w
 | 0,_,_,_,h=>⟨h.1,hQ _ _ h.2.2⟩
 | fuel+1,listed,a,w,h=>⟨fun hr=>hQ _ _ (h.1 hr).2,fun i hi=>by
  have hs:=h.2 i hi
  unfold wpOp at hs
  unfold wpOpIn
  cases ho:ops[i]? with
  | none =>
   rw [ho] at hs
   exact wW hp hQ fuel _ a w hs
  | some o =>
   rw [ho] at hs
   simp only at hs ⊢
   have hm:=hp o (Array.mem_of_getElem? ho)
   split
   ·rename_i hw
    rw [if_pos hw] at hs
    rcases hs with hs | ⟨_,_,_,hx,_⟩
    ·exact Vi (XC l k hm (Oper.wp_mono (fun a w h=>wW hp hQ fuel _ a w h) hs))
    ·cases hx
   ·rename_i hw
    rw [if_neg hw] at hs
    exact ⟨fun _ _=>trivial,wW hp hQ fuel _ _ w hs⟩⟩
theorem GZ {n id l k:Nat} {a:Act} {w:World} {R:Act→World→Prop} {Q:Exit→Act→World→Prop} (hn:ops.size=n) (hm:P.follows .mixedOrders=true) (hp:(ops.toList.all mU)=true)
  (h:wpAnyH P .any ops (fun e a w=>e=.normal∧R a w) S n (List.replicate n false).toArray a w.drew) (hQ:∀a w,R a w→Q .normal a w):(Code.region id ops true).wpIn (Fence.wide.inRound l) k P Q a w:=by
 refine wpIn_region_any hm ?_
 rw [hn]
 have:=wW (l:=l) (k:=k) (fun o ho=>List.all_eq_true.1 hp o (by simpa using ho)) hQ _ _ _ _ (wpAny_of_held _ _ _ _ h)
 simpa using this
theorem Vj {R:Act→World→Prop}:∀(c:List PanicEntry) (a:Act) (w:World) (d:Nat) (v:Value),(fun (e:Exit) a w=>e=.normal∧R a w) (.panic c) (Act.put a (some d) v) w→(fun (e:Exit) a w=>e=.normal∧R a w) (.panic c) a w:=fun _ _ _ _ _ h=>by cases h.1
/-! A region inside a fence that lets all be called: its operations, one behind the other, where one of them hands a value to the round of a range over a function. -/
section
variable {L:List Line} {Q:Exit→Act→World→Prop} {m:Nat}
abbrev jJ (P:Program) (ops:Array Oper) (Q:Exit→Act→World→Prop) (m fuel:Nat) (bs:List Bool) (a:Act) (w:World):Prop:=wpAnyIn Fence.wide m P .any ops Q fuel bs.toArray a w
abbrev nI (P:Program) (ops:Array Oper) (Q:Exit→Act→World→Prop) (m fuel k:Nat) (bs':List Bool) (a:Act) (w:World):Prop:=wpOpIn Fence.wide m P ops Q k (wpAnyIn Fence.wide m P .any ops Q fuel bs'.toArray) a w
theorem dZ {bs bs':List Bool} {i fuel:Nat} {a:Act} {w:World} (R:eT ops L) (hok:okF bs L i bs'=true) (h:nI P ops Q m fuel i bs' a w):jJ P ops Q m (fuel+1) bs a w:=by
 simp only [okF,Bool.and_eq_true,beq_iff_eq] at hok
 obtain ⟨hr,hb⟩:=hok
 subst hb
 refine ⟨fun h0=> ?_,fun j hj=> ?_⟩
 ·have:=(iB R.look bs i).2 (by rw [hr]; simp)
  rw [h0] at this
  cases this
 ·have hj':=(iB R.look bs j).1 hj
  rw [hr] at hj'
  obtain rfl:=List.mem_singleton.1 hj'
  rw [List.setIfInBounds_toArray]
  exact h
theorem CJ {bs bs1 bs2:List Bool} {i j fuel:Nat} {a:Act} {w:World} (R:eT ops L) (hr:(up bs L == [i,j] && bs.set i true == bs1 && bs.set j true == bs2)=true) (h1:nI P ops Q m fuel i bs1 a w) (h2:nI P ops Q m fuel j bs2 a w):jJ P ops Q m (fuel+1) bs a w:=by
 simp only [Bool.and_eq_true,beq_iff_eq] at hr
 obtain ⟨⟨hr,hb1⟩,hb2⟩:=hr
 subst hb1 hb2
 refine ⟨fun h0=> ?_,fun k hk=> ?_⟩
 ·have:=(iB R.look bs i).2 (by rw [hr]; simp)
  rw [h0] at this
  cases this
 ·have hk':=(iB R.look bs k).1 hk
  rw [hr] at hk'
  rw [List.setIfInBounds_toArray]
  rcases List.mem_cons.1 hk' with rfl | hk'
  ·exact h1
  ·obtain rfl:=List.mem_singleton.1 hk'
   exact h2
theorem MN {bs':List Bool} {k fuel:Nat} {a:Act} {w:World} {o:Oper} (ho:ops[k]? = some o) (hw:Region.wanted o (yielded ops a.tmps)=true) (h:o.wpIn Fence.wide m P a w (wpAnyIn Fence.wide m P .any ops Q fuel bs'.toArray) Q):nI P ops Q m fuel k bs' a w:=by
 unfold nI wpOpIn
 rw [ho]
 simp only
 rw [if_pos hw]
 exact h
theorem bM {bs':List Bool} {k fuel d:Nat} {n:List Nat} {op:Op} {g:Option (Nat×Bool)} {v:Value} {a:Act} {w w1:World} (R:eT ops L) (hs:L[k]? = some (some d,op,g,n))
  (hg:Chain.Open ops a g) (hv:∀ty,(execOp a.eval ⟨some d,op,ty, "",#[],none⟩).run P w=.ok (.value v) w1) (hd:d<a.tmps.size)
  (h:∀a',Chain.Next a a' d v→jJ P ops Q m fuel bs' a' w1) (hn:∀c,op≠.defer c:=by simp):nI P ops Q m fuel k bs' a w:=by
 obtain ⟨o,ho,e1,e2,e3⟩:=cB R.look hs
 subst e2 e3
 refine MN ho hg.wanted ⟨fun _ _=>trivial,?_⟩
 rw [Oper.semAt_eq _ _ _ hn,Chain.dO,e1,hv]
 simp only [Oper.uponIn,e1]
 exact h _ (Chain.next hd v)
theorem Aw {bs':List Bool} {k fuel d f:Nat} {n:List Nat} {xs:Array Operand} {ts:Array TypeId} {args:Array Value} {g:Option (Nat×Bool)} {a:Act} {w:World} {Post:Ending→World→Prop} (R:eT ops L)
  (hs:L[k]? = some (some d,.call { callee:=.value (.func f),args:=xs,argTypes:=ts },g,n))
  (hg:Chain.Open ops a g) (ha:xs.map a.eval=args) (hf:Chain.enters P f=true) (hc:Calls P f args w Post) (hd:d<a.tmps.size)
  (h:∀e w',Post e w'→∃v,e=.returned v∧∀a',Chain.Next a a' d v→jJ P ops Q m fuel bs' a' w'):nI P ops Q m fuel k bs' a w:=by
 obtain ⟨o,ho,e1,e2,e3⟩:=cB R.look hs
 subst e3
 refine MN ho hg.wanted ⟨fun _ _=>trivial,?_⟩
 rw [Oper.semAt_eq _ _ _ (fun c hc=>by rw [e2] at hc; cases hc)]
 have he:(execOp a.eval o).run P w=.ok (.enter f args) w:=by
  rw [Chain.dO,e1,e2]
  subst ha
  simp [execOp,resolve,invoke,Act.eval,Deferred.ofValue,Chain.oK hf]
 rw [he]
 refine ⟨fun e=>(by cases e),callsIn_wide.2 (hc.mono fun e w' hp=> ?_)⟩
 obtain ⟨v,rfl,hw⟩:=h e w' hp
 simp only [e1]
 exact hw _ (Chain.next hd v)
theorem JM {bs':List Bool} {k fuel d l t:Nat} {n:List Nat} {xs:Array Operand} {ts:Array TypeId} {args:Array Value} {g:Option (Nat×Bool)} {a:Act} {w:World} {Post:Ending→World→Prop} (R:eT ops L)
  (hs:L[k]? = some (some d,.call { callee:=.value (.tmp t),args:=xs,argTypes:=ts },g,n)) (hg:Chain.Open ops a g) (ht:Chain.At a t (.func (.yield l) #[] #[])) (ha:xs.map a.eval=args)
  (hy:YieldAt Fence.wide (m - 1) P l args w Post) (hd:d<a.tmps.size)
  (h:∀e w',Post e w'→∃v,e=.returned v∧∀a',Chain.Next a a' d v→jJ P ops Q m fuel bs' a' w'):nI P ops Q m fuel k bs' a w:=by
 obtain ⟨o,ho,e1,e2,e3⟩:=cB R.look hs
 subst e3
 refine MN ho hg.wanted ⟨fun _ _=>trivial,?_⟩
 rw [Oper.semAt_eq _ _ _ (fun c hc=>by rw [e2] at hc; cases hc)]
 obtain ⟨fn,tmps,assign,body,hy1,hR⟩:=hy
 have et:=ht.ev
 have he:(execOp a.eval o).run P w=.ok (.round l fn tmps assign body) w:=by
  rw [Chain.dO,e1,e2]
  subst ha
  simp [execOp,resolve,invoke,et,Deferred.ofValue,hy1]
 rw [he]
 refine ⟨fun e=>(by cases e),hR.mono fun e w' hp=> ?_⟩
 obtain ⟨v,rfl,hw⟩:=h e w' hp
 simp only [e1]
 exact hw _ (Chain.next hd v)
theorem uL {bs':List Bool} {k fuel d:Nat} {n:List Nat} {op:Op} {g:Option (Nat×Bool)} {a:Act} {w:World} (R:eT ops L) (hs:L[k]? = some (some d,op,g,n)) (hg:Shut ops a g) (hd:d<a.tmps.size)
  (h:∀a',Chain.Next a a' d undef→jJ P ops Q m fuel bs' a' w):nI P ops Q m fuel k bs' a w:=by
 obtain ⟨o,ho,e1,e2,e3⟩:=cB R.look hs
 subst e2 e3
 unfold nI wpOpIn
 rw [ho]
 simp only
 rw [if_neg (by rw [hg.wanted]; simp)]
 rw [e1]
 exact ⟨fun _ _=>trivial,h _ (Chain.next hd undef)⟩
theorem MO {bs bs':List Bool} {k fuel d:Nat} {n:List Nat} {op:Op} {g:Option (Nat×Bool)} {v:Value} {a:Act} {w:World} (R:eT ops L) (hs:L[k]? = some (some d,op,g,n)) (hok:Eb bs L k bs'=true) (hQ:∀c a w d v,Q (.panic c) (Act.put a (some d) v) w→Q (.panic c) a w)
  (hg:Chain.Open ops a g) (hv:∀w ty,(execOp a.eval ⟨some d,op,ty, "",#[],none⟩).run P w=.ok (.value v) w) (hd:d<a.tmps.size)
  (h:∀a',Chain.Next a a' d v→jJ P ops Q m fuel bs' a' w) (hc:∀c,op≠.call c:=by simp):jJ P ops Q m (fuel+1) bs a w:=by
 simp only [Eb,Bool.and_eq_true,beq_iff_eq] at hok
 obtain ⟨⟨hr,hf⟩,hb⟩:=hok
 subst hb
 obtain ⟨o,ho,e1,e2,e3⟩:=cB R.look hs
 subst e2 e3
 have hr':(Region.ready .any ops bs.toArray).contains k=true:=by
  have:=(iB R.look bs k).2 (by simpa using hr)
  simpa using this
 refine wpAnyIn_take (oi:=o) (v:=v) rfl ho R.noSelect (yI R.look bs k hf) hr' (fun c a w=>by rw [e1]; exact hQ c a w d v) ⟨.inl ⟨hg.wanted,fun w=> ?_⟩,fun w=> ?_⟩ ?_
 ·rw [Chain.dO,e1]; exact hv w _
 ·unfold Oper.about
  split
  ·rename_i c hc'
   exact absurd hc' (hc c)
  ·rfl
 ·rw [List.setIfInBounds_toArray,e1]; exact h _ (Chain.next hd v)
theorem Ay {bs bs':List Bool} {k fuel d:Nat} {n:List Nat} {op:Op} {g:Option (Nat×Bool)} {a:Act} {w:World} (R:eT ops L) (hs:L[k]? = some (some d,op,g,n)) (hok:Eb bs L k bs'=true) (hQ:∀c a w d v,Q (.panic c) (Act.put a (some d) v) w→Q (.panic c) a w)
  (hg:Shut ops a g) (hd:d<a.tmps.size) (h:∀a',Chain.Next a a' d undef→jJ P ops Q m fuel bs' a' w) (hc:∀c,op≠.call c:=by simp):jJ P ops Q m (fuel+1) bs a w:=by
 simp only [Eb,Bool.and_eq_true,beq_iff_eq] at hok
 obtain ⟨⟨hr,hf⟩,hb⟩:=hok
 subst hb
 obtain ⟨o,ho,e1,e2,e3⟩:=cB R.look hs
 subst e2 e3
 have hr':(Region.ready .any ops bs.toArray).contains k=true:=by
  have:=(iB R.look bs k).2 (by simpa using hr)
  simpa using this
 refine wpAnyIn_take (oi:=o) (v:=undef) rfl ho R.noSelect (yI R.look bs k hf) hr' (fun c a w=>by rw [e1]; exact hQ c a w d undef) ⟨.inr ⟨hg.wanted,rfl⟩,fun w=> ?_⟩ ?_
 ·unfold Oper.about
  split
  ·rename_i c hc'
   exact absurd hc' (hc c)
  ·rfl
 ·rw [List.setIfInBounds_toArray,e1]; exact h _ (Chain.next hd undef)
theorem KU {bs:List Bool} {fuel:Nat} {a:Act} {w:World} (R:eT ops L) (hr:up bs L=[]) (h:Q .normal a w):jJ P ops Q m fuel bs a w:=by
 refine wpAnyIn_done ?_ h fuel
 rw [List.eq_nil_iff_forall_not_mem]
 intro i hi
 have:=(iB R.look bs i).1 hi
 rw [hr] at this
 cases this
theorem PD {n id:Nat} {a:Act} {w:World} (hn:ops.size=n) (hm:P.follows .mixedOrders=true) (h:jJ P ops Q m n (List.replicate n false) a w.drew):(Code.region id ops true).wpIn Fence.wide m P Q a w:=by
 refine wpIn_region_any hm ?_
 rw [hn]
 unfold jJ at h
 simpa using h
end
end
end Go.Proofs.YteemnmalikomgaaGreatDoor.Ord
namespace Go.Proofs.YteemnmalikomgaaGreatDoor
open Go.RowKit
section
variable {P:Program}
def PE (Rl:World→World→Prop) (P:Program) (g:Nat) (lb:Array Value) (N:Nat) (Fit:Nat→Array Value→World→Prop) (Kp:World→World→Prop) (w:World):Prop :=
 ∀(l:Nat) (J Jx:Nat→World→Prop) (W:World),Laid w W→(∀k A B,J k A→Rl A B→J k B)→(∀k A B,Jx k A→Rl A B→Jx k B) →
  (∀k x W1,k<N→J k W1→Fit k x W1→YieldAt Fence.wide 1 P l x W1 fun e W'=>(e=.returned (.bool true)∧J (k+1) W'∧Kp W1 W')∨(e=.returned (.bool false)∧Jx (k+1) W')) →
  J 0 W→CallsIn Fence.wide 2 P g (#[.func (.yield l) #[] #[]]++lb) W fun e W'=>(∃v,e=.returned v)∧(J N W'∨∃k,k<N∧Jx (k+1) W')
def PG (Rl:World→World→Prop) (p:World→Prop):Prop:=∀A B,p A→Rl A B→p B
theorem Sm {Rl:World→World→Prop} (hRl:∀A B,Laid A B→Rl A B) (hRk:∀(A B:World) (j:Nat) (o:Obj),Rl A B→A.heap[j]? = some o→o.isCells=false→B.heap[j]? = some o) {g:Operand} {ps:Array Tmp} {assign body:Code} {Q:Exit→Act→World→Prop} {a:Act} {w:World} {gf:Nat} {lb:Array Value} {N:Nat} {Fit:Nat→Array Value→World→Prop} {Kp:World→World→Prop}
  (hg:a.eval g=.func (.func gf) #[] lb) (eg:∀args w,(callFunc gf args).run P w=.ok (.enter gf args) w) (hT:PE Rl P gf lb N Fit Kp w)
  (hKt:∀ {A B C:World},Kp A B→Kp B C→Kp A C) (hKa:∀A B:World,w.heap.size≤A.heap.size→Laid A B→Kp A B) (hKb:∀(W:World) (l:Nat) (o o':Obj),w.heap.size≤l→W.heap[l]? = some o→o.isCells=false→Kp W (W.putObj l o'))
  (hps:∀k x W,Fit k x W→x.size=ps.size) (I:Nat→World→Prop) (Ix:Code→Nat→World→Prop)
  (hI:∀k,PG Rl (I k)) (hI':∀k,FQ w.heap.size (I k)) (hIx:∀c k,PG Rl (Ix c k)) (hIx':∀c k,FQ w.heap.size (Ix c k)) (h0:I 0 w)
  (hround:∀(l k:Nat) (x:Array Value) (W:World),k<N→w.heap.size≤l→(∃o:Obj,W.heap[l]? = some o∧o.isCells=false)→I k W→Fit k x W →
   assign.wpIn (Fence.wide.inRound l) 1 P (Exit.then (fun a₁ W₁=>Laid W W₁∧∀o:Obj,body.wpIn (Fence.wide.inRound l) 1 P (G8 w.heap.size Kp I Ix (k+1) (W₁.putObj l o)) a₁ (W₁.putObj l o)) (fun _ _ _=>False))
    {tmps:=(ps.zip x).foldl (fun t (p,v)=>t.setIfInBounds p v) a.tmps,defers:=[] } W)
  (hdone:∀(D:Nat) (W:World),w.heap.size≤D→I N W→W.heap[D]? = some (.deferred (some []))→Q .normal { a with defers:={ target:=.collected D,args:= #[] }::a.defers } W)
  (hstop:∀(D k:Nat) (c:Code) (W:World),w.heap.size≤D→k<N→Ix c (k+1) W→W.heap[D]? = some (.deferred (some []))→c.wp P Q { a with defers:={ target:=.collected D,args:= #[] }::a.defers } W) :
  (Code.rangeFunc g ps assign body).wp P Q a w:=by
 refine (wpIn_wide (n:=3)).1 (wpIn_rangeFunc fun fn hfn=> ?_)
 obtain ⟨S,hS⟩:∃S,w.heap.size=S:=⟨_,rfl⟩
 obtain ⟨rc,hrc⟩:∃rc:LoopState→Option Code→Loop,rc=fun st pe=>{ state:=st,pending:=pe,fn,tmps:=a.tmps,params:=ps,assign,body,defers:=w.heap.size }:=⟨_,rfl⟩
 have hwith:∀(st st':LoopState) (pe pe':Option Code),({ rc st pe with state:=st',pending:=pe' }:Loop)=rc st' pe':=fun _ _ _ _=>by rw [hrc]
 have hbegin:({ rc .ready none with state:=.busy }:Loop)=rc .busy none:=by rw [hrc]
 have hstate:∀st pe,(rc st pe).state=st∧(rc st pe).pending=pe:=fun _ _=>by rw [hrc]; exact ⟨rfl,rfl⟩
 have hend:∀st pe,({ rc st pe with state:=.exhausted }:Loop)=rc .exhausted pe:=fun _ _=>by rw [hrc]
 let At (st:LoopState) (pe:Option Code) (W:World):Prop:=W.heap[S+1]? = some (.loop (rc st pe))∧W.heap[S]? = some (.deferred (some []))
 have hAtG:∀ {st pe A B},At st pe A→Rl A B→At st pe B:=fun h hb=>⟨hRk _ _ _ _ hb h.1 rfl,hRk _ _ _ _ hb h.2 rfl⟩
 have hPut:∀ {st pe W} (st':LoopState) (pe':Option Code),At st pe W→At st' pe' (W.putObj (S+1) (.loop (rc st' pe'))):=fun st' pe' h =>
  ⟨World.putObj_heap_same (Array.getElem?_eq_some_iff.1 h.1).1,(World.putObj_heap_other (by omega)).trans h.2⟩
 have hAtK:∀ {st pe A B},At st pe A→KeepsFrom S A B→At st pe B:=fun h hk=>⟨hk.same _ _ (by omega) h.1 rfl,hk.same _ _ (Nat.le_refl _) h.2 rfl⟩
 obtain ⟨W1,hW1⟩:∃W1,(w.alloc (.deferred (some []))).alloc (.loop (rc .ready none))=W1:=⟨_,rfl⟩
 have hL:Laid w W1:=by rw [←hW1]; exact ((Below.refl _ w).alloc (Nat.le_refl _) _).alloc (by simp) _
 have h1:At .ready none W1:=by
  constructor
  ·rw [←hW1,←hS]
   have:=World.alloc_heap_new (w.alloc (.deferred (some []))) (.loop (rc .ready none))
   rwa [World.size_alloc] at this
  ·rw [←hW1,←hS]
   exact (Below.heap_alloc _ _ _ (by simp)).trans (World.alloc_heap_new w _)
 refine ⟨w.heap.size+1,[{ target:=.collected w.heap.size,args:= #[] }],W1,{ target:=.fn (.func gf) lb,args:= #[.func (.yield (w.heap.size+1)) #[] #[]] },W1,gf,#[.func (.yield (w.heap.size+1)) #[] #[]]++lb,W1,
  by rw [←hW1,hrc]; exact run_enterLoop_outer _ _ _ _ _,by simp only [resolve,hg]; simp [go_sem],fun f' hf'=>trivial,by simp [invoke,go_sem,eg],(fun _=>by decide),?_⟩
 rw [hS] at hKa hKb hI' hIx' hround hdone hstop ⊢
 have big:∀ {st pe W},At st pe W→S≤W.heap.size:=fun h=>by have:=(Array.getElem?_eq_some_iff.1 h.2).1; omega
 refine (hT (S+1) (fun k W=>I k W∧At .ready none W) (fun k W=>∃c,Ix c k W∧At .done (some c) W) W1 hL
  (fun k A B h hb=>⟨hI k A B h.1 hb,hAtG h.2 hb⟩) (fun k A B h hb=>by obtain ⟨c,h1,h2⟩:=h; exact ⟨c,hIx c k A B h1 hb,hAtG h2 hb⟩) ?_ ⟨hI 0 _ _ h0 (hRl _ _ hL),h1⟩).mono ?_
 ·rintro k x W hk ⟨hi,hat⟩ hf
  have hy:=run_yield (P:=P) (args:=x) hat.1 (by rw [hrc]; exact hps k x W hf)
  rw [hrc] at hy
  refine ⟨fn,_,assign,body,hy,roundIn_of_wpIn hfn (wpIn_mono (hround _ k x W hk (by omega) ⟨_,hat.1,rfl⟩ hi hf) ?_)⟩
  rintro e a₁ W2 hp
  cases e with
  | normal=> ?_
  | ret=>exact hp.elim
  | exit id=>exact hp.elim
  | goto t=>exact hp.elim
  | panic _=>exact hp.elim
  | outgrown=>exact hp.elim
  obtain ⟨hL2,hbody⟩:=hp
  have hat2:=hAtG hat (hRl _ _ hL2)
  refine ⟨_,run_beginRound hat2.1 (hstate _ _).1,?_⟩
  rw [hbegin]
  have hat3:At .busy none (W2.putObj (S+1) (.loop (rc .busy none))):=hPut .busy none hat2
  have hK3:Kp W (W2.putObj (S+1) (.loop (rc .busy none))):=hKt (hKa _ _ (big hat) hL2) (hKb _ _ _ _ (by omega) hat2.1 rfl)
  refine wpIn_mono (hbody (.loop (rc .busy none))) ?_
  have fin:∀(jump:Option Code) (W3:World),KeepsFrom S (W2.putObj (S+1) (.loop (rc .busy none))) W3 →
    At .busy none W3∧(Instr.endRound (S+1) jump).run P W3=.ok (.bool jump.isNone) (W3.putObj (S+1) (.loop (rc (if jump.isNone then .ready else .done) jump))):=fun jump W3 hk3=>by
   have h3:=hAtK hat3 hk3
   have:=run_endRound (P:=P) jump h3.1
   rw [hwith] at this
   exact ⟨h3,this⟩
  rintro e a3 W3 hp
  cases e with
  | normal =>
   obtain ⟨hk3,hkp,hi3⟩:=hp
   obtain ⟨h3,hr⟩:=fin none W3 hk3
   exact ⟨_,_,hr,.inl ⟨rfl,⟨hI' _ _ _ _ _ (by omega) h3.1 rfl hi3,hPut .ready none h3⟩,hKt (hKt hK3 hkp) (hKb _ _ _ _ (by omega) h3.1 rfl)⟩⟩
  | ret =>
   obtain ⟨hk3,hi3⟩:=hp
   obtain ⟨h3,hr⟩:=fin (some .ret) W3 hk3
   exact ⟨_,_,hr,.inr ⟨rfl,.ret,hIx' _ _ _ _ _ _ (by omega) h3.1 rfl hi3,hPut .done _ h3⟩⟩
  | exit id =>
   obtain ⟨hk3,hi3⟩:=hp
   obtain ⟨h3,hr⟩:=fin (some (.exit id)) W3 hk3
   exact ⟨_,_,hr,.inr ⟨rfl,.exit id,hIx' _ _ _ _ _ _ (by omega) h3.1 rfl hi3,hPut .done _ h3⟩⟩
  | goto t =>
   obtain ⟨hk3,hi3⟩:=hp
   obtain ⟨h3,hr⟩:=fin (some (.goto t)) W3 hk3
   exact ⟨_,_,hr,.inr ⟨rfl,.goto t,hIx' _ _ _ _ _ _ (by omega) h3.1 rfl hi3,hPut .done _ h3⟩⟩
  | panic _=>exact hp.elim
  | outgrown=>exact hp.elim
 ·have leave:∀ {st pe W2},At st pe W2→st≠.busy→(Instr.endLoop (S+1)).run P W2=.ok pe (W2.putObj (S+1) (.loop (rc .exhausted pe)))∧(W2.putObj (S+1) (.loop (rc .exhausted pe))).heap[S]? = some (.deferred (some [])):=fun {st pe W2} h hb=>by
   have:=run_endLoop (P:=P) h.1 (by rw [(hstate _ _).1]; exact hb)
   rw [hend,(hstate _ _).2] at this
   exact ⟨this,(World.putObj_heap_other (by omega)).trans h.2⟩
  rintro e W2 ⟨⟨v,rfl⟩,⟨hi,hat⟩ | ⟨k,hk,c,hi,hat⟩⟩
  ·obtain ⟨hr,hd⟩:=leave hat (by simp)
   exact ⟨none,_,hr,hdone S _ (Nat.le_refl _) (hI' _ _ _ _ _ (by omega) hat.1 rfl hi) hd⟩
  ·obtain ⟨hr,hd⟩:=leave hat (by simp)
   exact ⟨some c,_,hr,wpIn_wide.2 (hstop S k c _ (Nat.le_refl _) hk (hIx' _ _ _ _ _ _ (by omega) hat.1 rfl hi) hd)⟩
end
end Go.Proofs.YteemnmalikomgaaGreatDoor
namespace Go.Proofs.YteemnmalikomgaaGreatDoor
open Go.ChangeShapes Go.WideShapes Go.ChangeAt Go.RowKit
namespace Cls
theorem Sn {P:Program} {id l k:Nat} {Q:Exit→Act→World→Prop} {a:Act} {w:World} {L:List Oper} {C:World→Prop} (h0:C w.drew) (hm:P.follows .mixedOrders=true) (hp:L.all Ord.mU=true) (hB:Region.lexB .any L.toArray=true)
  (h:wpQuiet P L.toArray C (fun a'=>∀w',C w'→Q .normal a' w') L a):(Code.region id L.toArray true).wpIn (Fence.wide.inRound l) k P Q a w:=by
 simp only [Region.lexB,Bool.and_eq_true] at hB
 refine wpIn_region_any hm ?_
 have hq:=wpAnyQ_lex (P:=P) (C:=C) (md:=.any) hB.1 L 0 (Array.replicate L.toArray.size false) a (by simp) (by simpa using hB.2) h
 have:=Ord.wW (l:=l) (k:=k) (ops:=L.toArray) (R:=fun a' w'=>Q .normal a' w') (fun o ho=>List.all_eq_true.1 hp o (by simpa using ho)) (fun _ _ h=>h) L.toArray.size (Array.replicate L.toArray.size false) a w.drew
  (wpAny_of_quiet (Q:=fun a'=>∀w',C w'→Q .normal a' w') (fun _ w' hw' h=>⟨rfl,h w' hw'⟩) _ _ _ _ h0 (by simpa using hq))
 simpa using this
theorem Vk {P:Program} {id ll k:Nat} {Q:Exit→Act→World→Prop} {a:Act} {w:World} {l:List Oper} (hm:P.follows .mixedOrders=true) (hp:l.all Ord.mU=true) (hB:Region.lexB .any l.toArray=true)
  (h:wpQuiet P l.toArray (fun w'=>∃n,w'=w.drewN n) (fun a'=>∀w',(∃n,w'=w.drewN n)→Q .normal a' w') l a):(Code.region id l.toArray true).wpIn (Fence.wide.inRound ll) k P Q a w:=Sn (C:=fun w'=>∃n,w'=w.drewN n) ⟨1,rfl⟩ hm hp hB h
end Cls
def iM:List (Int×Int):=[(-2147483648,31),(127,159),(768,879),(8203,8207),(65024,65039),(1114112,2147483647),(55296,57343)]
def dM:List (Int×Int):=[(4352,4447),(11904,12350),(12353,13311),(13312,19903),(19968,40959),(40960,42191),(44032,55203),(63744,64255),(65072,65135),(65280,65376),(65504,65510),(127744,128591),(129280,129535),(131072,262141)]
def qQ (i:Nat):Int:=(iM.getD i (0,0)).1
def qR (i:Nat):Int:=(iM.getD i (0,0)).2
def kR (i:Nat):Int:=(dM.getD i (0,0)).1
def kS (i:Nat):Int:=(dM.getD i (0,0)).2
def zeroCells:Array Value:= #[.int .i32 (-2147483648),.int .i32 31,.int .i32 127,.int .i32 159,.int .i32 768,.int .i32 879,.int .i32 8203,.int .i32 8207,.int .i32 65024,.int .i32 65039,.int .i32 1114112,.int .i32 2147483647,.int .i32 55296,.int .i32 57343]
def qU:Array Value:= #[.int .i32 4352,.int .i32 4447,.int .i32 11904,.int .i32 12350,.int .i32 12353,.int .i32 13311,.int .i32 13312,.int .i32 19903,.int .i32 19968,.int .i32 40959,.int .i32 40960,.int .i32 42191,.int .i32 44032,.int .i32 55203,.int .i32 63744,.int .i32 64255,.int .i32 65072,.int .i32 65135,.int .i32 65280,.int .i32 65376,.int .i32 65504,.int .i32 65510,.int .i32 127744,.int .i32 128591,.int .i32 129280,.int .i32 129535,.int .i32 131072,.int .i32 262141]
theorem Sr (r:Int) (i:Nat) (hi:i<7) (h0:qQ i≤r) (h1:r≤qR i):eZ r=0:=by
 unfold eZ
 match i,hi with
 | 0,_=>simp only [qQ,qR,iM,List.getD_cons_zero] at h0 h1; (repeat rw [if_neg (by omega)]); rw [if_pos (by omega)]
 | 1,_=>simp only [qQ,qR,iM,List.getD_cons_zero,List.getD_cons_succ] at h0 h1; (repeat rw [if_neg (by omega)]); rw [if_pos (by omega)]
 | 2,_=>simp only [qQ,qR,iM,List.getD_cons_zero,List.getD_cons_succ] at h0 h1; (repeat rw [if_neg (by omega)]); rw [if_pos (by omega)]
 | 3,_=>simp only [qQ,qR,iM,List.getD_cons_zero,List.getD_cons_succ] at h0 h1; (repeat rw [if_neg (by omega)]); rw [if_pos (by omega)]
 | 4,_=>simp only [qQ,qR,iM,List.getD_cons_zero,List.getD_cons_succ] at h0 h1; (repeat rw [if_neg (by omega)]); rw [if_pos (by omega)]
 | 5,_=>simp only [qQ,qR,iM,List.getD_cons_zero,List.getD_cons_succ] at h0 h1; (repeat rw [if_neg (by omega)]); rw [if_pos (by omega)]
 | 6,_=>simp only [qQ,qR,iM,List.getD_cons_zero,List.getD_cons_succ] at h0 h1; (repeat rw [if_neg (by omega)]); rw [if_pos (by omega)]
 | n+7,h=>omega
theorem Sv (r:Int) (i:Nat) (hi:i<14) (h0:kR i≤r) (h1:r≤kS i):eZ r=2:=by
 unfold eZ
 match i,hi with
 | 0,_=>simp only [kR,kS,dM,List.getD_cons_zero] at h0 h1; (repeat rw [if_neg (by omega)]); rw [if_pos (by omega)]
 | 1,_=>simp only [kR,kS,dM,List.getD_cons_zero,List.getD_cons_succ] at h0 h1; (repeat rw [if_neg (by omega)]); rw [if_pos (by omega)]
 | 2,_=>simp only [kR,kS,dM,List.getD_cons_zero,List.getD_cons_succ] at h0 h1; (repeat rw [if_neg (by omega)]); rw [if_pos (by omega)]
 | 3,_=>simp only [kR,kS,dM,List.getD_cons_zero,List.getD_cons_succ] at h0 h1; (repeat rw [if_neg (by omega)]); rw [if_pos (by omega)]
 | 4,_=>simp only [kR,kS,dM,List.getD_cons_zero,List.getD_cons_succ] at h0 h1; (repeat rw [if_neg (by omega)]); rw [if_pos (by omega)]
 | 5,_=>simp only [kR,kS,dM,List.getD_cons_zero,List.getD_cons_succ] at h0 h1; (repeat rw [if_neg (by omega)]); rw [if_pos (by omega)]
 | 6,_=>simp only [kR,kS,dM,List.getD_cons_zero,List.getD_cons_succ] at h0 h1; (repeat rw [if_neg (by omega)]); rw [if_pos (by omega)]
 | 7,_=>simp only [kR,kS,dM,List.getD_cons_zero,List.getD_cons_succ] at h0 h1; (repeat rw [if_neg (by omega)]); rw [if_pos (by omega)]
 | 8,_=>simp only [kR,kS,dM,List.getD_cons_zero,List.getD_cons_succ] at h0 h1; (repeat rw [if_neg (by omega)]); rw [if_pos (by omega)]
 | 9,_=>simp only [kR,kS,dM,List.getD_cons_zero,List.getD_cons_succ] at h0 h1; (repeat rw [if_neg (by omega)]); rw [if_pos (by omega)]
 | 10,_=>simp only [kR,kS,dM,List.getD_cons_zero,List.getD_cons_succ] at h0 h1; (repeat rw [if_neg (by omega)]); rw [if_pos (by omega)]
 | 11,_=>simp only [kR,kS,dM,List.getD_cons_zero,List.getD_cons_succ] at h0 h1; (repeat rw [if_neg (by omega)]); rw [if_pos (by omega)]
 | 12,_=>simp only [kR,kS,dM,List.getD_cons_zero,List.getD_cons_succ] at h0 h1; (repeat rw [if_neg (by omega)]); rw [if_pos (by omega)]
 | 13,_=>simp only [kR,kS,dM,List.getD_cons_zero,List.getD_cons_succ] at h0 h1; (repeat rw [if_neg (by omega)]); rw [if_pos (by omega)]
 | n+14,h=>omega
theorem Sw (r:Int) (hr0 : -2147483648≤r) (hr1:r≤2147483647) (h:∀i,i<7→¬(qQ i≤r∧r≤qR i)) (k:∀i,i<14→¬(kR i≤r∧r≤kS i)):eZ r=1:=by
 have h0:=h 0 (by omega); have h1:=h 1 (by omega); have h2:=h 2 (by omega); have h3:=h 3 (by omega); have h4:=h 4 (by omega); have h5:=h 5 (by omega); have h6:=h 6 (by omega)
 have k0:=k 0 (by omega); have k1:=k 1 (by omega); have k2:=k 2 (by omega); have k3:=k 3 (by omega); have k4:=k 4 (by omega); have k5:=k 5 (by omega); have k6:=k 6 (by omega); have k7:=k 7 (by omega); have k8:=k 8 (by omega); have k9:=k 9 (by omega); have k10:=k 10 (by omega); have k11:=k 11 (by omega); have k12:=k 12 (by omega); have k13:=k 13 (by omega)
 simp only [qQ,qR,kR,kS,iM,dM,List.getD_cons_zero,List.getD_cons_succ] at h0 h1 h2 h3 h4 h5 h6 k0 k1 k2 k3 k4 k5 k6 k7 k8 k9 k10 k11 k12 k13
 unfold eZ
 repeat rw [if_neg (by omega)]
theorem MP (i:Nat) (hi:i<7):zeroCells[i*2]? = some (.int .i32 (qQ i))∧zeroCells[i*2+1]? = some (.int .i32 (qR i)):=by
 match i,hi with
 | 0,_=>exact ⟨rfl,rfl⟩
 | 1,_=>exact ⟨rfl,rfl⟩
 | 2,_=>exact ⟨rfl,rfl⟩
 | 3,_=>exact ⟨rfl,rfl⟩
 | 4,_=>exact ⟨rfl,rfl⟩
 | 5,_=>exact ⟨rfl,rfl⟩
 | 6,_=>exact ⟨rfl,rfl⟩
 | n+7,h=>omega
theorem MQ (i:Nat) (hi:i<14):qU[i*2]? = some (.int .i32 (kR i))∧qU[i*2+1]? = some (.int .i32 (kS i)):=by
 match i,hi with
 | 0,_=>exact ⟨rfl,rfl⟩
 | 1,_=>exact ⟨rfl,rfl⟩
 | 2,_=>exact ⟨rfl,rfl⟩
 | 3,_=>exact ⟨rfl,rfl⟩
 | 4,_=>exact ⟨rfl,rfl⟩
 | 5,_=>exact ⟨rfl,rfl⟩
 | 6,_=>exact ⟨rfl,rfl⟩
 | 7,_=>exact ⟨rfl,rfl⟩
 | 8,_=>exact ⟨rfl,rfl⟩
 | 9,_=>exact ⟨rfl,rfl⟩
 | 10,_=>exact ⟨rfl,rfl⟩
 | 11,_=>exact ⟨rfl,rfl⟩
 | 12,_=>exact ⟨rfl,rfl⟩
 | 13,_=>exact ⟨rfl,rfl⟩
 | n+14,h=>omega
abbrev jS (w:World):World:=(w.alloc (.cells #[.int .i32 (-2147483648),.int .i32 31,.int .i32 127,.int .i32 159,.int .i32 768,.int .i32 879,.int .i32 8203,.int .i32 8207,.int .i32 65024,.int .i32 65039,.int .i32 1114112,.int .i32 2147483647,.int .i32 55296,.int .i32 57343] 170)).alloc (.cells #[.int .i32 4352,.int .i32 4447,.int .i32 11904,.int .i32 12350,.int .i32 12353,.int .i32 13311,.int .i32 13312,.int .i32 19903,.int .i32 19968,.int .i32 40959,.int .i32 40960,.int .i32 42191,.int .i32 44032,.int .i32 55203,.int .i32 63744,.int .i32 64255,.int .i32 65072,.int .i32 65135,.int .i32 65280,.int .i32 65376,.int .i32 65504,.int .i32 65510,.int .i32 127744,.int .i32 128591,.int .i32 129280,.int .i32 129535,.int .i32 131072,.int .i32 262141] 170)
theorem Sy (w:World) (i:Nat) (hi:i<7):(jS w).cell? ⟨w.heap.size,i*2,none⟩=some (.int .i32 (qQ i))∧(jS w).cell? ⟨w.heap.size,i*2+1,none⟩=some (.int .i32 (qR i)):=by
 have hb:(jS w).heap[w.heap.size]? = some (.cells zeroCells 170 (0,0)):=by
  rw [jS,Below.heap_alloc _ _ _ (by simp)]; exact heap_alloc_new w _
 rw [cell_of_row _ _ _ _ _ (0,0) hb,cell_of_row _ _ _ _ _ (0,0) hb]
 exact MP i hi
theorem Sz (w:World) (i:Nat) (hi:i<14):(jS w).cell? ⟨w.heap.size+1,i*2,none⟩=some (.int .i32 (kR i))∧(jS w).cell? ⟨w.heap.size+1,i*2+1,none⟩=some (.int .i32 (kS i)):=by
 have hb:(jS w).heap[w.heap.size+1]? = some (.cells qU 170 (0,0)):=by
  have h:=heap_alloc_new (w.alloc (.cells zeroCells 170)) (.cells qU 170)
  rw [World.size_alloc] at h
  exact h
 rw [cell_of_row _ _ _ _ _ (0,0) hb,cell_of_row _ _ _ _ _ (0,0) hb]
 exact MQ i hi
theorem Fg (r:Int) (hr0 : -2147483648≤r) (hr1:r≤2147483647) (w:World) :
  Calls Tryz.prog 70 #[.int .i32 r] w fun e w'=>e=.returned (.int .i64 (eZ r))∧Below w.heap.size w w':=by
 have hz:=Sy w
 have hw:=Sz w
 have ZH:=Lib.hid hz
 have WH:=Lib.hid hw
 clear hz hw
 have hbl:Below w.heap.size w (jS w):=((Below.refl _ _).alloc (Nat.le_refl _) _).alloc (by simp) _
 have BL:=Lib.hid hbl
 clear hbl
 go_enter Tryz.func70,Tryz.ntmps70
 go_wp2
 go_loop [5] (fun i=>∃k:Nat,k≤7∧i=.int .i64 k∧(∀j,j<k→¬(qQ j≤r∧r≤qR j))) (fun i=>7 - (intOf i).toNat)
 case atStart=>exact ⟨0,by omega,rfl,fun j h=>by omega⟩
 case round =>
  obtain ⟨k,hk,rfl,hno⟩:=hrel
  by_cases hlt:k<7
  ·obtain ⟨z0,z1⟩:=ZH.out k hlt
   have NO:=Lib.hid hno
   have HIT:=Lib.hid (Sr r k hlt)
   clear hno
   by_cases c1:qQ k≤r
   ·by_cases c2:r≤qR k
    ·go_wp2
     go_ret
     exact ⟨jZ (HIT.out c1 c2).symm,BL.out⟩
    ·go_wp2
     go_round
     case rel=>exact ⟨k+1,by omega,by go_num,fun j h=>(Nat.lt_or_eq_of_le (Nat.le_of_lt_succ h)).elim (NO.out j) (fun e=>by subst e; omega)⟩
     case measure=>simp [intOf]; omega
   ·go_wp2
    go_round
    case rel=>exact ⟨k+1,by omega,by go_num,fun j h=>(Nat.lt_or_eq_of_le (Nat.le_of_lt_succ h)).elim (NO.out j) (fun e=>by subst e; omega)⟩
    case measure=>simp [intOf]; omega
  ·obtain rfl:k=7:=by omega
   have NO:=Lib.hid hno
   clear hno
   go_wp2
   go_loop [6] (fun i=>∃k:Nat,k≤14∧i=.int .i64 k∧(∀j,j<k→¬(kR j≤r∧r≤kS j))) (fun i=>14 - (intOf i).toNat)
   case atStart=>exact ⟨0,by omega,rfl,fun j h=>by omega⟩
   case round =>
    obtain ⟨k,hk,rfl,hno⟩:=hrel
    by_cases hlt:k<14
    ·obtain ⟨z0,z1⟩:=WH.out k hlt
     have NW:=Lib.hid hno
     have HIT:=Lib.hid (Sv r k hlt)
     clear hno
     by_cases c1:kR k≤r
     ·by_cases c2:r≤kS k
      ·go_wp2
       go_ret
       exact ⟨jZ (HIT.out c1 c2).symm,BL.out⟩
      ·go_wp2
       go_round
       case rel=>exact ⟨k+1,by omega,by go_num,fun j h=>(Nat.lt_or_eq_of_le (Nat.le_of_lt_succ h)).elim (NW.out j) (fun e=>by subst e; omega)⟩
       case measure=>simp [intOf]; omega
     ·go_wp2
      go_round
      case rel=>exact ⟨k+1,by omega,by go_num,fun j h=>(Nat.lt_or_eq_of_le (Nat.le_of_lt_succ h)).elim (NW.out j) (fun e=>by subst e; omega)⟩
      case measure=>simp [intOf]; omega
    ·obtain rfl:k=14:=by omega
     have M:=Lib.hid (Sw r hr0 hr1 NO.out hno)
     clear hno
     go_wp2
     go_ret
     exact ⟨jZ M.out.symm,BL.out⟩
