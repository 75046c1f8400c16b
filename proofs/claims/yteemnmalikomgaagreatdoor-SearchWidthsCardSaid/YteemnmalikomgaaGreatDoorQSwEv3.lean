import Derived.Test.YteemnmalikomgaaGreatDoorQSwEv2
import Derived.Laws.Cells
import Derived.Lib.FrozenHead
namespace Go.Proofs.YteemnmalikomgaaGreatDoor.Ev
section
variable {P:Program} {σ:Val}
theorem jk {D:Nat→Prop} {a b:List A} (ha:A.oks D a) (hb:A.oks D b):A.oks D (a++b):=by
 rw [gP] at *
 intro x hx
 rcases List.mem_append.1 hx with h | h
 ·exact ha x h
 ·exact hb x h
theorem Dl {D:Nat→Prop} {a b:List A} (ha:A.oks D a) (h:∀x∈b,x∈a):A.oks D b:=by
 rw [gP] at *
 exact fun x hx=>ha x (h x hx)
theorem xP (a:A):(a.den σ).cells=⟨A.aj σ a.cells⟩:=by
 cases a<;>first | rfl | simp [A.den,Value.cells,A.cells,A.aj]
theorem cells_ok {D:Nat→Prop} {a:A} (h:a.ok D):A.oks D a.cells:=by
 cases a
 case agg l =>
  simp only [A.ok] at h
  exact h
 all_goals exact ⟨h,trivial⟩
theorem aM (l:List A):(A.aj σ l).length=l.length:=by rw [dD]; simp
theorem foldl_set:∀(vs:List Value) (k off:Nat) (cs:Array Value),off+k+vs.length≤cs.size →
  (vs.zipIdx k).foldl (fun cs (x:Value×Nat)=>cs.setIfInBounds (off+x.2) x.1) cs=(cs.toList.take (off+k)++vs++cs.toList.drop (off+k+vs.length)).toArray
 | [],k,off,cs,_=>by simp
 | v::vs,k,off,cs,h=>by
  simp only [List.length_cons] at h
  simp only [List.zipIdx_cons,List.foldl_cons]
  rw [foldl_set vs (k+1) off (cs.setIfInBounds (off+k) v) (by simp; omega)]
  congr 1
  rw [←Nat.add_assoc,Array.toList_setIfInBounds,list_seg_step' cs.toList (off+k) v vs (by simp; omega)]
  simp [Nat.add_assoc,Nat.add_comm 1]
where
 list_seg_step' (l:List Value) (i:Nat) (v:Value) (vs:List Value) (h:i+1+vs.length≤l.length) :
   (l.set i v).take (i+1)++vs++(l.set i v).drop (i+1+vs.length)=l.take i++v::vs++l.drop (i+1+vs.length):=by
  have h1:(l.set i v).take (i+1)=l.take i++[v]:=by
   rw [List.take_add_one]
   simp [List.take_set_of_le,(by omega:i<l.length)]
  have h2:(l.set i v).drop (i+1+vs.length)=l.drop (i+1+vs.length):=List.drop_set_of_lt (by omega)
  rw [h1,h2]; simp
theorem zW {place place':Nat→Option (Nat×Nat)} (hp:∀i x,place i=some x→place' i=some x):∀ {ps:List (Nat×A)} {cs r:List A},q8 place cs ps=some r →
  Instr.fill place' ⟨A.aj σ cs⟩ (ps.map fun p=>(p.1,p.2.den σ))=some ⟨A.aj σ r⟩∧(∀D,A.oks D cs→(∀p∈ps,p.2.ok D)→A.oks D r)∧r.length=cs.length∧(dU cs=true→dU r=true)
 | [],cs,r,h=>by
  obtain rfl:=some_inj h
  exact ⟨by simp [Instr.fill],fun D h _=>h,rfl,fun h=>h⟩
 | (i,v)::ps,cs,r,h=>by
  simp only [q8] at h
  cases hi:place i with
  | none=>rw [hi] at h; cases h
  | some x =>
   obtain ⟨off,size⟩:=x
   rw [hi] at h
   obtain ⟨h1,h2⟩:=aD (b:=v.cells.length.beq size && (off+size).ble cs.length && dU v.cells) h
   obtain ⟨h3,hone⟩:=and_true h1
   obtain ⟨h4,h5⟩:=and_true h3
   have h4:=aY h4
   have h5:=fK h5
   obtain ⟨i1,i2,i3,i4⟩:=zW hp h2
   have hl:(cs.take off++v.cells++cs.drop (off+size)).length=cs.length:=by simp; omega
   refine ⟨?_,fun D hc hv=> ?_,by rw [i3,hl],fun hc=>i4 ?_⟩
   ·simp only [List.map_cons,Instr.fill,hp i _ hi,xP]
    have e1:(⟨A.aj σ v.cells⟩:Array Value).size=size:=by simp [aM,h4]
    have e2:(⟨A.aj σ cs⟩:Array Value).size=cs.length:=by simp [aM]
    rw [if_neg (by simp only [e1,e2,ne_eq,not_true,decide_false,Bool.false_or,decide_eq_true_eq]; simp; omega)]
    rw [←i1]
    congr 1
    have:=foldl_set (A.aj σ v.cells) 0 off ⟨A.aj σ cs⟩ (by simp [aM]; omega)
    simp only [Nat.add_zero,aM] at this
    rw [←Array.foldl_toList,Array.toList_zipIdx,this,h4]
    simp [dD]
   ·refine i2 D (jk (jk (Dl hc fun x hx=>List.mem_of_mem_take hx) (cells_ok (hv _ (List.mem_cons_self ..)))) (Dl hc fun x hx=>List.mem_of_mem_drop hx)) fun p hpp=>hv p (List.mem_cons_of_mem _ hpp)
   ·have ta:∀(l:List A),dU l=true↔∀a∈l,a.one=true:=fun l=>by
     induction l with
     | nil=>simp [dU]
     | cons a l ih=>simp [dU,ih]
    rw [ta] at hc hone ⊢
    intro a ha
    simp only [List.mem_append] at ha
    rcases ha with (ha | ha) | ha
    ·exact hc a (List.mem_of_mem_take ha)
    ·exact hone a ha
    ·exact hc a (List.mem_of_mem_drop ha)
theorem zX {ρ:Operand→Value} {env:Tr A} (he:dR P σ env ρ) {ps:Array (Nat×Operand)} {l:List (Nat×A)} (h:parts (ah P) env ps.toList=some l) :
  (ps.map fun (i,x)=>(i,ρ x)).toList=l.map fun p=>(p.1,p.2.den σ):=by
 rw [Array.toList_map]; exact (vL he h).1
theorem EA:∀ {fs:List Field} {pl:List (Nat×Nat)},yN (ah P) fs=some pl→fs.mapM (fun f=>(P.info? f.type).map fun i=>(f.offset,i.size))=some pl
 | [],pl,h=>by obtain rfl:=some_inj h; rfl
 | f::fs,pl,h=>by
  simp only [yN] at h
  split at h
  ·rename_i tf htf
   split at h
   ·rename_i r hr
    obtain rfl:=some_inj h
    obtain ⟨i,hi,hs,_⟩:=(dP htf).ex
    simp [List.mapM_cons,hi,EA hr,hs]
   ·cases h
  ·cases h
theorem Tw {t:TypeId} {ρ:Operand→Value} {env:Tr A} (he:dR P σ env ρ) {ps:Array (Nat×Operand)} {r:A} (h:qh (ah P) env t ps.toList=some r) :
  bP P σ (Instr.build t (ps.map fun (i,x)=>(i,ρ x))) r:=by
 unfold qh at h
 split at h
 ·cases h
 ·rename_i ti ht
  split at h
  ·cases h
  ·rename_i z hz
   split at h
   ·cases h
   ·rename_i l hl
    obtain ⟨it,hit,hs,hb,hzz⟩:=(dP ht).ex
    obtain ⟨v,hv,hzd,hzo,_⟩:=hzz z hz
    have hvc:v.cells=⟨A.aj σ z⟩:=by
     apply Array.ext'; rw [←hzd σ]
    have hu:=(dP ht).d
    have hpo:=(vL he hl).2
    have fin:∀ {place place':Nat→Option (Nat×Nat)} {r:A},(∀i x,place i=some x→place' i=some x)→(q8 place z l).map .agg=some r→P.built t (l.map fun p=>(p.1,p.2.den σ))=Instr.fill place' v.cells (l.map fun p=>(p.1,p.2.den σ))→bP P σ (Instr.build t (ps.map fun (i,x)=>(i,ρ x))) r:=by
     intro place place' r hpp hf hbu
     cases hc:q8 place z l with
     | none=>rw [hc] at hf; cases hf
     | some cs =>
      rw [hc] at hf
      obtain rfl:=some_inj hf
      obtain ⟨f1,f2,_,_⟩:=zW (σ:=σ) hpp hc
      refine ⟨fun w=> ?_,by simp only [A.ok]; exact f2 _ (hzo _) hpo⟩
      rw [run_build w t _ ⟨A.aj σ cs⟩ (by rw [zX he hl,hbu,hvc,f1])]
      simp [A.den]
    split at h
    ·rename_i fs hd
     split at h
     ·rename_i pl hpl
      refine fin (place':=(pl.toArray[·]?)) (fun i x hi=>by rw [gN] at hi; simpa using hi) h ?_
      unfold Program.built
      simp only [hit,hu,hd,hv,EA hpl]
     ·cases h
    ·rename_i n e hd
     split at h
     ·rename_i te hte
      obtain ⟨ie,hie,hse,_⟩:=(dP hte).ex
      refine fin (place':=fun i=>some (i*ie.size,ie.size)) (fun i x hi=>by rw [hse]; exact hi) h ?_
      unfold Program.built
      simp only [hit,hu,hd,hv,hie]
     ·cases h
    ·cases h
theorem IU {t:TypeId} {ti:TI} (ht:(ah P).t t=some ti) {l:List A} {off:Nat} {r:A} (h:Nu ti l off=some r) (hl:A.oks σ.dom l):bP P σ (part t ⟨A.aj σ l⟩ off) r:=by
 have h':cond (qd ti.d) (some (.agg ((l.drop off).take ti.size))) (nth l off)=some r:=h
 unfold part
 cases hb:qd ti.d with
 | true =>
  rw [hb] at h'
  obtain rfl:=some_inj h'
  refine ⟨fun w=> ?_,?_⟩
  ·simp only [Sem.run_bind,yU ht,hb,Result.andThen_ok,if_true,dY ht,Sem.run_pure,A.den]
   congr 2
   apply Array.ext'
   rw [Array.toList_extract]
   simp [dD,List.extract,List.map_drop,List.map_take]
  ·simp only [A.ok]
   exact Dl hl fun x hx=>List.mem_of_mem_drop (List.mem_of_mem_take hx)
 | false =>
  rw [hb] at h'
  have h'':nth l off=some r:=h'
  rw [gN] at h''
  refine ⟨fun w=> ?_,gP.1 hl r (List.mem_of_getElem? h'')⟩
  simp only [Sem.run_bind,yU ht,hb,Result.andThen_ok,Bool.false_eq_true,if_false]
  have:(⟨A.aj σ l⟩:Array Value)[off]? = some (r.den σ):=by simp [dD,h'']
  rw [this]; rfl
theorem Bv {s f d:Nat} {tf:TI} (h:yO (ah P) s f=some (d,tf)):∃ti fs fd,(ah P).t s=some ti∧ti.d=.struct fs∧fs[f]? = some fd∧fd.offset=d∧(ah P).t fd.type=some tf:=by
 unfold yO at h
 split at h
 ·cases h
 ·rename_i ti ht
  split at h
  ·rename_i fs hd
   split at h
   ·rename_i fd hf
    split at h
    ·rename_i tf' htf
     have:=some_inj h
     injection this with h1 h2
     subst h1 h2
     rw [gN] at hf
     exact ⟨ti,fs,fd,ht,hd,by simpa using hf,rfl,htf⟩
    ·cases h
   ·cases h
  ·cases h
section
variable {ρ:Operand→Value} {env:Tr A} (he:dR P σ env ρ)
include he
theorem VA {c a b:Operand} {r:A} (h:vo (ah P) env c a b=some r):bP P σ (do pure (if ←asBool (ρ c) then ρ a else ρ b)) r:=by
 unfold vo at h
 split at h
 ·rename_i x hc
  obtain ⟨h1,_⟩:=he c _ hc
  cases x with
  | true =>
   obtain ⟨h2,h3⟩:=he a r h
   exact ⟨fun w=>by simp [h1,A.den,asBool,h2],h3⟩
  | false =>
   obtain ⟨h2,h3⟩:=he b r h
   exact ⟨fun w=>by simp [h1,A.den,asBool,h2],h3⟩
 ·cases h
theorem xQ {ix:Operand} {i:Nat} (h:xJ (ah P) env ix=some i):∃k,ρ ix=.int k (i:Int):=by
 unfold xJ at h
 split at h
 ·rename_i k n hn
  split at h
  ·obtain rfl:=some_inj h
   exact ⟨k,(he ix _ hn).1⟩
  ·cases h
 ·cases h
theorem XK {op:UnOp} {x:Operand} {r:A} (h:Ir (ah P) env op x=some r):bP P σ (Op.unary op (ρ x)) r:=by
 unfold Ir at h
 split at h
 ·cases h
 ·rename_i a ha
  obtain ⟨h1,h2⟩:=he x a ha
  rw [h1]
  unfold XW at h
  split at h
  ·rename_i k n
   split at h
   ·rename_i v hv
    obtain ⟨h3,h4,_⟩:=lG (σ:=σ) (D:=σ.dom) h
    exact ⟨fun w=>by rw [h3]; exact Dj hv w,h4⟩
   ·cases h
  ·rename_i y
   split at h
   ·obtain rfl:=some_inj h
    exact ⟨fun w=>by simp [A.den,Op.unary],by simp [A.ok]⟩
   ·cases h
  ·cases h
theorem WZ {op:BinOp} {t:TypeId} {x y:Operand} {r:A} (h:vw (ah P) env op t x y=some r):bP P σ (do eqGuard op t x y (ρ x) (ρ y); binOp op t (ρ x) (ρ y)) r:=by
 unfold vw at h
 split at h
 ·cases h
 ·rename_i a ha
  split at h
  ·cases h
  ·rename_i b hb
   rw [(he x a ha).1,(he y b hb).1]
   obtain ⟨h1,h2⟩:=Vz (σ:=σ) h
   exact ⟨fun w=>by simp only [Sem.run_bind,Tv h w,Result.andThen_ok,h1 w],h2⟩
theorem Li {s t:TypeId} {x:Operand} {r:A} (h:q9 (ah P) env s t x=some r):bP P σ (convert s t (ρ x)) r:=by
 unfold q9 at h
 split at h
 ·cases h
 ·rename_i a ha
  split at h
  ·cases h
  ·rename_i si hs
   split at h
   ·cases h
   ·rename_i ti ht
    rw [(he x a ha).1]
    have us:=(dP hs).d
    have ut:=(dP ht).d
    unfold Bg at h
    split at h
    ·rename_i k n
     split at h
     ·rename_i k' hd
      obtain rfl:=some_inj h
      rw [hd] at ut
      refine ⟨fun w=> ?_,by simp [A.ok]⟩
      simp only [convert,Sem.run_bind,run_underlying us,run_underlying ut,Result.andThen_ok,A.den,Conv.intToInt,iQ]
      cases si.d<;>rfl
     ·rename_i hd
      obtain rfl:=some_inj h
      rw [hd] at ut
      refine ⟨fun w=> ?_,by simp [A.ok]⟩
      simp only [convert,Sem.run_bind,run_underlying us,run_underlying ut,Result.andThen_ok,A.den,Conv.intToString]
      cases si.d<;>rfl
     ·cases h
    ·rename_i l
     split at h
     ·rename_i hd
      obtain rfl:=some_inj h
      rw [hd] at ut
      refine ⟨fun w=> ?_,by simp [A.ok]⟩
      simp only [convert,Sem.run_bind,run_underlying us,run_underlying ut,Result.andThen_ok,A.den]
      cases si.d<;>rfl
     ·cases h
    ·cases h
theorem Tx {s f:Nat} {x:Operand} {r:A} (h:qj (ah P) env s x f=some r):bP P σ (Instr.fieldAt s (ρ x) f) r:=by
 unfold qj at h
 split at h
 ·rename_i r0 hx
  split at h
  ·rename_i j o
   split at h
   ·rename_i d tf hf
    have h':cond (Nat.beq tf.size 0) none (some (A.p (some (j,Nat.add o d))))=some r:=h
    cases hb:Nat.beq tf.size 0 with
    | true=>rw [hb] at h'; cases h'
    | false =>
     rw [hb] at h'
     obtain rfl:=some_inj h'
     obtain ⟨ti,fs,fd,ht,hd,hfd,hoff,htf⟩:=Bv hf
     obtain ⟨h1,h2⟩:=he x _ hx
     refine ⟨fun w=> ?_,h2⟩
     have:=UQ hb
     simp only [Instr.fieldAt,Sem.run_bind,fA ht,hd,Result.andThen_ok,hfd,h1,A.den,Option.map_some,Instr.sureAddr,Sem.run_pure,fieldPlace,dY htf,if_neg this,hoff,kV]
     rfl
   ·cases h
  ·cases h
 ·cases h
theorem Tz {s f:Nat} {x:Operand} {r:A} (h:ql (ah P) env s x f=some r):bP P σ (Instr.field s (ρ x) f) r:=by
 unfold ql at h
 split at h
 ·rename_i l hx
  split at h
  ·rename_i d tf hf
   obtain ⟨ti,fs,fd,ht,hd,hfd,hoff,htf⟩:=Bv hf
   obtain ⟨h1,h2⟩:=he x _ hx
   obtain ⟨h3,h4⟩:=IU htf h (by simpa only [A.ok] using h2)
   refine ⟨fun w=> ?_,h4⟩
   simp only [Instr.field,Sem.run_bind,fA ht,hd,Result.andThen_ok,hfd,h1,A.den,asAgg,Sem.run_pure,hoff,h3]
  ·cases h
 ·cases h
theorem TB {t:TypeId} {x ix:Operand} {r:A} (h:qm (ah P) env t x ix=some r):bP P σ (Instr.indexAt t (ρ x) (ρ ix)) r:=by
 have core:∀ {e n j o i:Nat} {r:A},FV (ah P) e n j o i=some r→∃te,(ah P).t e=some te∧i<n∧r=.p (some (j,o+i*te.size)):=by
  intro e n j o i r h
  unfold FV at h
  split at h
  ·rename_i te hte
   obtain ⟨h1,h2⟩:=aD h
   exact ⟨te,hte,jw h1,(some_inj h2).symm⟩
  ·cases h
 unfold qm at h
 split at h
 ·cases h
 ·rename_i ti ht
  split at h
  ·cases h
  ·rename_i i hi
   obtain ⟨k,hk⟩:=xQ he hi
   split at h
   ·rename_i r0 hx
    obtain ⟨h1,h2⟩:=he x _ hx
    split at h
    ·rename_i n e j o hd
     obtain ⟨te,hte,hlt,rfl⟩:=core h
     refine ⟨fun w=> ?_,h2⟩
     have hb:(0:Int)≤(i:Int)∧(i:Int)<(n:Int):=by omega
     simp only [Instr.indexAt,hk,asIntOf,Sem.run_bind,Sem.run_pure,Result.andThen_ok,fA ht,hd,h1,A.den,Option.map_some,Instr.sureAddr,if_pos hb,dY hte,Int.toNat_natCast,kV]
    ·cases h
   ·rename_i r0 n lo c hx
    obtain ⟨h1,h2⟩:=he x _ hx
    split at h
    ·rename_i e j o hd
     obtain ⟨te,hte,hlt,rfl⟩:=core h
     simp only [A.ok] at h2
     refine ⟨fun w=> ?_,h2.1 (j,o) rfl⟩
     have hb:(0:Int)≤(i:Int)∧(i:Int)<(n:Int):=by omega
     simp only [Instr.indexAt,hk,asIntOf,Sem.run_bind,Sem.run_pure,Result.andThen_ok,fA ht,hd,h1,A.den,Option.map_some,Instr.sureAddr,if_pos hb,dY hte,Int.toNat_natCast,kV]
    ·cases h
   ·cases h
theorem TD {t:TypeId} {x ix:Operand} {r:A} (h:qo (ah P) env t x ix=some r):bP P σ (Instr.index t (ρ x) (ρ ix)) r:=by
 unfold qo at h
 split at h
 ·cases h
 ·rename_i ti ht
  split at h
  ·cases h
  ·rename_i i hi
   obtain ⟨k,hk⟩:=xQ he hi
   split at h
   ·rename_i l hx
    obtain ⟨h1,h2⟩:=he x _ hx
    split at h
    ·rename_i hd
     split at h
     ·rename_i b hb
      obtain rfl:=some_inj h
      rw [gN] at hb
      refine ⟨fun w=> ?_,by simp [A.ok]⟩
      have hg:(⟨⟨l⟩⟩:ByteArray)[i]? = some b:=by
       obtain ⟨h3,h4⟩:=List.getElem?_eq_some_iff.1 hb
       rw [getElem?_pos (⟨⟨l⟩⟩:ByteArray) i h3]
       exact congrArg some h4
      simp only [Instr.index,hk,asIntOf,Sem.run_bind,Sem.run_pure,Result.andThen_ok,fA ht,hd,h1,A.den,Int.natCast_nonneg,if_true,Int.toNat_natCast,hg]
     ·cases h
    ·cases h
   ·rename_i l hx
    obtain ⟨h1,h2⟩:=he x _ hx
    split at h
    ·rename_i n e hd
     split at h
     ·rename_i te hte
      obtain ⟨h3,h4⟩:=aD h
      have hlt:=jw h3
      have hb:(0:Int)≤(i:Int)∧(i:Int)<(n:Int):=by omega
      obtain ⟨h5,h6⟩:=IU hte h4 (by simpa only [A.ok] using h2)
      refine ⟨fun w=> ?_,h6⟩
      simp only [Instr.index,hk,asIntOf,Sem.run_bind,Sem.run_pure,Result.andThen_ok,fA ht,hd,h1,A.den,if_pos hb,dY hte,Int.toNat_natCast]
      exact h5 w
     ·cases h
    ·cases h
   ·cases h
theorem VB {x:Operand} {ix:Nat} {r:A} (h:vC (ah P) env x ix=some r):bP P σ (Instr.extract (ρ x) ix) r:=by
 unfold vC at h
 split at h
 ·rename_i l hx
  obtain ⟨h1,h2⟩:=he x _ hx
  rw [gN] at h
  refine ⟨fun w=> ?_,gP.1 (by simpa only [A.ok] using h2) r (List.mem_of_getElem? h)⟩
  have:(⟨A.aj σ l⟩:Array Value)[ix]? = some (r.den σ):=by simp [dD,h]
  simp only [Instr.extract,h1,A.den,this]
  rfl
 ·cases h
theorem VD {f:Fn} {fs cs:Array Operand} {r:A} (h:zS (ah P) env f fs.toList cs.toList=some r):bP P σ (Instr.makeFunc f (fs.map ρ) (cs.map ρ)) r:=by
 unfold zS at h
 split at h
 ·split at h
  ·rename_i a ha
   split at h
   ·rename_i b hb
    obtain rfl:=some_inj h
    obtain ⟨h1,h2⟩:=tJ he ha
    obtain ⟨h3,h4⟩:=tJ he hb
    refine ⟨fun w=> ?_,h2,h4⟩
    have e1:fs.map ρ=⟨A.aj σ a⟩:=by apply Array.ext'; simpa using h1
    have e2:cs.map ρ=⟨A.aj σ b⟩:=by apply Array.ext'; simpa using h3
    simp [Instr.makeFunc,e1,e2,A.den]
   ·cases h
  ·cases h
 ·cases h
theorem IV {t:TypeId} {x:Operand} {lo hi mx:Option Operand} {r:A} (h:mD (ah P) env t x lo hi mx=some r):bP P σ (Instr.sliceAt t (ρ x) (lo.map ρ) (hi.map ρ) (mx.map ρ)) r:=by
 have om:∀ {o:Option Operand} {y:Option A},zQ (ah P) env o=some y→o.map ρ=y.map (A.den σ):=by
  intro o y h
  cases o with
  | none=>obtain rfl:=some_inj h; rfl
  | some o =>
   have h':(aZ (ah P) env o).map some=some y:=h
   cases ho:aZ (ah P) env o with
   | none=>rw [ho] at h'; cases h'
   | some a=>rw [ho] at h'; obtain rfl:=some_inj h'; simp [(he o a ho).1]
 unfold mD at h
 split at h
 ·rename_i a l u m h1 h2 h3 h4
  rw [(he x a h1).1,om h2,om h3,om h4]
  exact Qy h (he x a h1).2
 ·cases h
theorem Xa {x:Operand} {r:A} {o:Oper} (ho:o.op=.nilCheck x) (h:zR (ah P) env x=some r):(∀w,(execOp ρ o).run P w=.ok (.value (r.den σ)) w)∧r.ok σ.dom:=by
 unfold zR at h
 split at h
 ·rename_i a ha
  obtain ⟨h1,h2⟩:=aD h
  obtain rfl:=some_inj h2
  obtain ⟨h3,h4⟩:=he x a ha
  refine ⟨fun w=> ?_,h4⟩
  unfold execOp
  rw [ho]
  simp only [h3]
  cases a<;>first | (cases h1; done) | skip
  case p r=>cases r with
   | none=>cases h1
   | some r=>rfl
  case fn=>rfl
  case yl=>rfl
 ·cases h
theorem Xb {t:TypeId} {x:Operand} {r:A} {ts:Array TypeId} {ty:TypeId} {xs:Array Operand} (ht0:ts[0]? = some t) (hx0:xs[0]? = some x) (h:Nw (ah P) env t x=some r):bP P σ (Builtin.len_ ts ty (xs.map ρ)) r:=by
 unfold Nw at h
 split at h
 ·cases h
 ·rename_i ti ht
  split at h
  ·cases h
  ·rename_i a ha
   obtain ⟨h1,h2⟩:=he x a ha
   have e:(xs.map ρ)[0]? = some (a.den σ):=by simp [hx0,h1]
   split at h
   ·rename_i hd
    split at h
    ·rename_i l
     obtain rfl:=some_inj h
     refine ⟨fun w=> ?_,by simp [A.ok]⟩
     simp only [Builtin.len_,ht0,e,Sem.run_bind,fA ht,hd,Result.andThen_ok,A.den]; rfl
    ·cases h
   ·rename_i n e' hd
    obtain rfl:=some_inj h
    refine ⟨fun w=> ?_,by simp [A.ok]⟩
    simp only [Builtin.len_,ht0,e,Sem.run_bind,fA ht,hd,Result.andThen_ok,A.den]
    cases a<;>rfl
   ·rename_i e' hd
    split at h
    ·rename_i r0 n lo c
     obtain rfl:=some_inj h
     refine ⟨fun w=> ?_,by simp [A.ok]⟩
     simp only [Builtin.len_,ht0,e,Sem.run_bind,fA ht,hd,Result.andThen_ok,A.den]; rfl
    ·cases h
   ·cases h
theorem Xc {t:TypeId} {x:Operand} {r:A} {ts:Array TypeId} {ty:TypeId} {xs:Array Operand} (ht0:ts[0]? = some t) (hx0:xs[0]? = some x) (h:Ny (ah P) env t x=some r):bP P σ (Builtin.cap_ ts ty (xs.map ρ)) r:=by
 unfold Ny at h
 split at h
 ·cases h
 ·rename_i ti ht
  split at h
  ·rename_i r0 n c ha
   obtain ⟨h1,h2⟩:=he x _ ha
   have e:(xs.map ρ)[0]? = some ((A.sl r0 n c none).den σ):=by simp [hx0,h1]
   split at h
   ·rename_i e' hd
    obtain rfl:=some_inj h
    refine ⟨fun w=> ?_,by simp [A.ok]⟩
    simp only [Builtin.cap_,ht0,e,Sem.run_bind,fA ht,hd,Result.andThen_ok,A.den]; rfl
   ·cases h
  ·cases h
theorem UR {mx:Bool} {x y:Operand} {r:A} {ts:Array TypeId} {ty:TypeId} (h:Ld (ah P) env mx x y=some r):bP P σ (cond mx (Builtin.max_ ts ty #[ρ x,ρ y]) (Builtin.min_ ts ty #[ρ x,ρ y])) r:=by
 unfold Ld at h
 split at h
 ·rename_i k a ha
  split at h
  ·rename_i l b hb
   obtain rfl:=some_inj h
   rw [(he x _ ha).1,(he y _ hb).1]
   refine ⟨fun w=> ?_,by simp [A.ok]⟩
   cases mx with
   | true =>
    show Sem.run P (Builtin.max_ ts ty #[.int k a,.int l b]) w=.ok (.int k (cond (Bf a b) b a)) w
    rw [run_max_int2,tK]
    by_cases hab:a<b
    ·rw [if_pos (show b > a from hab),decide_eq_true hab]; rfl
    ·rw [if_neg (show ¬b > a from hab),decide_eq_false hab]; rfl
   | false =>
    show Sem.run P (Builtin.min_ ts ty #[.int k a,.int l b]) w=.ok (.int k (cond (Bf b a) b a)) w
    rw [run_min_int2,tK]
    by_cases hab:b<a
    ·rw [if_pos hab,decide_eq_true hab]; rfl
    ·rw [if_neg hab,decide_eq_false hab]; rfl
  ·cases h
 ·cases h
theorem UU {b:Builtin} {ts:Array TypeId} {ty:TypeId} {cs:Array Bool} {xs:Array Operand} {r:A} (h:Bh (ah P) env b ts.toList xs.toList=some r) :
  (∀w,(builtin b ts ty cs (xs.map ρ)).run P w=.ok (.value (r.den σ)) w)∧r.ok σ.dom:=by
 have two:∀ {x y:Operand},xs.toList=[x,y]→xs.map ρ = #[ρ x,ρ y]:=fun h=>by
  apply Array.ext'; rw [Array.toList_map,h]; rfl
 unfold Bh at h
 split at h
 ·split at h
  ·rename_i t _ x _ e1 e2
   have f1:ts[0]? = some t:=by rw [←Array.getElem?_toList,e1]; rfl
   have f2:xs[0]? = some x:=by rw [←Array.getElem?_toList,e2]; rfl
   obtain ⟨h1,h2⟩:=Xb (σ:=σ) (ty:=ty) he f1 f2 h
   exact ⟨fun w=>by simp only [builtin,Sem.run_bind,h1 w,Result.andThen_ok,Sem.run_pure],h2⟩
  ·cases h
 ·split at h
  ·rename_i t _ x _ e1 e2
   have f1:ts[0]? = some t:=by rw [←Array.getElem?_toList,e1]; rfl
   have f2:xs[0]? = some x:=by rw [←Array.getElem?_toList,e2]; rfl
   obtain ⟨h1,h2⟩:=Xc (σ:=σ) (ty:=ty) he f1 f2 h
   exact ⟨fun w=>by simp only [builtin,Sem.run_bind,h1 w,Result.andThen_ok,Sem.run_pure],h2⟩
  ·cases h
 ·split at h
  ·rename_i x y e2
   obtain ⟨h1,h2⟩:=UR (σ:=σ) (mx:=false) (ts:=ts) (ty:=ty) he h
   refine ⟨fun w=> ?_,h2⟩
   rw [two e2]
   simp only [cond_false] at h1
   simp only [builtin,Sem.run_bind,h1 w,Result.andThen_ok,Sem.run_pure]
  ·cases h
 ·split at h
  ·rename_i x y e2
   obtain ⟨h1,h2⟩:=UR (σ:=σ) (mx:=true) (ts:=ts) (ty:=ty) he h
   refine ⟨fun w=> ?_,h2⟩
   rw [two e2]
   simp only [cond_true] at h1
   simp only [builtin,Sem.run_bind,h1 w,Result.andThen_ok,Sem.run_pure]
  ·cases h
 ·cases h
theorem pure_ok {o:Oper} {r:A} (h:yP o.op (ah P) env=some r):(∀w,(execOp ρ o).run P w=.ok (.value (r.den σ)) w)∧r.ok σ.dom:=by
 obtain ⟨dst,op,type,pos,after,guard⟩:=o
 have v:∀ {s:Sem Value},bP P σ s r→(∀w,(do pure (Next.value (←s)):Sem Next).run P w=.ok (.value (r.den σ)) w)∧r.ok σ.dom :=
  fun t=>⟨fun w=>by simp only [Sem.run_bind,t.1 w,Result.andThen_ok,Sem.run_pure],t.2⟩
 cases op
 case move x=>obtain ⟨h1,h2⟩:=he x r h; exact ⟨fun w=>by simp only [execOp,h1]; rfl,h2⟩
 case assign x=>obtain ⟨h1,h2⟩:=he x r h; exact ⟨fun w=>by simp only [execOp,h1]; rfl,h2⟩
 case pick c a b =>
  obtain ⟨h1,h2⟩:=VA (σ:=σ) he h
  refine ⟨fun w=> ?_,h2⟩
  have:=h1 w
  simp only [Sem.run_bind,execOp] at this ⊢
  cases hc:(asBool (ρ c)).run P w with
  | ok x w' =>
   rw [hc] at this
   simp only [Result.andThen_ok,Sem.run_pure] at this ⊢
   injection this with e1 e2
   rw [e1,e2]
  | halt x w'=>rw [hc] at this; cases this
 case build t ps=>exact v (Tw he h)
 case nilCheck x=>exact Xa he rfl h
 case binOp op t x y u=>exact v (WZ he h)
 case unOp op t x=>exact v (XK he h)
 case convert s t x=>exact v (Li he h)
 case slice t x lo hi mx=>exact v (IV he h)
 case fieldAddr s x f=>exact v (Tx he h)
 case field s x f=>exact v (Tz he h)
 case indexAddr t x ix=>exact v (TB he h)
 case index t x ix=>exact v (TD he h)
 case extract x ix=>exact v (VB he h)
 case makeFunc f fs cs=>exact v (VD he h)
 case call c =>
  have h':Le (ah P) env c=some r:=h
  unfold Le at h'
  split at h'
  ·rename_i b hb
   obtain ⟨h1,h2⟩:=UU (σ:=σ) (ty:=type) (cs:=c.args.map fun | .const _=>true | _=>false) he h'
   refine ⟨fun w=> ?_,h2⟩
   simp only [execOp,resolve,hb,Sem.run_bind,Sem.run_pure,Result.andThen_ok,invoke]
   exact h1 w
  ·cases h'
 all_goals cases h
end
end
end Go.Proofs.YteemnmalikomgaaGreatDoor.Ev
namespace Go.Proofs.YteemnmalikomgaaGreatDoor.Ev
section
variable {P:Program} {σ:Val} {h:H} {w:World}
def Does (P:Program) (σ:Val) (h:H) (w:World) (s:Sem Value) (a:A) (k:H):Prop :=
 ∃τ v,s.run P w=.ok (a.den τ) v∧Goes P.globals.size σ h w τ k v∧a.ok τ.dom
theorem bP.does {s:Sem Value} {a:A} (t:bP P σ s a) (r:Rel P.globals.size σ h w):Does P σ h w s a h:=⟨σ,w,t.1 w,.refl r,t.2⟩
theorem tN {j:Nat} {e:TypeId} {t:Tr A} {E:Nat} {c:Option (Nat×Nat)} {wr:Bool} (b:kE σ w j (.cells e t E c wr)) {k:Nat} {a:A} (ha:t.get k=some a) :
  w.cell? (σ.ad (j,k))=some (a.den σ)∧a.ok σ.dom:=by
 obtain ⟨cs,lo,hi,h1,h2,h3,_⟩:=b
 obtain ⟨h4,h5⟩:=h3 k a ha
 exact ⟨by simp [World.cell?,Val.ad,h1,h4],h5⟩
theorem Bz:∀ {n o:Nat} {t:Tr A} {l:List A},rd t o n=some l→l.length=n∧∀j a,l[j]? = some a→t.get (o+j)=some a
 | 0,o,t,l,h=>by obtain rfl:=some_inj h; simp
 | n+1,o,t,l,h=>by
  simp only [rd] at h
  split at h
  ·rename_i a ha
   split at h
   ·rename_i r hr
    obtain rfl:=some_inj h
    obtain ⟨h1,h2⟩:=Bz hr
    refine ⟨by simp [h1],fun j x hx=> ?_⟩
    cases j with
    | zero=>simp at hx; subst hx; exact ha
    | succ j=>simp at hx; have:=h2 j x hx; rwa [Nat.add_assoc,Nat.add_comm 1 j] at this
   ·cases h
  ·cases h
theorem UW {j:Nat} {e:TypeId} {t:Tr A} {E:Nat} {c:Option (Nat×Nat)} {wr:Bool} (b:kE σ w j (.cells e t E c wr)) {o n:Nat} {l:List A} (hl:rd t o n=some l) :
  (loadCells (σ.ad (j,o)) n).run P w=.ok ⟨A.aj σ l⟩ w∧A.oks σ.dom l:=by
 obtain ⟨h1,h2⟩:=Bz hl
 refine ⟨?_,gP.2 fun a ha=> ?_⟩
 ·have:=run_loadCells_list (P:=P) w (σ.ad (j,o)) (A.aj σ l) (fun i v hv=>by
   rw [dD,List.getElem?_map,Option.map_eq_some_iff] at hv
   obtain ⟨a,ha,rfl⟩:=hv
   rw [kV]
   exact (tN b (h2 i a ha)).1)
  rw [aM,h1] at this
  exact this
 ·obtain ⟨i,hi⟩:=List.mem_iff_getElem?.1 ha
  exact (tN b (h2 i a hi)).2
theorem Dm (r:Rel P.globals.size σ h w) {t:TypeId} {p a:A} (hl:ru (ah P) h t p=some a):(Instr.loadAt t (p.den σ)).run P w=.ok (a.den σ) w∧a.ok σ.dom:=by
 unfold ru at hl
 split at hl
 ·rename_i r0
  split at hl
  ·rename_i j o
   split at hl
   ·rename_i e tr E c wr hj
    split at hl
    ·rename_i ti ht
     have b:=r.at_ j _ hj
     have hl':cond (qd ti.d) ((rd tr o ti.size).map .agg) (tr.get o)=some a:=hl
     cases hb:qd ti.d with
     | true =>
      rw [hb] at hl'
      cases hr:rd tr o ti.size with
      | none=>rw [hr] at hl'; cases hl'
      | some l =>
       rw [hr] at hl'
       obtain rfl:=some_inj hl'
       obtain ⟨h1,h2⟩:=UW (P:=P) b hr
       refine ⟨?_,by simp only [A.ok]; exact h2⟩
       simp only [Instr.loadAt,A.den,Option.map_some,Instr.sureAddr,Sem.run_bind,Sem.run_pure,Result.andThen_ok,loadVar,yU ht,hb,if_true,dY ht,h1]
     | false =>
      rw [hb] at hl'
      obtain ⟨h1,h2⟩:=tN b hl'
      refine ⟨?_,h2⟩
      simp only [Instr.loadAt,A.den,Option.map_some,Instr.sureAddr,Sem.run_bind,Sem.run_pure,Result.andThen_ok,loadVar,yU ht,hb,Bool.false_eq_true,if_false,run_load,h1]
    ·cases hl
   ·cases hl
  ·cases hl
 ·cases hl
theorem yV {l:List A} {k:Nat} {a:A} (h:(Tr.fC .lf 0 l).get k=some a):l[k]? = some a:=by
 rw [Tr.Da] at h
 split at h
 ·simpa using h
 ·cases h
theorem one_cell {a:A} (h:a.one=true):(a.den σ).oneCell'=true:=by
 cases a<;>first | rfl | cases h
theorem BA:∀ {l:List A},dU l=true↔∀a∈l,a.one=true
 | []=>by simp [dU]
 | a::l=>by simp [dU,BA (l:=l)]
theorem EB {l:List A} (h:dU l=true):∀v∈A.aj σ l,v.oneCell'=true:=by
 intro v hv
 rw [dD] at hv
 obtain ⟨a,ha,rfl⟩:=List.mem_map.1 hv
 exact one_cell (BA.1 h a ha)
theorem rJ (r:Rel P.globals.size σ h w) (hf:¬σ.dom h.nx) (e:TypeId) (l:List A) (hl:A.oks σ.dom l) {n:Nat} (hn:n=l.length) :
  Goes P.globals.size σ h w (σ.with h.nx w.heap.size 0 0) (h.new (.cells e (Tr.fC .lf 0 l) n none true)) { w with heap:=w.heap.push (.cells ⟨A.aj σ l⟩ e (0,0)) }:=by
 subst hn
 have s:=Val.je σ h.nx w.heap.size 0 0 hf
 refine Goes.new r _ _ 0 hf ⟨⟨A.aj σ l⟩,0,0,?_,?_,fun k a ha=> ?_,(fun x hx=>by cases hx),(fun _=>rfl),fun _ _=>⟨by simp [aM],eD ..⟩⟩
 ·rw [dB]; simp
 ·rw [eD]; simp [Val.room,aM]
 ·have h1:=yV ha
  have h2:=gP.1 hl a (List.mem_of_getElem? h1)
  exact ⟨by rw [eD,s.den h2]; simp [dD,h1],h2.mono s.dom⟩
theorem mF (σ:Val) (j B c:Nat):(σ.with j B 0 c).ad (j,0)=⟨B,0,none⟩:=by simp [Val.ad,dB,eD]
theorem TF (r:Rel P.globals.size σ h w) (hf:¬σ.dom h.nx) {e:TypeId} {a:A} {b:bZ} (ha:sZ (ah P) h.nx e=some (a,b)):Does P σ h w (Instr.alloc e true (.tuple #[])) a (h.new b):=by
 unfold sZ at ha
 split at ha
 ·cases ha
 ·rename_i ti ht
  split at ha
  ·cases ha
  ·rename_i z hz
   have:=some_inj ha
   injection this with h1 h2
   subst h1 h2
   obtain ⟨i,hi,_,_,hzz⟩:=(dP ht).ex
   obtain ⟨v,hv,hzd,hzo,_⟩:=hzz z hz
   have hvc:v.cells=⟨A.aj σ z⟩:=by apply Array.ext'; rw [←hzd σ]
   refine ⟨_,_,?_,rJ r hf e z (hzo _) rfl,bS ..⟩
   simp [Instr.alloc,zeroValue,typeInfo,hi,hv,newVar,newRow,hvc,A.den,mF]
theorem Xd {ρ:Operand→Value} {env:Tr A} (he:dR P σ env ρ) (r:Rel P.globals.size σ h w) (hf:¬σ.dom h.nx) {e:TypeId} {x:Operand} {a:A} {b:bZ} (ha:vD (ah P) env h.nx e x=some (a,b)) :
  Does P σ h w (Instr.box e (ρ x)) a (h.new b):=by
 unfold vD at ha
 split at ha
 ·cases ha
 ·rename_i y hy
  obtain ⟨h0,h1⟩:=aD ha
  have:=some_inj h1
  injection this with h1 h2
  subst h1 h2
  obtain ⟨h3,h4⟩:=he x y hy
  refine ⟨_,_,?_,rJ r hf e y.cells (cells_ok h4) rfl,bS ..⟩
  simp [Instr.box,newVar,newRow,h3,xP,A.den,mF]
theorem mZ {t e:TypeId} {te:TI} (h:rz (ah P) t=some (e,te)):P.underlying t=some (.slice e)∧(ah P).t e=some te:=by
 unfold rz at h
 split at h
 ·cases h
 ·rename_i ti ht
  split at h
  ·rename_i e' hd
   split at h
   ·rename_i te' hte
    have:=some_inj h
    injection this with h1 h2
    subst h1 h2
    exact ⟨by rw [(dP ht).d,hd],hte⟩
   ·cases h
  ·cases h
theorem og (z:List A):∀n,A.aj σ (iX z n)=(List.replicate n (A.aj σ z)).flatten
 | 0=>rfl
 | n+1=>by
  have:=og z n
  rw [dD] at this
  rw [dD]
  simp only [iX,List.map_append,List.replicate_succ,List.flatten_cons]
  rw [this,dD]
theorem tO {D:Nat→Prop} {z:List A} (hz:A.oks D z):∀n,A.oks D (iX z n)
 | 0=>trivial
 | n+1=>jk hz (tO hz n)
theorem jF (z:List A):∀n,(iX z n).length=n*z.length
 | 0=>by simp [iX]
 | n+1=>by simp [iX,jF z n,Nat.add_mul,Nat.add_comm]
theorem vM (z:Array Value) (n:Nat) (hz:z.size≠0):(Array.range (n*z.size)).map (z[· % z.size]!)=⟨(List.replicate n z.toList).flatten⟩:=by
 apply Array.ext
 ·simp
 ·intro i h1 h2
  simp at h1
  simp only [Array.getElem_map,Array.getElem_range,List.getElem_toArray]
  have key:∀(n i:Nat) (h:i<n*z.size),(List.replicate n z.toList).flatten[i]? = z[i % z.size]?:=by
   intro n
   induction n with
   | zero=>intro i h; simp at h
   | succ n ih =>
    intro i h
    simp only [List.replicate_succ,List.flatten_cons]
    by_cases hi:i<z.size
    ·rw [List.getElem?_append_left (by simpa using hi),Nat.mod_eq_of_lt hi]; simp
    ·rw [List.getElem?_append_right (by simpa using Nat.le_of_not_lt hi)]
     simp only [Array.length_toList]
     rw [ih (i - z.size) (by rw [Nat.add_mul] at h; omega)]
     congr 1
     exact (Nat.mod_eq_sub_mod (Nat.le_of_not_lt hi)).symm
  have hm:i % z.size<z.size:=Nat.mod_lt _ (by omega)
  have:=key n i h1
  rw [List.getElem?_eq_getElem (by simpa using h2),Array.getElem?_eq_getElem hm] at this
  rw [getElem!_pos z _ hm]
  exact (some_inj this).symm
theorem Xe {ρ:Operand→Value} {env:Tr A} (he:dR P σ env ρ) (r:Rel P.globals.size σ h w) (hf:¬σ.dom h.nx) {t:TypeId} {len:Nat} {ps:Array (Nat×Operand)} {a:A} {b:bZ}
  (ha:vE (ah P) env h.nx t len ps.toList=some (a,b)):Does P σ h w (Instr.buildSlice t len (ps.map fun (i,x)=>(i,ρ x))) a (h.new b):=by
 unfold vE at ha
 split at ha
 ·cases ha
 ·rename_i e te hel
  obtain ⟨hu,hte⟩:=mZ hel
  split at ha
  ·cases ha
  ·rename_i l hl
   split at ha
   ·cases ha
   ·rename_i z hz
    obtain ⟨h1,h2⟩:=aD ha
    obtain ⟨h3,h4⟩:=and_true h1
    obtain ⟨h4,h5⟩:=and_true h4
    have h3:len*te.size≤16777216:=fK h3
    have h4:=aY h4
    split at h2
    ·rename_i cs hcs
     have:=some_inj h2
     injection this with q1 q2
     subst q1 q2
     obtain ⟨i,hi,hs,_,hzz⟩:=(dP hte).ex
     obtain ⟨v,hv,hzd,hzo,_⟩:=hzz z hz
     have hvc:v.cells=⟨A.aj σ z⟩:=by apply Array.ext'; rw [←hzd σ]
     obtain ⟨f1,f2,f3,f4⟩:=zW (σ:=σ) (place':=fun i=>some (i*te.size,te.size)) (fun i x hx=>hx) hcs
     have hok:A.oks σ.dom cs:=f2 _ (tO (hzo _) len) (vL he hl).2
     have hzs:(⟨A.aj σ z⟩:Array Value).size=te.size:=by simp [aM,h4]
     have hinit:(Array.range (len*te.size)).map ((if len*te.size=0 then (#[]:Array Value) else v.cells)[· % (if len*te.size=0 then (#[]:Array Value) else v.cells).size]!)=⟨A.aj σ (iX z len)⟩:=by
      by_cases h0:len*te.size=0
      ·rw [h0]
       have:A.aj σ (iX z len)=[]:=List.eq_nil_of_length_eq_zero (by rw [aM,jF,h4]; exact h0)
       rw [this]; simp
      ·simp only [if_neg h0]
       rw [hvc]
       have hz0:(⟨A.aj σ z⟩:Array Value).size≠0:=by rw [hzs]; intro e; rw [e] at h0; simp at h0
       have:=vM ⟨A.aj σ z⟩ len hz0
       rw [hzs] at this ⊢
       rw [this,og]
     refine ⟨_,_,?_,rJ r hf e cs hok rfl,⟨fun x hx=>by obtain rfl:=some_inj hx; exact bS ..,fun x hx=>by cases hx⟩⟩
     have hsm:¬len*te.size > 2 ^ 24:=by omega
     by_cases h0:len*te.size=0
     ·simp only [if_pos h0] at hinit
      simp only [Instr.buildSlice,Sem.run_bind,run_underlying hu,Result.andThen_ok,dY hte,if_neg hsm,Sem.run_pure,if_pos h0,hinit,zX he hl,f1,newRow,run_newObj,A.den,Option.map_some,mF,Val.ex,Nat.add_zero]
     ·simp only [if_neg h0] at hinit
      simp only [Instr.buildSlice,Sem.run_bind,run_underlying hu,Result.andThen_ok,dY hte,if_neg hsm,Sem.run_pure,if_neg h0,zeroValue,typeInfo,run_program,hi,hv,hinit,zX he hl,f1,newRow,run_newObj,A.den,Option.map_some,mF,Val.ex,Nat.add_zero]
    ·cases h2
theorem Xf {ρ:Operand→Value} {env:Tr A} (he:dR P σ env ρ) (r:Rel P.globals.size σ h w) (hf:¬σ.dom h.nx) {t:TypeId} {ln cp:Operand} {a:A} {b:bZ}
  (ha:vF (ah P) env h.nx t ln cp=some (a,b)):Does P σ h w (Instr.makeSlice t (ρ ln) (ρ cp)) a (h.new b):=by
 unfold vF at ha
 split at ha
 ·cases ha
 ·rename_i e te hel
  obtain ⟨hu,hte⟩:=mZ hel
  split at ha
  ·cases ha
  ·rename_i l hl
   split at ha
   ·cases ha
   ·rename_i c hc
    split at ha
    ·cases ha
    ·rename_i z hz
     obtain ⟨h1,h2⟩:=aD ha
     obtain ⟨h3,h4⟩:=and_true h1
     obtain ⟨h5,h6⟩:=and_true h3
     obtain ⟨h7,h8⟩:=and_true h4
     have h5:=fK h5
     have h6:=fK h6
     have h7:=fK h7
     have h4:=aY h8
     have:=some_inj h2
     injection this with q1 q2
     subst q1 q2
     obtain ⟨k1,e1⟩:=xQ he hl
     obtain ⟨k2,e2⟩:=xQ he hc
     obtain ⟨i,hi,hs,hby,hzz⟩:=(dP hte).ex
     obtain ⟨v,hv,hzd,hzo,_⟩:=hzz z hz
     have hvc:v.cells=⟨A.aj σ z⟩:=by apply Array.ext'; rw [←hzd σ]
     have hzs:(⟨A.aj σ z⟩:Array Value).size=te.size:=by simp [aM,h4]
     have hinit:(Array.range (c*te.size)).map ((if c*te.size=0 then (#[]:Array Value) else v.cells)[· % (if c*te.size=0 then (#[]:Array Value) else v.cells).size]!)=⟨A.aj σ (iX z c)⟩:=by
      by_cases h0:c*te.size=0
      ·rw [h0]
       have:A.aj σ (iX z c)=[]:=List.eq_nil_of_length_eq_zero (by rw [aM,jF,h4]; exact h0)
       rw [this]; simp
      ·simp only [if_neg h0]
       rw [hvc]
       have hz0:(⟨A.aj σ z⟩:Array Value).size≠0:=by rw [hzs]; intro e; rw [e] at h0; simp at h0
       have:=vM ⟨A.aj σ z⟩ c hz0
       rw [hzs] at this ⊢
       rw [this,og]
     refine ⟨_,_,?_,rJ r hf e (iX z c) (tO (hzo _) c) (by rw [jF,h4]),⟨fun x hx=>by obtain rfl:=some_inj hx; exact bS ..,fun x hx=>by cases hx⟩⟩
     have w1:IntKind.i64.wrap (l:Int)=l:=by rw [←iQ]; show cond (Nat.blt l _) _ _=_; rw [show Nat.blt l (lim .i64)=true by rw [Nat.blt_eq]; simp only [lim]; omega]; rfl
     have w2:IntKind.i64.wrap (c:Int)=c:=by rw [←iQ]; show cond (Nat.blt c _) _ _=_; rw [show Nat.blt c (lim .i64)=true by rw [Nat.blt_eq]; simp only [lim]; omega]; rfl
     have hmul:te.bytes*c≤1000000*1000000:=Nat.mul_le_mul h7 h6
     have t1:(decide ((c:Int)<0) || decide ((te.bytes:Int)*(c:Int) > 2 ^ 48))=false:=by
      rw [Bool.or_eq_false_iff,decide_eq_false_iff_not,decide_eq_false_iff_not]
      refine ⟨by omega,?_⟩
      have:((te.bytes*c:Nat):Int)=(te.bytes:Int)*c:=by simp
      omega
     have t2:¬((decide ((c:Int)<0) || decide ((te.bytes:Int)*(c:Int) > 2 ^ 48)) || decide ((l:Int)<0) || decide ((l:Int) > c))=true:=by
      rw [t1]; simp; omega
     simp only [Instr.makeSlice,Sem.run_bind,run_underlying hu,Result.andThen_ok,e1,e2,asInt,asIntOf,Sem.run_pure,typeInfo,run_program,hi,hby,w1,w2]
     rw [if_neg (by simpa using t2)]
     by_cases h0:c*te.size=0
     ·simp only [if_pos h0] at hinit
      simp only [Sem.run_bind,run_askRoom,Result.andThen_ok,dY hte,Int.toNat_natCast,if_pos h0,hinit,newRow,run_newObj,Sem.run_pure,A.den,Option.map_some,mF,Val.ex,Nat.add_zero]
     ·simp only [if_neg h0] at hinit
      simp only [Sem.run_bind,run_askRoom,Result.andThen_ok,dY hte,Int.toNat_natCast,if_neg h0,zeroValue,typeInfo,run_program,hi,hv,hinit,newRow,run_newObj,Sem.run_pure,A.den,Option.map_some,mF,Val.ex,Nat.add_zero]
theorem ng (g o:Nat) (t:TypeId) (lo hi:Nat):∀(vs:List Value) (i:Nat) (cur:Array Value) (w:World),w.heap[g]? = some (.cells cur t (lo,hi))→(∀k,o+i≤k→k<o+i+vs.length→¬(lo≤k∧k<hi))→o+i+vs.length≤cur.size→(∀v∈vs,v.oneCell'=true) →
  (storeCells ⟨g,o,none⟩ vs i).run P w=.ok () (w.setRow g (cur.toList.take (o+i)++vs++cur.toList.drop (o+i+vs.length)).toArray)
 | [],i,cur,w,hg,_,_,_=>by
  simp only [storeCells,List.append_nil,List.length_nil,Nat.add_zero,List.take_append_drop,Array.toArray_toList]
  rw [setRow_self w g cur t (lo,hi) hg]
  rfl
 | v::rest,i,cur,w,hg,hfz,hl,h1=>by
  have hi':o+i<cur.size:=by simp at hl; omega
  have hadd:(⟨g,o,none⟩:Addr).add i=⟨g,o+i,none⟩:=by unfold Addr.add; split<;>simp_all
  have hcell:w.cell? ⟨g,o+i,none⟩=some cur[o+i]:=by simp [World.cell?,hg,hi']
  have hfro:w.frozen? ⟨g,o+i,none⟩=false:=by
   have:=hfz (o+i) (Nat.le_refl _) (by simp)
   simp only [World.frozen?,hg,Bool.and_eq_false_iff,decide_eq_false_iff_not]
   omega
  have hst:(store ((⟨g,o,none⟩:Addr).add i) v).run P w=.ok () (w.setRow g (cur.setIfInBounds (o+i) v)):=by
   rw [hadd,run_store P w _ v _ (h1 v (by simp)),hcell]
   simp [hfro,setCell_eq_setRow w g (o+i) cur t (lo,hi) v hg]
  have ih:=ng g o t lo hi rest (i+1) (cur.setIfInBounds (o+i) v) (w.setRow g (cur.setIfInBounds (o+i) v)) (setRow_heap w g cur _ t _ hg) (fun k h2 h3=>hfz k (by omega) (by simp; omega)) (by simp at hl ⊢; omega) (fun x hx=>h1 x (by simp [hx]))
  simp only [storeCells,Sem.run_bind,hst,Result.andThen_ok,ih,setRow_setRow]
  congr 3
  have e:=list_seg_step cur.toList (o+i) v rest (by simp at hl ⊢; omega)
  simpa [Array.toList_setIfInBounds,Nat.add_assoc] using e
theorem Lj:∀(l:List A) (t:Tr A) (o k:Nat),(Qq t o l).get k=if o≤k∧k<o+l.length then l[k - o]? else t.get k
 | [],t,o,k=>by simp [Qq]; omega
 | a::l,t,o,k=>by
  simp only [Qq,Lj l,Tr.get_put,List.length_cons]
  by_cases h1:k=o
  ·subst h1
   rw [if_neg (by omega),if_pos rfl,if_pos (by omega),Nat.sub_self]; rfl
  ·by_cases h2:o≤k∧k<o+(l.length+1)
   ·rw [if_pos (by omega),if_pos h2]
    obtain ⟨m,rfl⟩:∃m,k=o+1+m:=⟨k - (o+1),by omega⟩
    rw [show o+1+m - (o+1)=m by omega,show o+1+m - o=m+1 by omega]; simp
   ·rw [if_neg (by omega),if_neg h1,if_neg h2]
theorem rM (r:Rel P.globals.size σ h w) {j o:Nat} {cs:List A} {k:H} (hs:mE h j o cs=some k) (hc:A.oks σ.dom cs) :
  ∃v,(storeCells (σ.ad (j,o)) (A.aj σ cs)).run P w=.ok () v∧Goes P.globals.size σ h w σ k v∧k.nx=h.nx:=by
 unfold mE at hs
 split at hs
 ·rename_i e tr E c hj
  obtain ⟨h1,h2⟩:=aD hs
  obtain rfl:=some_inj h2
  obtain ⟨h3,h4⟩:=and_true h1
  have h4:=fK h4
  have b:=r.at_ j _ hj
  obtain ⟨cur,lo,hi,b1,b2,b3,b4,b5,b6⟩:=b
  have hlen:=aM (σ:=σ) cs
  have run:=ng (P:=P) (σ.blk j) (σ.off j+o) e lo hi (A.aj σ cs) 0 cur w b1 (fun k h5 h6=>(by have:=b5 rfl; omega)) (by omega) (EB h3)
  simp only [Nat.add_zero] at run
  refine ⟨_,run,?_,rfl⟩
  refine Goes.turn r hj rfl (fun i hi=>setRow_other w _ i _ hi) (setRow_size ..) rfl rfl rfl _ ⟨_,lo,hi,setRow_heap w _ cur _ e _ b1,?_,fun k a ha=> ?_,b4,b5,fun hc hw=>⟨by have:=(b6 hc hw).1; simp only [List.size_toArray,List.length_append,List.length_take,List.length_drop,Array.length_toList,hlen]; omega,(b6 hc hw).2⟩⟩
  ·simp only [List.size_toArray,List.length_append,List.length_take,List.length_drop,Array.length_toList,hlen]; omega
  ·rw [Lj] at ha
   by_cases hk:o≤k∧k<o+cs.length
   ·rw [if_pos hk] at ha
    refine ⟨?_,gP.1 hc a (List.mem_of_getElem? ha)⟩
    simp only [List.getElem?_toArray]
    rw [List.append_assoc,List.getElem?_append_right (by simp; omega),List.getElem?_append_left (by simp [hlen]; omega),dD,List.getElem?_map]
    have:σ.off j+k - (List.take (σ.off j+o) cur.toList).length=k - o:=by simp; omega
    rw [this,ha]; rfl
   ·rw [if_neg hk] at ha
    obtain ⟨h5,h6⟩:=b3 k a ha
    refine ⟨?_,h6⟩
    simp only [List.getElem?_toArray]
    rw [List.append_assoc]
    by_cases hlt:k<o
    ·rw [List.getElem?_append_left (by simp; have:=(Array.getElem?_eq_some_iff.1 h5).1; omega),List.getElem?_take,if_pos (by omega)]
     simpa using h5
    ·have:=(Array.getElem?_eq_some_iff.1 h5).1
     rw [List.getElem?_append_right (by simp; omega),List.getElem?_append_right (by simp [hlen]; omega),List.getElem?_drop]
     have e2:σ.off j+o+(A.aj σ cs).length+(σ.off j+k - (List.take (σ.off j+o) cur.toList).length - (A.aj σ cs).length)=σ.off j+k:=by simp [hlen]; omega
     rw [e2]
     simpa using h5
 ·cases hs
theorem TJ {ρ:Operand→Value} {env:Tr A} (he:dR P σ env ρ) (r:Rel P.globals.size σ h w) {t:TypeId} {a x:Operand} {b:A} {k:H} (hs:nW (ah P) env h t a x=some (b,k)) :
  ∃v,(Instr.storeAt t (ρ a) (ρ x)).run P w=.ok () v∧Goes P.globals.size σ h w σ k v∧b=.tup []∧k.nx=h.nx:=by
 unfold nW at hs
 split at hs
 ·cases hs
 ·rename_i p hp
  split at hs
  ·cases hs
  ·rename_i y hy
   split at hs
   ·rename_i k' hk
    have:=some_inj hs
    injection this with q1 q2
    subst q1 q2
    unfold Iw at hk
    split at hk
    ·rename_i j o ti ht
     obtain ⟨h1,h2⟩:=aD hk
     have h1:=aY h1
     obtain ⟨e1,_⟩:=he a _ hp
     obtain ⟨e2,e3⟩:=he x _ hy
     obtain ⟨v,g1,g2,g3⟩:=rM r h2 (cells_ok e3)
     refine ⟨v,?_,g2,rfl,g3⟩
     have hsz:¬(⟨A.aj σ y.cells⟩:Array Value).size≠ti.size:=by simp [aM,h1]
     simp only [Instr.storeAt,e1,e2,A.den,Option.map_some,Instr.sureAddr,Sem.run_bind,Sem.run_pure,Result.andThen_ok,storeVar,dY ht,xP,if_neg hsz]
     exact g1
    ·cases hk
   ·cases hs
end
end Go.Proofs.YteemnmalikomgaaGreatDoor.Ev
