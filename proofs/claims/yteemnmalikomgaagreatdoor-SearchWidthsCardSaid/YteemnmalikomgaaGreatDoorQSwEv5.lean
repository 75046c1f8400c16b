import Derived.Test.YteemnmalikomgaaGreatDoorQSwEv4
import Derived.LaidEql
import Derived.RangeFuncIn
import Derived.RangeFuncLeaves
namespace Go.Proofs.YteemnmalikomgaaGreatDoor.Ev
section
variable {P:Program} {σ:Val} {h:H} {w:World}
def Done (P:Program) (σ:Val) (h:H) (w:World) (s:Sem Next) (a:A) (k:H):Prop :=
 ∃τ v,(s.run P w=.ok (.value (a.den τ)) v∨s.run P w=.ok .skip v∧a=.tup [])∧Goes P.globals.size σ h w τ k v∧a.ok τ.dom
theorem Does.done {s:Sem Value} {a:A} {k:H} (d:Does P σ h w s a k):Done P σ h w (do pure (Next.value (←s))) a k:=by
 obtain ⟨τ,v,h1,h2,h3⟩:=d
 exact ⟨τ,v,.inl (by simp only [Sem.run_bind,h1,Result.andThen_ok,Sem.run_pure]),h2,h3⟩
theorem Dn {h k:H} {x:Option A} {a:A} (e:pv h x=some (a,k)):x=some a∧k=h:=by
 cases x with
 | none=>cases e
 | some b=>obtain ⟨rfl,rfl⟩:=ay e; exact ⟨rfl,rfl⟩
theorem tT {h k:H} {x:Option (A×bZ)} {a:A} (e:nb h x=some (a,k)):∃b,x=some (a,b)∧k=h.new b:=by
 cases x with
 | none=>cases e
 | some b=>obtain ⟨c,d⟩:=b; obtain ⟨rfl,rfl⟩:=ay e; exact ⟨d,rfl,rfl⟩
theorem I6 {env:Tr A} {s t:TypeId} {x:Operand} {a:A} {k:H} (hs:rC (ah P) env h s t x=some (a,k)):Nx h k:=by
 have fin:∀ {z:Option A},(z.map fun b=>(b,h))=some (a,k)→Nx h k:=fun {z} hz=>by
  cases z with
  | none=>cases hz
  | some b=>obtain ⟨rfl,rfl⟩:=ay hz; exact .inl rfl
 unfold rC at hs
 split at hs
 ·cases hs
 ·split at hs
  ·cases hs
  ·split at hs
   ·cases hs
   ·split at hs
    ·split at hs
     ·unfold rowOf at hs
      split at hs
      ·cases hs
      ·split at hs
       ·rw [←(ay hs).2]; exact .inr rfl
       ·split at hs
        ·rw [←(ay hs).2]; exact .inr rfl
        ·cases hs
       ·cases hs
     ·exact fin hs
    ·split at hs
     ·exact fin hs
     ·cases hs
    ·exact fin hs
theorem I7 {xs:Array Operand} {ρ:Operand→Value} {x y:Operand} (e:xs.toList=[x,y]):xs.map ρ = #[ρ x,ρ y]:=by
 apply Array.ext'; rw [Array.toList_map,e]; rfl
theorem VJ {xs:Array Operand} {ρ:Operand→Value} {x:Operand} (e:xs.toList=[x]):xs.map ρ = #[ρ x]:=by
 apply Array.ext'; rw [Array.toList_map,e]; rfl
theorem Uc {env:Tr A} {b:Builtin} {ts:List TypeId} {xs:List Operand} {a:A} {k:H} (hs:yR (ah P) env h b ts xs=some (a,k)):Nx h k:=by
 unfold yR at hs
 split at hs
 ·split at hs
  ·unfold tq at hs
   split at hs
   ·cases hs
   ·split at hs
    ·cases hs
    ·split at hs
     ·cases hs
     ·split at hs
      ·exact BG hs
      ·cases hs
  ·cases hs
 ·split at hs
  ·unfold Bj at hs
   split at hs
   ·cases hs
   ·split at hs
    ·cases hs
    ·split at hs
     ·cases hs
     ·split at hs
      ·split at hs
       ·cases hs
       ·split at hs
        ·rename_i k' hk
         rw [←(ay hs).2]
         unfold putCells at hk
         split at hk
         ·obtain rfl:=some_inj hk; exact .inl rfl
         ·split at hk
          ·obtain rfl:=some_inj hk; exact .inl rfl
          ·exact .inl (rO hk)
        ·cases hs
      ·cases hs
  ·cases hs
 ·split at hs
  ·unfold xK at hs
   split at hs
   ·cases hs
   ·split at hs
    ·split at hs
     ·cases hs
     ·split at hs
      ·rename_i k' hk
       rw [←(ay hs).2]
       unfold putCells at hk
       split at hk
       ·obtain rfl:=some_inj hk; exact .inl rfl
       ·split at hk
        ·obtain rfl:=some_inj hk; exact .inl rfl
        ·exact .inl (rO hk)
      ·cases hs
    ·cases hs
  ·cases hs
 ·split at hs
  ·rw [←(ay hs).2]; exact .inl rfl
  ·cases hs
theorem Ud {ρ:Operand→Value} {env:Tr A} (he:dR P σ env ρ) (r:Rel P.globals.size σ h w) {b:Builtin} {ts:Array TypeId} {ty:TypeId} {cs:Array Bool} {xs:Array Operand} {a:A} {k:H}
  (hs:yR (ah P) env h b ts.toList xs.toList=some (a,k)) (hf:Free σ h.nx k.nx):Done P σ h w (builtin b ts ty cs (xs.map ρ)) a k:=by
 unfold yR at hs
 split at hs
 ·split at hs
  ·rename_i t u x y e1 e2
   have f1:ts = #[t,u]:=by apply Array.ext'; rw [e1]
   subst f1
   rw [I7 e2]
   exact (QA he r hs hf).1.done
  ·cases hs
 ·split at hs
  ·rename_i t l x y e1 e2
   have f1:ts[0]? = some t:=by rw [←Array.getElem?_toList,e1]; rfl
   rw [I7 e2]
   exact (VG he r f1 hs).1.done
  ·cases hs
 ·split at hs
  ·rename_i t l x e1 e2
   have f1:ts[0]? = some t:=by rw [←Array.getElem?_toList,e1]; rfl
   rw [VJ e2]
   exact (TV he r f1 hs).1.done
  ·cases hs
 ·split at hs
  ·rename_i b' _ _ _ a' ha
   obtain ⟨rfl,rfl⟩:=ay hs
   obtain ⟨h1,h2⟩:=UU (σ:=σ) (ty:=ty) (cs:=cs) he ha
   exact ⟨σ,w,.inl (h1 w),.refl r,h2⟩
  ·cases hs
theorem I8 (r:Rel P.globals.size σ h w) {j:Nat} {e:TypeId} {tr:Tr A} {E:Nat} {c:Option (Nat×Nat)} (hj:h.t.get j=some (.cells e tr E c true)):∃cs lo,w.heap[σ.blk j]? = some (.cells cs e (lo,0)):=by
 obtain ⟨cs,lo,hi,h1,_,_,_,h5,_⟩:=r.at_ j _ hj
 obtain rfl:=h5 rfl
 exact ⟨cs,lo,h1⟩
theorem NT (r:Rel P.globals.size σ h w) {j i o u:Nat} {e e':TypeId} {tr tr':Tr A} {E E':Nat} {c c':Option (Nat×Nat)} (hj:h.t.get j=some (.cells e tr E c true)) (hi:h.t.get i=some (.cells e' tr' E' c' true)) (hne:j≠i) :
  (sameAddr (σ.ad (j,o)) (σ.ad (i,u))).run P w=.ok false w:=by
 obtain ⟨cs,lo,h1⟩:=I8 r hj
 obtain ⟨cs',lo',h1'⟩:=I8 r hi
 have hb:¬σ.blk j=σ.blk i:=fun e=>hne (r.inj j _ i _ hj hi e)
 simp [sameAddr,Val.ad,hb,World.frozen?,h1,h1',noView,viewAt,World.shape?,mayBeOne,stringish]
theorem zZ (r:Rel P.globals.size σ h w) {x y:Option (Nat×Nat)} {c:Bool} (hs:Bn h x y=some c) {t e:TypeId} {ie:TypeInfo} (hu:P.underlying t=some (.pointer e)) (hi:P.info? e=some ie) (hz:ie.size≠0) (d:Nat) :
  (Op.equalIn (d+1) t (.pointer (x.map σ.ad)) (.pointer (y.map σ.ad))).run P w=.ok c w∧(c=true→x.map σ.ad=y.map σ.ad):=by
 cases x with
 | none=>cases y with
  | none=>obtain rfl:=some_inj hs; exact ⟨Dk d none hu w,fun _=>rfl⟩
  | some b=>obtain rfl:=some_inj hs; exact ⟨Dk d (some (σ.ad b)) hu w,fun h=>by cases h⟩
 | some a=>cases y with
  | none=>obtain rfl:=some_inj hs; exact ⟨Lh d (σ.ad a) hu w,fun h=>by cases h⟩
  | some b =>
   obtain ⟨j,o⟩:=a
   obtain ⟨i,u⟩:=b
   have run:∀z,(sameAddr (σ.ad (j,o)) (σ.ad (i,u))).run P w=.ok z w→(Op.equalIn (d+1) t (.pointer ((some (j,o)).map σ.ad)) (.pointer ((some (i,u)).map σ.ad))).run P w=.ok z w:=fun z hz'=>by
    simp only [Option.map_some]
    simp [Op.equalIn,run_underlying hu,sizeOf,typeInfo,hi,hz,hz']
   have hs':cond (Nat.beq j i) (some (Nat.beq o u)) (match h.t.get j with
    | some (.cells _ _ _ _ true)=>(match h.t.get i with
     | some (.cells _ _ _ _ true)=>some false
     | _=>none)
    | _=>none)=some c:=hs
   cases hb:Nat.beq j i with
   | true =>
    rw [hb,cond_true] at hs'
    obtain rfl:=some_inj hs'
    obtain rfl:=aY hb
    refine ⟨run _ ?_,fun h=> ?_⟩
    ·cases ho:Nat.beq o u with
     | true=>obtain rfl:=aY ho; exact run_sameAddr_same w _
     | false =>
      have hne:o≠u:=fun e=>by rw [e,Nat.beq_refl] at ho; cases ho
      simp [sameAddr,Val.ad,hne]
    ·obtain rfl:=aY h; rfl
   | false =>
    rw [hb,cond_false] at hs'
    have hne:j≠i:=fun e=>by rw [e,Nat.beq_refl] at hb; cases hb
    split at hs'
    ·rename_i hj
     split at hs'
     ·rename_i hi'
      obtain rfl:=some_inj hs'
      exact ⟨run _ (NT r hj hi' hne),fun h=>by cases h⟩
     ·cases hs'
    ·cases hs'
theorem qp {t:TypeId} (h:oQ (ah P) t=true):∃e ie,P.underlying t=some (.pointer e)∧P.info? e=some ie∧ie.size≠0:=by
 unfold oQ at h
 split at h
 ·rename_i e _ _ _ _ ht
  split at h
  ·rename_i ti hti
   obtain ⟨ie,h1,h2,_⟩:=(dP hti).ex
   refine ⟨e,ie,(dP ht).d,h1,fun hz=> ?_⟩
   rw [←h2,hz] at h
   simp at h
  ·cases h
 ·cases h
theorem QE (r:Rel P.globals.size σ h w) {op:BinOp} {t:TypeId} {x y:Option (Nat×Nat)} {c:Bool} {a:A} (ht:oQ (ah P) t=true) (hs:Bn h x y=some c) (ha:jK op c=some a) :
  (binOp op t (.pointer (x.map σ.ad)) (.pointer (y.map σ.ad))).run P w=.ok (a.den σ) w∧a.ok σ.dom:=by
 obtain ⟨e,ie,hu,hi,hz⟩:=qp ht
 have k:=(zZ r hs hu hi hz 9999).1
 have k':(Op.equal t (.pointer (x.map σ.ad)) (.pointer (y.map σ.ad))).run P w=.ok c w:=k
 rcases Lg ha with ⟨rfl,rfl⟩ | ⟨rfl,rfl⟩
 ·refine ⟨?_,by simp [A.ok]⟩
  have e1:binOp .eql t (.pointer (x.map σ.ad)) (.pointer (y.map σ.ad))=(do pure (.bool (←Op.equal t (.pointer (x.map σ.ad)) (.pointer (y.map σ.ad))))):=by
   cases x<;>cases y<;>rfl
  rw [e1]; simp [k',A.den]
 ·refine ⟨?_,by simp [A.ok]⟩
  have e1:binOp .neq t (.pointer (x.map σ.ad)) (.pointer (y.map σ.ad))=(do pure (.bool (!(←Op.equal t (.pointer (x.map σ.ad)) (.pointer (y.map σ.ad)))))):=by
   cases x<;>cases y<;>rfl
  rw [e1]; simp [k',A.den]
theorem I9 (r:Rel P.globals.size σ h w) {t:TypeId} (ht:oQ (ah P) t=true) {k:Option (Nat×Nat)}:∀(es:List (Option (Nat×Nat)×Option (Nat×Nat)×Nat)) (i:Nat) {z:Option (Nat×Option (Nat×Nat))},rF h k es i=some z →
  (Instr.findAsking t (.pointer (k.map σ.ad)) (es.map σ.en) i).run P w=.ok (z.map fun x=>(x.1,.pointer (x.2.map σ.ad))) w∧∀x,z=some x→i≤x.1∧∃e,es[x.1 - i]? = some e∧e.2.1=x.2∧e.1.map σ.ad=k.map σ.ad
 | [],i,z,hz=>by
  obtain rfl:=some_inj hz
  exact ⟨by simp [Instr.findAsking],fun x hx=>by cases hx⟩
 | e::es,i,z,hz=>by
  obtain ⟨el,ie,hu,hi,hsz⟩:=qp ht
  unfold rF at hz
  split at hz
  ·rename_i hs
   obtain rfl:=some_inj hz
   obtain ⟨k1,k2⟩:=zZ r hs hu hi hsz 9999
   have k1':(Op.equal t (.pointer (k.map σ.ad)) (.pointer (e.1.map σ.ad))).run P w=.ok true w:=k1
   refine ⟨?_,fun x hx=> ?_⟩
   ·rw [List.map_cons]
    simp [Instr.findAsking,k1',Val.en]
   ·obtain rfl:=some_inj hx
    exact ⟨Nat.le_refl _,e,by simp,rfl,(k2 rfl).symm⟩
  ·rename_i hs
   obtain ⟨k1,_⟩:=zZ r hs hu hi hsz 9999
   have k1':(Op.equal t (.pointer (k.map σ.ad)) (.pointer (e.1.map σ.ad))).run P w=.ok false w:=k1
   obtain ⟨k3,k4⟩:=I9 r ht es (i+1) hz
   refine ⟨?_,fun x hx=> ?_⟩
   ·rw [List.map_cons]
    simp [Instr.findAsking,Val.en,k1',k3]
   ·obtain ⟨k5,e',k6,k7⟩:=k4 x hx
    refine ⟨by omega,e',?_,k7⟩
    rw [show x.1 - i=(x.1 - (i+1))+1 by omega,List.getElem?_cons_succ]
    exact k6
  ·cases hz
theorem BK (r:Rel P.globals.size σ h w) {t:TypeId} (ht:oQ (ah P) t=true) {k:Option (Nat×Nat)} {es:List (Option (Nat×Nat)×Option (Nat×Nat)×Nat)} {z:Option (Nat×Option (Nat×Nat))} (hz:rF h k es 0=some z) :
  (Instr.findKey t (.pointer (k.map σ.ad)) (es.map σ.en)).run P w=.ok (z.map fun x=>(x.1,.pointer (x.2.map σ.ad))) w∧∀x,z=some x→∃e,es[x.1]? = some e∧e.2.1=x.2∧e.1.map σ.ad=k.map σ.ad:=by
 obtain ⟨k1,k2⟩:=I9 r ht es 0 hz
 obtain ⟨el,ie,hu,_,_⟩:=qp ht
 refine ⟨?_,fun x hx=> ?_⟩
 ·unfold Instr.findKey
  simp only [Sem.run_bind,run_underlying hu,Result.andThen_ok]
  cases es with
  | nil =>
   have:z=none:=by have:=some_inj hz; exact this.symm
   subst this
   simp [Instr.findNow]
  | cons e es =>
   rw [List.map_cons] at k1 ⊢
   have:Instr.findNow (.pointer el) (.pointer (k.map σ.ad)) (σ.en e::es.map σ.en) 0=none:=rfl
   rw [this]
   exact k1
 ·obtain ⟨_,e,h1,h2⟩:=k2 x hx
  exact ⟨e,by simpa using h1,h2⟩
theorem Lr {t:TypeId} {kt:TypeId} (h:mapD (ah P) t=some kt):∃e i,P.underlying t=some (.map kt e)∧oQ (ah P) kt=true∧P.info? e=some i∧i.zero=some (.pointer none):=by
 unfold mapD at h
 split at h
 ·rename_i k e _ _ _ _ ht
  obtain ⟨h1,h2⟩:=aD h
  split at h2
  ·rename_i hte
   obtain rfl:=some_inj h2
   have hq:=(dP hte).eq
   have hd:=(dP hte).d
   unfold eqType at hq
   simp only [hd] at hq
   cases hz:qZ (P.info? e) with
   | false=>rw [hz] at hq; cases hq
   | true =>
    unfold qZ at hz
    split at hz
    ·rename_i i hi
     split at hz
     ·rename_i hzz
      exact ⟨e,i,(dP ht).d,h1,hi,hzz⟩
     ·cases hz
    ·cases hz
  ·cases h2
 ·cases h
theorem zo {t e:TypeId} (hu:P.underlying t=some (.pointer e)) (b:Bool) (n:Nat) (x:Option Addr) (w:World):(Instr.checkKey b (n+1) t (.pointer x)).run P w=.ok () w:=by
 simp [Instr.checkKey,run_underlying hu]
theorem BM {env:Tr A} {op:BinOp} {t:TypeId} {x y:Operand} {a:A} {k:H} (hs:Nz (ah P) env h op t x y=some (a,k)) :
  ∃p q c,aZ (ah P) env x=some (.p p)∧aZ (ah P) env y=some (.p q)∧oQ (ah P) t=true∧Bn h p q=some c∧jK op c=some a∧k=h:=by
 unfold Nz at hs
 split at hs
 ·rename_i p hp
  split at hs
  ·rename_i q hq
   obtain ⟨h1,h2⟩:=aD hs
   split at h2
   ·rename_i c hc
    split at h2
    ·rename_i r hr
     obtain ⟨rfl,rfl⟩:=ay h2
     exact ⟨p,q,c,hp,hq,h1,hc,hr,rfl⟩
    ·cases h2
   ·cases h2
  ·cases hs
 ·cases hs
theorem wD {env:Tr A} {t:TypeId} {x ix:Operand} {ok:Bool} {a:A} {k:H} (hs:kF (ah P) env h t x ix ok=some (a,k)) :
  ok=false∧∃j kk kt es clk z,aZ (ah P) env x=some (.mr (some j))∧aZ (ah P) env ix=some (.p kk)∧mapD (ah P) t=some kt∧h.t.get j=some (.mp es clk)∧rF h kk es 0=some z∧a=.p (z.elim none (·.2))∧k=h:=by
 cases ok with
 | true=>cases hs
 | false =>
  refine ⟨rfl,?_⟩
  unfold kF at hs
  rw [cond_false] at hs
  split at hs
  ·rename_i j hj
   split at hs
   ·rename_i kk hk
    split at hs
    ·rename_i kt hkt
     split at hs
     ·rename_i es clk he
      split at hs
      ·rename_i i v hf
       obtain ⟨rfl,rfl⟩:=ay hs
       exact ⟨j,kk,kt,es,clk,_,hj,hk,hkt,he,hf,rfl,rfl⟩
      ·rename_i hf
       obtain ⟨rfl,rfl⟩:=ay hs
       exact ⟨j,kk,kt,es,clk,_,hj,hk,hkt,he,hf,rfl,rfl⟩
      ·cases hs
     ·cases hs
    ·cases hs
   ·cases hs
  ·cases hs
theorem BO {env:Tr A} {t:TypeId} {x ix y:Operand} {a:A} {k:H} (hs:vH (ah P) env h t x ix y=some (a,k)) :
  ∃j kk vv kt es clk z,aZ (ah P) env x=some (.mr (some j))∧aZ (ah P) env ix=some (.p kk)∧aZ (ah P) env y=some (.p vv)∧mapD (ah P) t=some kt∧h.t.get j=some (.mp es clk)∧rF h kk es 0=some z∧a=.tup [] ∧
   k=h.turn j (z.elim (.mp (es++[(kk,vv,clk)]) (clk+1)) fun i=>.mp (es.modify i.1 fun e=>(kk,vv,e.2.2)) clk):=by
 unfold vH at hs
 split at hs
 ·rename_i j hj
  split at hs
  ·rename_i kk hk
   split at hs
   ·rename_i vv hv
    split at hs
    ·rename_i kt hkt
     split at hs
     ·rename_i es clk he
      split at hs
      ·rename_i i v hf
       obtain ⟨rfl,rfl⟩:=ay hs
       exact ⟨j,kk,vv,kt,es,clk,_,hj,hk,hv,hkt,he,hf,rfl,rfl⟩
      ·rename_i hf
       obtain ⟨rfl,rfl⟩:=ay hs
       exact ⟨j,kk,vv,kt,es,clk,_,hj,hk,hv,hkt,he,hf,rfl,rfl⟩
      ·cases hs
     ·cases hs
    ·cases hs
   ·cases hs
  ·cases hs
 ·cases hs
theorem Lu {D:Nat→Prop} {p:Option (Nat×Nat)} (h:(A.p p).ok D):∀r,p=some r→D r.1:=fun r e=>by subst e; simpa only [A.ok] using h
theorem VK {D:Nat→Prop} {p:Option (Nat×Nat)} (h:∀r,p=some r→D r.1):(A.p p).ok D:=by
 cases p with
 | none=>simp [A.ok]
 | some r=>simp only [A.ok]; exact h r rfl
theorem QF {ρ:Operand→Value} {env:Tr A} (he:dR P σ env ρ) (r:Rel P.globals.size σ h w) {t:TypeId} {x ix:Operand} {ok:Bool} {a:A} {k:H} (hs:kF (ah P) env h t x ix ok=some (a,k)) :
  Does P σ h w (Instr.lookup t (ρ x) (ρ ix) ok) a k:=by
 obtain ⟨rfl,j,kk,kt,es,clk,z,hx,hk,hm,hj,hf,rfl,rfl⟩:=wD hs
 obtain ⟨e,i,hu,hp,hi,hz⟩:=Lr hm
 obtain ⟨el,ie,hku,_,_⟩:=qp hp
 obtain ⟨b1,b2⟩:=r.at_ j _ hj
 obtain ⟨f1,f2⟩:=BK r hp hf
 have go:(getObj (σ.blk j)).run P w=.ok (.map (es.map σ.en).toArray clk) w:=by simp [getObj,Sem.run,b1]
 have ck:=zo hku (es.map σ.en).toArray.isEmpty 9999 (kk.map σ.ad) w
 refine ⟨σ,w,?_,.refl r,?_⟩
 ·rw [(he x _ hx).1,(he ix _ hk).1]
  simp only [A.den,Option.map_some]
  unfold Instr.lookup
  simp only [Sem.run_bind,run_underlying hu,Result.andThen_ok,go,Sem.run_pure,show (10000:Nat)=9999+1 from rfl,ck,f1]
  cases z with
  | none=>simp [zeroValue,typeInfo,hi,hz]
  | some z=>simp
 ·refine VK fun q hq=> ?_
  cases z with
  | none=>cases hq
  | some z =>
   obtain ⟨en,h1,h2,_⟩:=f2 z rfl
   exact (b2 en (List.mem_of_getElem? h1)).2 q (h2.trans hq)
theorem run_setObj_map {r clk:Nat} {es:Array MapEntry} (hr:w.heap[r]? = some (.map es clk)) (o:Obj):(setObj r o).run P w=.ok () { w with heap:=w.heap.setIfInBounds r o }:=by
 simp [setObj,Sem.run,hr]
theorem Xi {ρ:Operand→Value} {env:Tr A} (he:dR P σ env ρ) (r:Rel P.globals.size σ h w) {t:TypeId} {x ix y:Operand} {a:A} {k:H} (hs:vH (ah P) env h t x ix y=some (a,k)) :
  ∃v,(Instr.mapUpdate t (ρ x) (ρ ix) (ρ y)).run P w=.ok () v∧Goes P.globals.size σ h w σ k v∧a=.tup []:=by
 obtain ⟨j,kk,vv,kt,es,clk,z,hx,hk,hv,hm,hj,hf,rfl,rfl⟩:=BO hs
 obtain ⟨e,i,hu,hp,hi,hz⟩:=Lr hm
 obtain ⟨el,ie,hku,_,_⟩:=qp hp
 obtain ⟨b1,b2⟩:=r.at_ j _ hj
 obtain ⟨f1,f2⟩:=BK r hp hf
 have go:(getObj (σ.blk j)).run P w=.ok (.map (es.map σ.en).toArray clk) w:=by simp [getObj,Sem.run,b1]
 have ck:=zo hku false 9999 (kk.map σ.ad) w
 have hin:=(Array.getElem?_eq_some_iff.1 b1).1
 have dk:=Lu (he ix _ hk).2
 have dv:=Lu (he y _ hv).2
 have turn:∀(es':List (Option (Nat×Nat)×Option (Nat×Nat)×Nat)) (clk':Nat),(∀x∈es',Db σ.dom x)→Goes P.globals.size σ h w σ (h.turn j (.mp es' clk')) { w with heap:=w.heap.setIfInBounds (σ.blk j) (.map (es'.map σ.en).toArray clk') }:=fun es' clk' ho =>
  Goes.turn (v:={ w with heap:=w.heap.setIfInBounds (σ.blk j) (.map (es'.map σ.en).toArray clk') }) r hj rfl (fun i hi=>by show (w.heap.setIfInBounds _ _)[i]? = _; rw [Array.getElem?_setIfInBounds_ne (Ne.symm hi)]) (by show (w.heap.setIfInBounds _ _).size=_; simp) rfl rfl rfl (.mp es' clk') ⟨by show (w.heap.setIfInBounds _ _)[_]? = _; simp [hin],ho⟩
 rw [(he x _ hx).1,(he ix _ hk).1,(he y _ hv).1]
 simp only [A.den,Option.map_some]
 cases z with
 | none =>
  refine ⟨_,?_,turn (es++[(kk,vv,clk)]) (clk+1) (fun x hx=> ?_),by trivial⟩
  ·unfold Instr.mapUpdate
   simp only [Sem.run_bind,run_underlying hu,Result.andThen_ok,go,show (10000:Nat)=9999+1 from rfl,ck,f1,Option.map_none]
   rw [run_setObj_map b1]
   congr 3
   simp [Val.en]
  ·rcases List.mem_append.1 hx with h1 | h1
   ·exact b2 x h1
   ·rw [List.mem_singleton.1 h1]; exact ⟨dk,dv⟩
 | some z =>
  obtain ⟨en,h1,h2,h3⟩:=f2 z rfl
  have hen:((es.map σ.en).toArray[z.1]?.map (·.key)).getD (.pointer (kk.map σ.ad))=.pointer (kk.map σ.ad):=by
   simp [h1,Val.en,h3]
  have ks:(Instr.keyThatStays (.pointer (kk.map σ.ad)) (.pointer (kk.map σ.ad))).run P w=.ok (.pointer (kk.map σ.ad)) w:=by
   unfold Instr.keyThatStays
   have:Instr.sameBits 10000 (.pointer (kk.map σ.ad)) (.pointer (kk.map σ.ad))=true:=by
    show ((kk.map σ.ad) == (kk.map σ.ad))=true
    simp
   rw [this]; rfl
  refine ⟨_,?_,turn (es.modify z.1 fun e=>(kk,vv,e.2.2)) clk (fun x hx=> ?_),by trivial⟩
  ·unfold Instr.mapUpdate
   simp only [Sem.run_bind,run_underlying hu,Result.andThen_ok,go,show (10000:Nat)=9999+1 from rfl,ck,f1,Option.map_some,hen,ks]
   rw [run_setObj_map b1]
   congr 3
   rw [List.modify_toArray]
   congr 2
   refine List.ext_getElem? fun n=> ?_
   rw [List.getElem?_modify,List.getElem?_map,List.getElem?_map,List.getElem?_modify]
   cases es[n]? with
   | none=>rfl
   | some e=>by_cases hn:z.1=n<;>simp [hn,Val.en]
  ·obtain ⟨n,hn⟩:=List.mem_iff_getElem?.1 hx
   rw [List.getElem?_modify] at hn
   obtain ⟨e,he',rfl⟩:=Option.map_eq_some_iff.1 hn
   split
   ·exact ⟨dk,dv⟩
   ·exact b2 e (List.mem_of_getElem? he')
def lI:Op→Bool
 | .call c=>(match c.callee with
  | .value _=>true
  | _=>false)
 | _=>false
theorem VL {ev:eU→Option Out} {env:Tr A} {op:Op} (hc:lI op=false) {a:A} {k:H} (hs:kG op (ah P) ev env h=some (a,k)):Nx h k:=by
 have np:∀ {x:Option A},pv h x=some (a,k)→Nx h k:=fun hx=>by rw [(Dn hx).2]; exact .inl rfl
 have nn:∀ {x:Option (A×bZ)},nb h x=some (a,k)→Nx h k:=fun hx=>by obtain ⟨b,_,rfl⟩:=tT hx; exact .inr rfl
 cases op
 case load t x =>
  have hs':rE (ah P) env h t x=some (a,k):=hs
  unfold rE at hs'
  split at hs'
  ·exact np hs'
  ·cases hs'
 case store t p x =>
  have hs':nW (ah P) env h t p x=some (a,k):=hs
  unfold nW at hs'
  split at hs'
  ·cases hs'
  ·split at hs'
   ·cases hs'
   ·split at hs'
    ·rename_i k' hk
     rw [←(ay hs').2]
     unfold Iw at hk
     split at hk
     ·obtain ⟨_,h2⟩:=aD hk; exact .inl (rO h2)
     ·cases hk
    ·cases hs'
 case convert s t x=>exact I6 hs
 case slice t x lo hi mx =>
  have hs':nY (ah P) env h t x lo hi mx=some (a,k):=hs
  unfold nY at hs'
  split at hs'
  ·rw [←(ay hs').2]; exact .inl rfl
  ·unfold nX at hs'
   split at hs'
   ·split at hs'
    ·cases hs'
    ·split at hs'
     ·split at hs'
      ·obtain ⟨_,h2⟩:=aD hs'; rw [←(ay h2).2]; exact .inr rfl
      ·cases hs'
     ·cases hs'
   ·cases hs'
 case range t x =>
  have hs':kU (ah P) env h t x=some (a,k):=hs
  unfold kU at hs'
  split at hs'
  ·cases hs'
  ·split at hs'
   ·split at hs'
    ·rw [←(ay hs').2]; exact .inr rfl
    ·cases hs'
   ·cases hs'
 case next x s =>
  have hs':rD (ah P) env h x s=some (a,k):=hs
  unfold rD at hs'
  split at hs'
  ·obtain ⟨_,h2⟩:=aD hs'
   unfold Iy at h2
   split at h2
   ·rename_i s' pos hj
    have h2':cond (Nat.blt pos s'.length) (some (A.tup [.b true,.i .i64 pos,.i .i32 (Utf8.decode ⟨⟨s'⟩⟩ pos).1],h.turn _ (.iter s' (pos+(Utf8.decode ⟨⟨s'⟩⟩ pos).2)))) (some (.tup [.b false],h))=some (a,k):=h2
    cases hb:Nat.blt pos s'.length with
    | true=>rw [hb] at h2'; rw [←(ay h2').2]; exact .inl rfl
    | false=>rw [hb] at h2'; rw [←(ay h2').2]; exact .inl rfl
   ·cases h2
  ·cases hs'
 case binOp op t x y u =>
  have hs':xL (ah P) env h op t x y=some (a,k):=hs
  unfold xL at hs'
  split at hs'
  ·rw [←(ay hs').2]; exact .inl rfl
  ·obtain ⟨_,_,_,_,_,_,_,_,rfl⟩:=BM hs'; exact .inl rfl
 case makeMap t r =>
  have hs':xM h r=some (a,k):=hs
  unfold xM at hs'
  split at hs'
  ·rw [←(ay hs').2]; exact .inr rfl
  ·cases hs'
 case lookup t x ix ok=>obtain ⟨_,_,_,_,_,_,_,_,_,_,_,_,_,rfl⟩:=wD (show kF (ah P) env h t x ix ok=some (a,k) from hs); exact .inl rfl
 case mapUpdate t x ix y=>obtain ⟨_,_,_,_,_,_,_,_,_,_,_,_,_,_,rfl⟩:=BO (show vH (ah P) env h t x ix y=some (a,k) from hs); exact .inl rfl
 case alloc e=>exact nn hs
 case box e x=>exact nn hs
 case buildSlice t l ps=>exact nn hs
 case makeSlice t l c=>exact nn hs
 case call c =>
  have hs':nJ (ah P) ev env h c=some (a,k):=hs
  unfold nJ at hs'
  split at hs'
  ·rename_i f hf; simp [lI,hf] at hc
  ·exact Uc hs'
  ·cases hs'
 all_goals first | exact np hs | cases hs
theorem VN {ρ:Operand→Value} {env:Tr A} (he:dR P σ env ρ) (r:Rel P.globals.size σ h w) {ev:eU→Option Out} {o:Oper} (hc:lI o.op=false) {a:A} {k:H} (hs:kG o.op (ah P) ev env h=some (a,k)) (hf:Free σ h.nx k.nx):Done P σ h w (execOp ρ o) a k:=by
 obtain ⟨dst,op,type,pos,after,guard⟩:=o
 have pure_:∀ {x:Option A},(∀a,x=some a→yP op (ah P) env=some a)→pv h x=some (a,k)→Done P σ h w (execOp ρ ⟨dst,op,type,pos,after,guard⟩) a k:=fun hx hp=>by
  obtain ⟨h1,rfl⟩:=Dn hp
  obtain ⟨h2,h3⟩:=pure_ok (σ:=σ) (o:=⟨dst,op,type,pos,after,guard⟩) he (hx a h1)
  exact ⟨σ,w,.inl (h2 w),.refl r,h3⟩
 have one:∀ {b:bZ},k=h.new b→¬σ.dom h.nx:=fun hk=>by subst hk; exact hf.one
 cases op
 case load t x =>
  have hs':rE (ah P) env h t x=some (a,k):=hs
  unfold rE at hs'
  split at hs'
  ·rename_i p hp
   obtain ⟨h1,rfl⟩:=Dn hs'
   obtain ⟨h2,h3⟩:=Dm r h1
   refine Does.done ⟨σ,w,?_,.refl r,h3⟩
   rw [(he x p hp).1]; exact h2
  ·cases hs'
 case store t p x =>
  obtain ⟨v,h1,h2,rfl,_⟩:=TJ he r hs
  exact ⟨σ,v,.inr ⟨by simp only [execOp,Sem.run_bind,h1,Result.andThen_ok,Sem.run_pure],rfl⟩,h2,by simp [A.ok,A.oks]⟩
 case convert s t x=>exact (Ua he r hs hf (I6 hs)).done
 case slice t x lo hi mx =>
  have hs':nY (ah P) env h t x lo hi mx=some (a,k):=hs
  unfold nY at hs'
  split at hs'
  ·rename_i b hb
   obtain ⟨rfl,rfl⟩:=ay hs'
   exact ((IV (σ:=σ) he hb).does r).done
  ·have hnx:k.nx=h.nx+1:=by
    unfold nX at hs'
    split at hs'
    ·split at hs'
     ·cases hs'
     ·split at hs'
      ·split at hs'
       ·obtain ⟨_,h2⟩:=aD hs'; rw [←(ay h2).2]
       ·cases hs'
      ·cases hs'
    ·cases hs'
   exact (Xh he r (by rw [hnx] at hf; exact hf.one) hs').1.done
 case range t x =>
  have hnx:k.nx=h.nx+1:=by
   have hs':kU (ah P) env h t x=some (a,k):=hs
   unfold kU at hs'
   split at hs'
   ·cases hs'
   ·split at hs'
    ·split at hs'
     ·rw [←(ay hs').2]; rfl
     ·cases hs'
    ·cases hs'
  exact (Ub he r (by rw [hnx] at hf; exact hf.one) hs).done
 case next x s=>exact (VI he r hs).done
 case binOp op t x y u =>
  have hs':xL (ah P) env h op t x y=some (a,k):=hs
  unfold xL at hs'
  split at hs'
  ·rename_i a' ha'
   obtain ⟨rfl,rfl⟩:=ay hs'
   obtain ⟨h2,h3⟩:=pure_ok (σ:=σ) (o:=⟨dst,.binOp op t x y u,type,pos,after,guard⟩) he (r:=a') ha'
   exact ⟨σ,w,.inl (h2 w),.refl r,h3⟩
  ·obtain ⟨p,q,c,hp,hq,h1,h2,h3,rfl⟩:=BM hs'
   obtain ⟨g1,g2⟩:=QE r h1 h2 h3
   refine Does.done ⟨σ,w,?_,.refl r,g2⟩
   rw [(he x _ hp).1,(he y _ hq).1]
   have eg:(eqGuard op t x y (A.den σ (.p p)) (A.den σ (.p q))).run P w=.ok () w:=by simp only [A.den,eqGuard]; cases op<;>rfl
   simp only [Sem.run_bind,eg,Result.andThen_ok]
   exact g1
 case makeMap t m =>
  have hs':xM h m=some (a,k):=hs
  unfold xM at hs'
  split at hs'
  ·obtain ⟨rfl,rfl⟩:=ay hs'
   refine Does.done ⟨_,_,?_,Goes.new r (.map #[] 0) (.mp [] 0) 0 (one rfl) ⟨by rw [dB]; simp,fun x hx=>by cases hx⟩,bS ..⟩
   simp only [Instr.makeMap,Option.map_none,Sem.run_bind,Sem.run_pure,run_newObj,Result.andThen_ok,A.den,Option.map_some,dB]
  ·cases hs'
 case lookup t x ix ok=>exact (QF he r (show kF (ah P) env h t x ix ok=some (a,k) from hs)).done
 case mapUpdate t x ix y =>
  obtain ⟨v,h1,h2,rfl⟩:=Xi he r (show vH (ah P) env h t x ix y=some (a,k) from hs)
  exact ⟨σ,v,.inr ⟨by simp only [execOp,Sem.run_bind,h1,Result.andThen_ok,Sem.run_pure],rfl⟩,h2,by simp [A.ok,A.oks]⟩
 case alloc e =>
  obtain ⟨b,h1,h2⟩:=tT hs
  have:=TF r (one h2) h1
  rw [←h2] at this
  exact this.done
 case box e x =>
  obtain ⟨b,h1,h2⟩:=tT hs
  have:=Xd he r (one h2) h1
  rw [←h2] at this
  exact this.done
 case buildSlice t l ps =>
  obtain ⟨b,h1,h2⟩:=tT hs
  have:=Xe he r (one h2) h1
  rw [←h2] at this
  exact this.done
 case makeSlice t l c =>
  obtain ⟨b,h1,h2⟩:=tT hs
  have:=Xf he r (one h2) h1
  rw [←h2] at this
  exact this.done
 case call c =>
  have hs':nJ (ah P) ev env h c=some (a,k):=hs
  unfold nJ at hs'
  split at hs'
  ·rename_i f hf; simp [lI,hf] at hc
  ·rename_i b hb
   have:=Ud (ty:=type) (cs:=c.args.map fun | .const _=>true | _=>false) he r hs' hf
   obtain ⟨τ,v,h1,h2,h3⟩:=this
   refine ⟨τ,v,?_,h2,h3⟩
   have e:(execOp ρ ⟨dst,.call c,type,pos,after,guard⟩).run P w=(builtin b c.argTypes type (c.args.map fun | .const _=>true | _=>false) (c.args.map ρ)).run P w:=by
    simp only [execOp,resolve,hb,Sem.run_bind,Sem.run_pure,Result.andThen_ok,invoke]
    rfl
   rw [e]; exact h1
  ·cases hs'
 all_goals first | exact pure_ (fun a h=>h) hs | cases hs
end
end Go.Proofs.YteemnmalikomgaaGreatDoor.Ev
namespace Go.Proofs.YteemnmalikomgaaGreatDoor.Ev
def fe (σ:Val):Option Nat→Fence
 | none=>Fence.wide
 | some l=>Fence.wide.inRound (σ.blk l)
theorem rP (σ:Val) (r:Option Nat) (f:FuncId):(fe σ r).fn f:=by cases r<;>trivial
theorem Ue (σ:Val) (r:Option Nat):(fe σ r).depth=none:=by cases r<;>rfl
theorem Dp (σ:Val) (r:Option Nat) (n:Nat):(fe σ r).depth.isSome=true→1≤n:=fun h=>by rw [Ue] at h; cases h
theorem nu {σ τ:Val} (s:Same σ τ) {r:Option Nat} (h:∀l,r=some l→σ.dom l):fe τ r=fe σ r:=by
 cases r with
 | none=>rfl
 | some l=>simp only [fe]; rw [s.blk l (h l rfl)]
theorem Ja {P:Program} {σ:Val} {r:Option Nat} {n:Nat} {f:FuncId} {args:Array Value} {w:World} {R:Ending→World→Prop} (h:CallsIn Fence.wide n P f args w R):CallsIn (fe σ r) n P f args w R:=by
 cases r<;>exact h
theorem QG {P:Program} {σ:Val} {r:Option Nat} {n l:Nat} {f:FuncId} {tmps:Array Value} {asg body:Code} {w:World} {R:Ending→World→Prop} (h:RoundIn Fence.wide n P l f tmps asg body w R):RoundIn (fe σ r) n P l f tmps asg body w R:=by
 cases r<;>exact h
def marks (σ:Val) (ds:List Nat):List Deferred:=ds.map fun d=>{ target:=.collected (σ.blk d),args:= #[] }
theorem kI {σ τ:Val} (s:Same σ τ) {ds:List Nat} (h:∀d∈ds,σ.dom d):marks τ ds=marks σ ds:=by
 unfold marks
 apply List.map_congr_left
 intro d hd
 rw [s.blk d (h d hd)]
structure At (P:Program) (σ:Val) (r:Option Nat) (env:Tr A) (n:Nat) (ds:List Nat) (h:H) (a:Act) (w:World):Prop where
 rel:Rel P.globals.size σ h w
 env:gI σ env n a.tmps
 defers:a.defers=marks σ ds
 ds:∀d∈ds,σ.dom d
 r:∀l,r=some l→σ.dom l
def Left (P:Program) (σ:Val) (r:Option Nat) (h:H) (w:World) (n:Nat) (e:Exit) (env:Tr A) (ds:List Nat) (k:H):Exit→Act→World→Prop:=fun e' a v =>
 e'=e∧∃τ,Kept σ h w τ k v∧At P τ r env n ds k a v
def Enters (P:Program) (f:FuncId):Prop:=∃fn,P.funcs[f]? = some fn∧fn.body.isNone=false∧(fn.name == "runtime.NumGoroutine")=false
def Says (P:Program):eU→Out→Prop
 | .code r c env n ds h,.left e env' ds' k=>h.nx≤k.nx∧∀σ a w,At P σ r env n ds h a w→Free σ h.nx k.nx→∀m,c.wpIn (fe σ r) m P (Left P σ r h w n e env' ds' k) a w
 | .pass s c env n ds h r,.left e env' ds' k=>h.nx≤k.nx∧∀σ a w,At P σ r env n ds h a w→Free σ h.nx k.nx→∀m (b:Frame) (k':List Item) (cs:List Frame),b.roundOf=(fe σ r).round→(fe σ r).fn b.fn→(fe σ r).room (cs.length+1+m) →
   ∃e' a' w',Left P σ r h w n e env' ds' k e' a' w'∧ArrivesIn (Machine.fenced P (fe σ r)) P (lone (b.atR a (.code c::.inScope s::k')) cs w) b k' cs e' a' w'
 | .call f args h,.val a k=>h.nx≤k.nx∧Enters P f∧∀σ w,Rel P.globals.size σ h w→Free σ h.nx k.nx→A.oks σ.dom args→∀m,CallsIn Fence.wide m P f ⟨A.aj σ args⟩ w fun e v=>∃τ,e=.returned (a.den τ)∧Goes P.globals.size σ h w τ k v∧a.ok τ.dom
 | .round l args h,.val a k=>h.nx≤k.nx∧∀σ w,Rel P.globals.size σ h w→Free σ h.nx k.nx→A.oks σ.dom args→∀m,∃f tmps asg body,(Instr.yield (σ.blk l) ⟨A.aj σ args⟩).run P w=.ok (.round (σ.blk l) f tmps asg body) w ∧
   RoundIn Fence.wide m P (σ.blk l) f tmps asg body w fun e v=>∃τ,e=.returned (a.den τ)∧Goes P.globals.size σ h w τ k v∧a.ok τ.dom
 | _,_=>True
def Truth (P:Program) (ev:eU→Option Out):Prop:=∀j o,ev j=some o→Says P j o
section
variable {P:Program}
theorem Lv {ops:Array Oper} {j:Nat}:nth ops.toList j=ops[j]?:=by rw [gN]; simp
theorem Xj {want:Bool} {a:A} {σ:Val}:jM want a=((match a.den σ with | .bool b=>some b | _=>none) == some want):=by
 cases a
 case b x=>cases x<;>cases want<;>rfl
 case p r=>rfl
 all_goals first | rfl | (simp [jM,A.den])
theorem xS {ops:Array Oper} {σ:Val} {env:Tr A} {n:Nat} {tmps:Array Value} {o:Oper} {b:Bool} (hw:gZ ops.toList env o=some b) (he:gI σ env n tmps):Region.wanted o (yielded ops tmps)=b:=by
 unfold gZ at hw
 unfold Region.wanted
 cases hg:o.guard with
 | none=>rw [hg] at hw; exact some_inj hw
 | some g =>
  obtain ⟨j,want⟩:=g
  rw [hg] at hw
  simp only at hw ⊢
  rw [Lv] at hw
  unfold yielded
  cases hj:ops[j]? with
  | none=>rw [hj] at hw; rw [←some_inj hw]; rfl
  | some g =>
   rw [hj] at hw
   simp only at hw
   unfold NG at hw
   cases hd:g.dst with
   | none=>rw [hd] at hw; rw [←some_inj hw]; simp [hd]
   | some d =>
    rw [hd] at hw
    simp only at hw
    cases ha:env.get d with
    | none=>rw [ha] at hw; cases hw
    | some a =>
     rw [ha] at hw
     rw [←some_inj hw,Xj (σ:=σ)]
     have:=(he.get d a ha).1
     simp only [hd,Option.bind_some,this]
     cases a.den σ<;>rfl
theorem Lx {σ:Val} {env env':Tr A} {n:Nat} {a:Act} {d:Option Tmp} {x:A} (hp:jL env n d x=some env') (he:gI σ env n a.tmps) (hx:x.ok σ.dom):gI σ env' n (a.put d (x.den σ)).tmps:=by
 unfold jL at hp
 cases d with
 | none=>obtain rfl:=some_inj hp; exact he
 | some t =>
  obtain ⟨h1,h2⟩:=aD (b:=Nat.blt t n) hp
  obtain rfl:=some_inj h2
  exact he.put t x (jw h1) hx
theorem put_defers (a:Act) (d:Option Tmp) (v:Value):(a.put d v).defers=a.defers:=by cases d<;>rfl
theorem BP {f:FuncId} (h:Enters P f) (args:Array Value) (w:World):(callFunc f args).run P w=.ok (.enter f args) w:=by
 obtain ⟨fn,h1,h2,h3⟩:=h
 have h4:¬fn.body=none:=by intro e; rw [e] at h2; cases h2
 have h5:¬fn.name = "runtime.NumGoroutine" := by intro e; rw [e] at h3; simp at h3
 simp [callFunc,h1,h4,h5]
theorem yX {ev:eU→Option Out} (T:Truth P ev) {r:Option Nat} {env:Tr A} {n:Nat} {ds:List Nat} {h k:H} {o:Oper} {x:A} (hs:kG o.op (ah P) ev env h=some (x,k)) :
  h.nx≤k.nx∧∀ {σ:Val} {a:Act} {w:World},At P σ r env n ds h a w→Free σ h.nx k.nx→∀m (next:Act→World→Prop) (Q:Exit→Act→World→Prop),
   (∀τ v,Goes P.globals.size σ h w τ k v→x.ok τ.dom→next (a.put o.dst (x.den τ)) v)→o.wpIn (fe σ r) m P a w next Q:=by
 have nodefer:∀c,o.op≠.defer c:=fun c e=>by rw [e] at hs; cases hs
 by_cases hc:lI o.op=false
 ·refine ⟨(VL (P:=P) hc hs).le,fun {σ a w} hat hf m next Q hn=>⟨fun f _=>rP σ r f,?_⟩⟩
  obtain ⟨τ,v,h1,h2,h3⟩:=VN (hat.env.tH hat.rel) hat.rel hc hs hf
  rw [Oper.semAt_eq _ _ _ nodefer]
  rcases h1 with h1 | ⟨h1,rfl⟩
  ·rw [h1]; exact hn τ v h2 h3
  ·rw [h1]; exact hn τ v h2 h3
 ·have hc2:lI o.op=true:=by simpa using hc
  clear hc
  obtain ⟨dst,op,type,pos,after,guard⟩:=o
  cases op
  case call c =>
   have hs':nJ (ah P) ev env h c=some (x,k):=hs
   unfold nJ at hs'
   unfold lI at hc2
   simp only at hc2
   split at hs'
   ·rename_i f hcf
    unfold NJ at hs'
    split at hs'
    ·cases hs'
    ·rename_i g l ht
     unfold target at ht
     split at ht
     ·cases ht
     ·rename_i l0 hl0
      split at ht
      ·rename_i g' fs cs hfv
       have:=some_inj ht
       injection this with this
       obtain ⟨rfl,rfl⟩:=(Prod.mk.injEq .. ▸ this:g'=g∧fs++l0++cs=l)
       cases hev:ev (.call g' (fs++l0++cs) h) with
       | none=>rw [hev] at hs'; cases hs'
       | some out =>
        rw [hev] at hs'
        cases out with
        | left=>cases hs'
        | val y k' =>
         obtain ⟨rfl,rfl⟩:=ay hs'
         obtain ⟨t1,t2,t3⟩:=T _ _ hev
         refine ⟨t1,fun {σ a w} hat hf m next Q hn=>⟨fun f _=>rP σ r f,?_⟩⟩
         have he:=hat.env.tH hat.rel
         obtain ⟨e1,o1⟩:=he f _ hfv
         obtain ⟨e2,o2⟩:=tJ he hl0
         simp only [A.ok] at o1
         have hargs:A.oks σ.dom (fs++l0++cs):=jk (jk o1.1 o2) o1.2
         have hcall:=t3 σ w hat.rel hf hargs (m - 1)
         rw [Oper.semAt_eq _ _ _ nodefer]
         have run:(execOp a.eval ⟨dst,.call c,type,pos,after,guard⟩).run P w=.ok (.enter g' ⟨A.aj σ (fs++l0++cs)⟩) w:=by
          have e3:c.args.map a.eval=⟨A.aj σ l0⟩:=by apply Array.ext'; rw [Array.toList_map]; exact e2
          simp only [execOp,resolve,hcf,e1,A.den,Deferred.ofValue,Sem.run_bind,Sem.run_pure,Result.andThen_ok,invoke,e3]
          rw [BP t2]
          congr 2
          apply Array.ext'
          simp [dD]
         rw [run,Oper.uponIn_enter]
         refine ⟨Dp σ r m,Ja (hcall.mono ?_)⟩
         rintro e v ⟨τ,rfl,g1,g2⟩
         exact hn τ v g1 g2
      ·cases ht
      ·cases ht
    ·rename_i j l ht
     unfold target at ht
     split at ht
     ·cases ht
     ·rename_i l0 hl0
      split at ht
      ·cases ht
      ·rename_i j' hfv
       have:=some_inj ht
       injection this with this
       obtain ⟨rfl,rfl⟩:=(Prod.mk.injEq .. ▸ this:j'=j∧l0=l)
       cases hev:ev (.round j' l0 h) with
       | none=>rw [hev] at hs'; cases hs'
       | some out =>
        rw [hev] at hs'
        cases out with
        | left=>cases hs'
        | val y k' =>
         obtain ⟨rfl,rfl⟩:=ay hs'
         obtain ⟨t1,t3⟩:=T _ _ hev
         refine ⟨t1,fun {σ a w} hat hf m next Q hn=>⟨fun f _=>rP σ r f,?_⟩⟩
         have he:=hat.env.tH hat.rel
         obtain ⟨e1,o1⟩:=he f _ hfv
         obtain ⟨e2,o2⟩:=tJ he hl0
         obtain ⟨fn,tmps,asg,body,y1,y2⟩:=t3 σ w hat.rel hf o2 (m - 1)
         rw [Oper.semAt_eq _ _ _ nodefer]
         have run:(execOp a.eval ⟨dst,.call c,type,pos,after,guard⟩).run P w=.ok (.round (σ.blk j') fn tmps asg body) w:=by
          have e3:c.args.map a.eval=⟨A.aj σ l0⟩:=by apply Array.ext'; rw [Array.toList_map]; exact e2
          simp only [execOp,resolve,hcf,e1,A.den,Deferred.ofValue,Sem.run_bind,Sem.run_pure,Result.andThen_ok,invoke,e3]
          have:(#[]:Array Value)++⟨A.aj σ l0⟩=⟨A.aj σ l0⟩:=by simp
          rw [this]
          exact y1
         rw [run,Oper.uponIn_round]
         refine ⟨Dp σ r m,QG (y2.mono ?_)⟩
         rintro e v ⟨τ,rfl,g1,g2⟩
         exact hn τ v g1 g2
      ·cases ht
   ·rename_i b hb; simp [hb] at hc2
   ·cases hs'
  all_goals cases hc2
end
end Go.Proofs.YteemnmalikomgaaGreatDoor.Ev
namespace Go.Proofs.YteemnmalikomgaaGreatDoor.Ev
section
variable {P:Program}
theorem Left.trans {σ τ:Val} {r:Option Nat} {h h2 k:H} {w w2 v:World} {n:Nat} {e e':Exit} {env:Tr A} {ds:List Nat} {a:Act} (x:Kept σ h w τ h2 w2) (h1:h.nx≤h2.nx) (h3:h2.nx≤k.nx) (y:Left P τ r h2 w2 n e env ds k e' a v) :
  Left P σ r h w n e env ds k e' a v:=by
 obtain ⟨rfl,ρ,y1,y2⟩:=y
 exact ⟨rfl,ρ,x.trans y1 h1 h3,y2⟩
theorem Kept.free {a b:Val} {h k:H} {w v:World} (x:Kept a h w b k v) {m:Nat} (hm:Free a h.nx m) (hk:h.nx≤k.nx):Free b k.nx m:=fun j h1 h2 hd=>by
 rcases x.dom j hd with h3 | h3
 ·exact hm j (by omega) h2 h3
 ·omega
theorem QH {ev:eU→Option Out} (T:Truth P ev) {ops:Array Oper} {r:Option Nat} {n:Nat} {ds:List Nat}:∀(l:List Oper) (i:Nat) {env e:Tr A} {h k:H},ops.toList.drop i=l→zU l (ah P) ev ops.toList n env h=some (e,k) →
  h.nx≤k.nx∧∀ {σ:Val} {a:Act} {w:World},At P σ r env n ds h a w→Free σ h.nx k.nx→∀m (Q:Exit→Act→World→Prop),(∀τ a' v,Kept σ h w τ k v→At P τ r e n ds k a' v→Q .normal a' v) →
   wpOpsIn (fe σ r) m P ops Q (List.range' i l.length) a w
 | [],i,env,e,h,k,hd,hs=>by
  obtain ⟨rfl,rfl⟩:=ay (show some (env,h)=some (e,k) from hs)
  exact ⟨Nat.le_refl _,fun hat _ m Q hQ=>hQ _ _ _ (.refl _ _ _) hat⟩
 | o::l,i,env,e,h,k,hd,hs=>by
  have hs':WJ (zU l (ah P) ev ops.toList n) (op1 (ah P) ev ops.toList n o env h)=some (e,k):=hs
  have hi:ops[i]? = some o:=by
   have:=congrArg (fun l=>l[0]?) hd
   simpa [List.getElem?_drop] using this
  have hd':ops.toList.drop (i+1)=l:=by
   have:=congrArg List.tail hd
   simpa using this
  cases h1:op1 (ah P) ev ops.toList n o env h with
  | none=>rw [h1] at hs'; cases hs'
  | some x =>
   obtain ⟨e1,k1⟩:=x
   rw [h1] at hs'
   have hs2:zU l (ah P) ev ops.toList n e1 k1=some (e,k):=hs'
   obtain ⟨n2,ih⟩:=QH T l (i+1) (ds:=ds) (r:=r) hd' hs2
   unfold op1 at h1
   cases hw:gZ ops.toList env o with
   | none=>rw [hw] at h1; cases h1
   | some b =>
    rw [hw] at h1
    have h1':op2 n o env (@Bool.rec (fun _=>Option (A×H)) (some (.tup [],h)) (kG o.op (ah P) ev env h) b)=some (e1,k1):=h1
    cases b with
    | false =>
     have h2:(match jL env n o.dst (.tup []) with | some e=>some (e,h) | none=>none)=some (e1,k1):=h1'
     cases hp:jL env n o.dst (.tup []) with
     | none=>rw [hp] at h2; cases h2
     | some e2 =>
      rw [hp] at h2
      obtain ⟨rfl,rfl⟩:=ay h2
      refine ⟨n2,fun {σ a w} hat hf m Q hQ=> ?_⟩
      have hwt:=xS hw hat.env
      simp only [List.length_cons,List.range'_succ,wpOpsIn,hi,hwt,Bool.false_eq_true,if_false]
      refine ⟨fun f _=>rP σ r f,ih ⟨hat.rel,?_,by rw [put_defers]; exact hat.defers,hat.ds,hat.r⟩ hf m Q hQ⟩
      exact Lx hp hat.env (by simp [A.ok,A.oks])
    | true =>
     have h2:op2 n o env (kG o.op (ah P) ev env h)=some (e1,k1):=h1'
     unfold op2 at h2
     cases ho:kG o.op (ah P) ev env h with
     | none=>rw [ho] at h2; cases h2
     | some x =>
      obtain ⟨x,k2⟩:=x
      rw [ho] at h2
      simp only at h2
      cases hp:jL env n o.dst x with
      | none=>rw [hp] at h2; cases h2
      | some e2 =>
       rw [hp] at h2
       obtain ⟨rfl,rfl⟩:=ay h2
       obtain ⟨n1,step⟩:=yX T (r:=r) (n:=n) (ds:=ds) ho
       refine ⟨Nat.le_trans n1 n2,fun {σ a w} hat hf m Q hQ=> ?_⟩
       have hwt:=xS hw hat.env
       simp only [List.length_cons,List.range'_succ,wpOpsIn,hi,hwt,if_true]
       refine step hat (hf.mono (Nat.le_refl _) n2) m _ Q fun τ v g1 g2=> ?_
       rw [←nu g1.kept.same hat.r]
       refine ih ⟨g1.rel,?_,?_,fun d hd=>g1.kept.same.dom d (hat.ds d hd),fun l hl=>g1.kept.same.dom l (hat.r l hl)⟩ (g1.free hf n1) m Q fun ρ a' v' x1 x2=>hQ ρ a' v' (g1.kept.trans x1 n1 n2) x2
       ·have:=hat.env.keep g1.kept.same
        exact Lx hp this g2
       ·rw [put_defers,hat.defers,kI g1.kept.same hat.ds]
theorem least {p:Nat→Prop} (h:∃n,p n):∃m,p m∧∀g,p g→m≤g:=by
 obtain ⟨n,hn⟩:=h
 induction n using Nat.strongRecOn with
 | _ n ih =>
  by_cases hl:∃g,g<n∧p g
  ·obtain ⟨g,h1,h2⟩:=hl; exact ih g h1 h2
  ·refine ⟨n,hn,fun g hg=> ?_⟩
   rcases Nat.lt_or_ge g n with h1 | h1
   ·exact absurd ⟨g,h1,hg⟩ hl
   ·exact h1
theorem Dq {F:Fence} {n:Nat} {Q:Exit→Act→World→Prop} {c:Code} {a:Act} {w:World} (J:Nat→Act→World→Prop) {f:Nat} (h0:J f a w)
  (round:∀f a w,J f a w→c.wpIn F n P (Exit.then (fun a' w'=>∃g,g<f∧J g a' w') Q) a w):(Code.loop c).wpIn F n P Q a w:=by
 classical
 refine wpIn_loop (fun a w=>∃f,J f a w) (fun a w=>if h:∃f,J f a w then Classical.choose (least h) else 0) ⟨f,h0⟩ fun a w hI=> ?_
 refine wpIn_mono (round (Classical.choose (least hI)) a w (Classical.choose_spec (least hI)).1) fun e a' w' he=> ?_
 cases e
 case normal =>
  obtain ⟨g,hg,hJ⟩:=he
  refine ⟨⟨g,hJ⟩,?_⟩
  rw [dif_pos ⟨g,hJ⟩,dif_pos hI]
  exact Nat.lt_of_le_of_lt ((Classical.choose_spec (least (p:=fun f=>J f a' w') ⟨g,hJ⟩)).2 g hJ) hg
 all_goals exact he
end
end Go.Proofs.YteemnmalikomgaaGreatDoor.Ev
