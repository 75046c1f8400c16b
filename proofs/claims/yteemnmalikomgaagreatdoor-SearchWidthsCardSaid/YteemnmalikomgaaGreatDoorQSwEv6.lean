import Derived.Test.YteemnmalikomgaaGreatDoorQSwEv5
namespace Go.Proofs.YteemnmalikomgaaGreatDoor.Ev
def Dt (P:Program) (ev:eU→Option Out):Prop:=∀ {ops:Array Oper} {r:Option Nat} {n:Nat} {ds:List Nat} {env e:Tr A} {h k:H},tF (ah P) ev ops n env h=some (e,k) →
  h.nx≤k.nx∧∀ {σ:Val} {a:Act} {w:World},At P σ r env n ds h a w→Free σ h.nx k.nx→∀m id,(Code.region id ops true).wpIn (fe σ r) m P (Left P σ r h w n .normal e ds k) a w
section
variable {P:Program}
theorem Goes.lose {G:Nat} {σ:Val} {h:H} {w v:World} (r:Rel G σ h w) {j:Nat} {b:bZ} (hb:h.t.get j=some b) (hw:b.wr=true)
    (old:∀i,i≠σ.blk j→v.heap[i]? = w.heap[i]?) (hs:v.heap.size=w.heap.size) (ho:v.os=w.os) (ht:v.tape=w.tape) (hu:v.output=w.output):Goes G σ h w σ (h.drop j) v :=
  ⟨⟨.refl _,fun _ h=>.inl h,by omega,ho,ht,hu,fun i hi hn=>old i (fun e=>hn j b hb hw e.symm),fun i x hi=>.inr ⟨i,x,(fu hi).2,fun h=>h,rfl⟩⟩,
   ⟨fun i x hi=>(r.at_ i x (fu hi).2).keep (r.lt i x (fu hi).2) (.refl _) (old _ fun e=>(fu hi).1 (r.inj i x j b (fu hi).2 hb e)),fun i x hi=>r.lt i x (fu hi).2,fun i x k y hi hk e=>r.inj i x k y (fu hi).2 (fu hk).2 e,r.g⟩⟩
theorem qw {σ:Val} {w:World} {j:Nat} {st:LoopState} {pend:Option Code} {env:Tr A} {n:Nat} {ps:Array Tmp} {asg body:Code} {d:Nat} (b:kE σ w j (.lp st pend env n ps asg body d)) :
    ∃f tmps,(Instr.getLoop (σ.blk j)).run P w=.ok { state:=st,pending:=pend,fn:=f,tmps:=tmps,params:=ps,assign:=asg,body:=body,defers:=σ.blk d } w ∧
     w.heap[σ.blk j]? = some (.loop { state:=st,pending:=pend,fn:=f,tmps:=tmps,params:=ps,assign:=asg,body:=body,defers:=σ.blk d })∧gI σ env n tmps∧σ.dom d:=by
  obtain ⟨f,tmps,h1,h2,h3⟩:=b
  exact ⟨f,tmps,by simp [Instr.getLoop,getObj,Sem.run,h1],h1,h2,h3⟩
theorem vO {w:World} {r:Nat} {o o':Obj} (h:w.heap[r]? = some o) (hc:∀c e f,o≠.cells c e f):(setObj r o').run P w=.ok () { w with heap:=w.heap.setIfInBounds r o' }:=by
  simp only [setObj,Sem.run,h]
theorem xU {w:World} {r i:Nat} {o:Obj} (h:i≠r):({ w with heap:=w.heap.setIfInBounds r o }:World).heap[i]? = w.heap[i]?:=by
  simp [Array.getElem?_setIfInBounds_ne (Ne.symm h)]
theorem BQ {σ:Val} {h:H} {w:World} (r:Rel P.globals.size σ h w) {j:Nat} {st:LoopState} {pend:Option Code} {env:Tr A} {n:Nat} {ps:Array Tmp} {asg body:Code} {d:Nat} (hj:h.t.get j=some (.lp st pend env n ps asg body d)) (hst:st≠.busy) :
    ∃v,(Instr.endLoop (σ.blk j)).run P w=.ok pend v∧Goes P.globals.size σ h w σ (h.drop j) v:=by
  obtain ⟨f,tmps,h1,h2,h3,h4⟩:=qw (P:=P) (r.at_ j _ hj)
  refine ⟨{ w with heap:=w.heap.setIfInBounds (σ.blk j) (.loop { state:=.exhausted,pending:=pend,fn:=f,tmps:=tmps,params:=ps,assign:=asg,body:=body,defers:=σ.blk d }) },?_,Goes.lose r hj rfl (fun i hi=>xU hi) (by simp) rfl rfl rfl⟩
  have hb:(st == LoopState.busy)=false:=by cases st<;>first | rfl | exact absurd rfl hst
  simp only [Instr.endLoop,Sem.run_bind,h1,Result.andThen_ok,hb,Bool.false_eq_true,if_false]
  exact (by rw [vO h2 (by intro c e f e'; cases e')]; rfl)
theorem LA {σ:Val} {h:H} {w:World} (r:Rel P.globals.size σ h w) {j:Nat} {st st':LoopState} {pend pend':Option Code} {env:Tr A} {n:Nat} {ps:Array Tmp} {asg body:Code} {d f:Nat} {tmps:Array Value} (hj:h.t.get j=some (.lp st pend env n ps asg body d))
    (h2:w.heap[σ.blk j]? = some (.loop { state:=st,pending:=pend,fn:=f,tmps:=tmps,params:=ps,assign:=asg,body:=body,defers:=σ.blk d })) (h3:gI σ env n tmps) (h4:σ.dom d) :
    Goes P.globals.size σ h w σ (h.turn j (.lp st' pend' env n ps asg body d)) { w with heap:=w.heap.setIfInBounds (σ.blk j) (.loop { state:=st',pending:=pend',fn:=f,tmps:=tmps,params:=ps,assign:=asg,body:=body,defers:=σ.blk d }) } :=
  Goes.turn (v:={ w with heap:=w.heap.setIfInBounds (σ.blk j) (.loop { state:=st',pending:=pend',fn:=f,tmps:=tmps,params:=ps,assign:=asg,body:=body,defers:=σ.blk d }) }) r hj rfl (fun i hi=>xU hi) (by simp) rfl rfl rfl (.lp st' pend' env n ps asg body d)
    ⟨f,tmps,by simp [(Array.getElem?_eq_some_iff.1 h2).1],h3,h4⟩
theorem XL {ev:eU→Option Out} (T:Truth P ev) {r:Option Nat} {g:Operand} {ps:Array Tmp} {asg body:Code} {env:Tr A} {n:Nat} {ds:List Nat} {h:H} {o:Out}
    (hs:WK (ah P) ev r g ps asg body env n ds h=some o):Says P (.code r (.rangeFunc g ps asg body) env n ds h) o:=by
  unfold WK at hs
  split at hs
  · rename_i g' fs cs hg
    split at hs
    · rename_i h1 d ds1 hr
      cases hc:ev (.call g' (fs++.yl h1.nx::cs) (h1.new (.lp .ready none env n ps asg body d))) with
      | none=>rw [hc] at hs; cases hs
      | some o1 =>
        rw [hc] at hs
        have t1:=T _ _ hc
        cases o1 with
        | left=>cases hs
        | val x k =>
          obtain ⟨n1,ent,s1⟩:=t1
          have n1':h1.nx+1≤k.nx:=n1
          unfold UM at hs
          simp only at hs
          have hn0:h.nx≤h1.nx:=by
            unfold around at hr
            split at hr
            · obtain ⟨q1,_⟩:=ay hr; rw [←q1]; simp [H.new]
            · split at hr
              · obtain ⟨q1,_⟩:=ay hr; rw [←q1]; exact Nat.le_refl _
              · cases hr
          have start:∀ {σ:Val} {a:Act} {w:World},At P σ r env n ds h a w→Free σ h.nx k.nx→∀fn:FuncId,∃τ l mark w1,
              (Instr.enterLoop fn a.tmps ps asg body (fe σ r).round).run P w=.ok (l,mark) w1∧Goes P.globals.size σ h w τ (h1.new (.lp .ready none env n ps asg body d)) w1∧τ.blk h1.nx=l∧τ.dom h1.nx∧marks τ ds1=mark++a.defers∧∀d∈ds1,τ.dom d:=by
            intro σ a w hat hf fn
            unfold around at hr
            split at hr
            · obtain ⟨q1,q2⟩:=ay hr
              obtain ⟨q2,q3⟩:=Prod.mk.inj q2
              subst q1 q2 q3
              have f0:¬σ.dom h.nx:=hf _ (Nat.le_refl _) (by simp only [H.new] at n1'; omega)
              have g1:=Goes.new hat.rel (.deferred (some [])) .df 0 f0 (by show _=_; rw [dB]; simp)
              have f1:¬(σ.with h.nx w.heap.size 0 0).dom (h.nx+1):=by
                rintro (e | e)
                · omega
                · exact hf _ (by omega) (by simp only [H.new] at n1'; omega) e
              have en:=hat.env.keep g1.kept.same
              have s2:=Val.je (σ.with h.nx w.heap.size 0 0) (h.nx+1) (w.heap.size+1) 0 0 f1
              have hsz:({ w with heap:=w.heap.push (.deferred (some [])) }:World).heap.size=w.heap.size+1:=by simp
              have g2:=Goes.new g1.rel (.loop { state:=.ready,pending:=none,fn:=fn,tmps:=a.tmps,params:=ps,assign:=asg,body:=body,defers:=w.heap.size }) (.lp .ready none env n ps asg body h.nx) 0 f1
                ⟨fn,a.tmps,by
                  rw [dB]
                  have e1:(Val.with (σ.with h.nx w.heap.size 0 0) (h.nx+1) (w.heap.size+1) 0 0).blk h.nx=w.heap.size:=by rw [s2.blk _ (bS ..),dB]
                  simp only [hsz]
                  show _=some (Obj.loop { state:=.ready,pending:=none,fn:=fn,tmps:=a.tmps,params:=ps,assign:=asg,body:=body,defers:=(Val.with (σ.with h.nx w.heap.size 0 0) (h.nx+1) (w.heap.size+1) 0 0).blk h.nx })
                  rw [e1]
                  show (Array.push _ _)[_]? = _
                  rw [Array.getElem?_push,if_pos (by simp)],en.keep (by rw [hsz]; exact s2),.inr (bS ..)⟩
              rw [hsz] at g2
              refine ⟨_,w.heap.size+1,[{ target:=.collected w.heap.size,args:= #[] }],_,?_,g1.trans g2 (by simp [H.new]) (by simp [H.new]),dB ..,bS ..,?_,fun d hd=> ?_⟩
              · have hro:(fe σ none).round=none:=rfl
                rw [hro]
                simp [Instr.enterLoop]
                rfl
              · show marks (Val.with (σ.with h.nx w.heap.size 0 0) (h.nx+1) (w.heap.size+1) 0 0) (h.nx::ds)=_
                simp only [marks,List.map_cons,hat.defers]
                have e1:(Val.with (σ.with h.nx w.heap.size 0 0) (h.nx+1) (w.heap.size+1) 0 0).blk h.nx=w.heap.size:=by rw [s2.blk _ (bS ..),dB]
                rw [e1]
                have:=kI (g1.kept.same.trans s2) hat.ds
                simp only [marks] at this
                rw [this]
                rfl
              · rcases List.mem_cons.1 hd with rfl | hd
                · exact .inr (bS ..)
                · exact .inr (.inr (hat.ds d hd))
            · rename_i l0
              split at hr
              · rename_i st pend env0 n0 ps0 asg0 body0 d0 hl0
                obtain ⟨q1,q2⟩:=ay hr
                obtain ⟨q2,q3⟩:=Prod.mk.inj q2
                subst q1 q2 q3
                have f0:¬σ.dom h.nx:=hf _ (Nat.le_refl _) (by omega)
                obtain ⟨f9,tmps9,y1,y2,y3,y4⟩:=qw (P:=P) (hat.rel.at_ l0 _ hl0)
                have s2:=Val.je σ h.nx w.heap.size 0 0 f0
                have g2:=Goes.new hat.rel (.loop { state:=.ready,pending:=none,fn:=fn,tmps:=a.tmps,params:=ps,assign:=asg,body:=body,defers:=σ.blk d0 }) (.lp .ready none env n ps asg body d0) 0 f0
                  ⟨fn,a.tmps,by rw [dB,s2.blk _ y4]; simp,hat.env.keep s2,s2.dom _ y4⟩
                refine ⟨_,w.heap.size,[],_,?_,g2,dB ..,bS ..,?_,fun d hd=>s2.dom d (hat.ds d hd)⟩
                · have hro:(fe σ (some l0)).round=some (σ.blk l0):=rfl
                  rw [hro]
                  simp [Instr.enterLoop,y1]
                · rw [kI s2 hat.ds,hat.defers]; rfl
              · cases hr
          have go:∀ {σ:Val} {a:Act} {w:World},At P σ r env n ds h a w→Free σ h.nx k.nx→∀m (Q:Exit→Act→World→Prop),
              (∀τ a' v,Kept σ h w τ k v→At P τ r env n ds1 k a' v→∃jump w4,(Instr.endLoop (τ.blk h1.nx)).run P v=.ok jump w4∧(match jump with | none=>Q .normal a' w4 | some c=>c.wpIn (fe σ r) m P Q a' w4)) →
              (Code.rangeFunc g ps asg body).wpIn (fe σ r) m P Q a w:=by
            intro σ a w hat hf m Q hQ
            refine wpIn_rangeFunc fun fn _=> ?_
            obtain ⟨τ,l,mark,w1,e1,g1,e2,e3,e4,e5⟩:=start hat hf fn
            obtain ⟨v1,o1⟩:=hat.env.tH hat.rel _ _ hg
            simp only [A.ok] at o1
            have hfr:Free τ (h1.nx+1) k.nx:=g1.free hf (by show h.nx≤h1.nx+1; omega)
            have hargs:A.oks τ.dom (fs++.yl h1.nx::cs):=jk (A.lD g1.kept.same.dom o1.1) ⟨e3,A.lD g1.kept.same.dom o1.2⟩
            have hcall:=s1 τ w1 g1.rel hfr hargs (m - 1)
            refine ⟨l,mark,w1,{ target:=.fn (.func g') ⟨A.aj σ cs⟩,args:=(⟨A.aj σ fs⟩:Array Value)++ #[.func (.yield l) #[] #[]] },w1,g',⟨A.aj τ (fs++.yl h1.nx::cs)⟩,w1,e1,?_,fun f' _=>rP σ r f',?_,Dp σ r m,Ja (hcall.mono ?_)⟩
            · have e9:(rangeCall g l).args.map a.eval = #[.func (.yield l) #[] #[]]:=by simp [Act.eval]
              simp only [resolve,e9,v1,A.den,Deferred.ofValue,Sem.run_pure]
            · simp only [invoke]
              rw [BP ent]
              congr 2
              apply Array.ext'
              have d1:=g1.kept.same.aj o1.1
              have d2:=g1.kept.same.aj o1.2
              have da:A.aj τ (fs++.yl h1.nx::cs)=A.aj τ fs++(A.yl h1.nx).den τ::A.aj τ cs:=by simp [dD]
              rw [da,d1,d2,A.den,e2]
              simp
            · rintro e v ⟨ρ,rfl,y1,y2⟩
              have hat':At P ρ r env n ds1 k { a with defers:=mark++a.defers } v :=
                ⟨y1.rel,(hat.env.keep g1.kept.same).keep y1.kept.same,by show mark++a.defers=_; rw [kI y1.kept.same e5,e4],fun d hd=>y1.kept.same.dom d (e5 d hd),fun l hl=>y1.kept.same.dom l (g1.kept.same.dom l (hat.r l hl))⟩
              have:=hQ ρ _ v (g1.kept.trans y1.kept (by show h.nx≤h1.nx+1; omega) n1) hat'
              have e6:ρ.blk h1.nx=l:=by rw [y1.kept.same.blk _ e3,e2]
              rw [e6] at this
              exact this
          split at hs
          · rename_i env0 n0 ps0 asg0 body0 d0 hl
            obtain rfl:=some_inj hs
            refine ⟨by show h.nx≤k.nx; omega,fun σ a w hat hf m=>go hat hf m _ fun τ a' v x1 x2=> ?_⟩
            obtain ⟨v',y1,y2⟩:=BQ x2.rel hl (by simp)
            exact ⟨none,v',y1,rfl,τ,x1.trans y2.kept (by omega) (Nat.le_refl _),⟨y2.rel,x2.env,x2.defers,x2.ds,x2.r⟩⟩
          · rename_i c env0 n0 ps0 asg0 body0 d0 hl
            have t2:=T _ _ hs
            cases o with
            | val=>trivial
            | left e2 env2 ds2 k2 =>
              obtain ⟨n2,s2⟩:=t2
              have n2':k.nx≤k2.nx:=n2
              refine ⟨by omega,fun σ a w hat hf m=>go hat (hf.mono (Nat.le_refl _) n2') m _ fun τ a' v x1 x2=> ?_⟩
              obtain ⟨v',y1,y2⟩:=BQ x2.rel hl (by simp)
              refine ⟨some c,v',y1,?_⟩
              have x1':=x1.trans y2.kept (by omega) (Nat.le_refl _)
              have:=s2 τ a' v' ⟨y2.rel,x2.env,x2.defers,x2.ds,x2.r⟩ (x1'.free hf (by show h.nx≤k.nx; omega)) m
              rw [nu x1.same hat.r] at this
              exact wpIn_mono this fun e a'' v'' hl=>hl.trans x1' (by show h.nx≤k.nx; omega) n2
          · cases hs
    · cases hs
  · cases hs
theorem VO {X:Nat→Option (List A→H→Option (A×H))} {f:Nat} (T:∀g,g≤f→Truth P (ev (ah P) X g)) (D:Dt P (ev (ah P) X f)) {r:Option Nat} {c:Code} {env:Tr A} {n:Nat} {ds:List Nat} {h:H} {o:Out}
    (hs:UN c (ah P) (ev (ah P) X f) r env n ds h=some o):Says P (.code r c env n ds h) o:=by
  have T0:=T f (Nat.le_refl _)
  have here:∀ {e:Exit} {σ:Val} {a:Act} {w:World},At P σ r env n ds h a w→Left P σ r h w n e env ds h e a w:=fun hat=>⟨rfl,_,.refl _ _ _,hat⟩
  cases c
  case skip =>
    obtain rfl:=some_inj (show some (Out.left .normal env ds h)=some o from hs)
    exact ⟨Nat.le_refl _,fun σ a w hat _ m=>wpIn_skip (here hat)⟩
  case label l =>
    obtain rfl:=some_inj (show some (Out.left .normal env ds h)=some o from hs)
    exact ⟨Nat.le_refl _,fun σ a w hat _ m=>wpIn_label (here hat)⟩
  case exit id =>
    obtain rfl:=some_inj (show some (Out.left (.exit id) env ds h)=some o from hs)
    exact ⟨Nat.le_refl _,fun σ a w hat _ m=>wpIn_exit (here hat)⟩
  case goto l =>
    obtain rfl:=some_inj (show some (Out.left (.goto l) env ds h)=some o from hs)
    exact ⟨Nat.le_refl _,fun σ a w hat _ m=>wpIn_goto (here hat)⟩
  case ret =>
    obtain rfl:=some_inj (show some (Out.left .ret env ds h)=some o from hs)
    exact ⟨Nat.le_refl _,fun σ a w hat _ m=>wpIn_ret (here hat)⟩
  case refuse=>cases hs
  case region id ops draw =>
    have hs':NK ds (@Bool.rec (fun _=>Option (Tr A×H)) (zU ops.toList (ah P) (ev (ah P) X f) ops.toList n env h) (tF (ah P) (ev (ah P) X f) ops n env h) draw)=some o:=hs
    cases draw with
    | false =>
      have h2:NK ds (zU ops.toList (ah P) (ev (ah P) X f) ops.toList n env h)=some o:=hs'
      cases ho:zU ops.toList (ah P) (ev (ah P) X f) ops.toList n env h with
      | none=>rw [ho] at h2; cases h2
      | some x =>
        obtain ⟨e,k⟩:=x
        rw [ho] at h2
        obtain rfl:=some_inj (show some (Out.left .normal e ds k)=some o from h2)
        obtain ⟨n1,st⟩:=QH T0 (r:=r) (ds:=ds) ops.toList 0 rfl ho
        refine ⟨n1,fun σ a w hat hf m=>wpIn_region ?_⟩
        have:=st hat hf m (Left P σ r h w n .normal e ds k) fun τ a' v x1 x2=>⟨rfl,τ,x1,x2⟩
        rw [List.range_eq_range']
        simpa using this
    | true =>
      have h2:NK ds (tF (ah P) (ev (ah P) X f) ops n env h)=some o:=hs'
      cases ho:tF (ah P) (ev (ah P) X f) ops n env h with
      | none=>rw [ho] at h2; cases h2
      | some x =>
        obtain ⟨e,k⟩:=x
        rw [ho] at h2
        obtain rfl:=some_inj (show some (Out.left .normal e ds k)=some o from h2)
        obtain ⟨n1,st⟩:=D (r:=r) (ds:=ds) ho
        exact ⟨n1,fun σ a w hat hf m=>st hat hf m id⟩
  case seq c1 c2 =>
    have hs':Br (ev (ah P) X f) r n c2 (ev (ah P) X f (.code r c1 env n ds h))=some o:=hs
    cases h1:ev (ah P) X f (.code r c1 env n ds h) with
    | none=>rw [h1] at hs'; cases hs'
    | some o1 =>
      rw [h1] at hs'
      have t1:=T0 _ _ h1
      cases o1 with
      | val=>obtain rfl:=some_inj (show some _=some o from hs'); trivial
      | left e1 env1 ds1 k1 =>
        have other:e1≠.normal→o=.left e1 env1 ds1 k1→Says P (.code r (.seq c1 c2) env n ds h) o:=fun hne he=>by
          subst he
          obtain ⟨n1,s1⟩:=t1
          refine ⟨n1,fun σ a w hat hf m=>wpIn_seq (wpIn_mono (s1 σ a w hat hf m) ?_)⟩
          intro e a' v hl
          have:=hl.1
          subst this
          cases e<;>first | exact hl | exact absurd rfl hne
        cases e1
        case normal =>
          have h2:ev (ah P) X f (.code r c2 env1 n ds1 k1)=some o:=hs'
          have t2:=T0 _ _ h2
          cases o with
          | val=>trivial
          | left e2 env2 ds2 k2 =>
            obtain ⟨n1,s1⟩:=t1
            obtain ⟨n2,s2⟩:=t2
            refine ⟨Nat.le_trans n1 n2,fun σ a w hat hf m=>wpIn_seq (wpIn_mono (s1 σ a w hat (hf.mono (Nat.le_refl _) n2) m) ?_)⟩
            rintro e a' v ⟨rfl,τ,x1,x2⟩
            show Code.wpIn (fe σ r) m P c2 _ a' v
            have:=s2 τ a' v x2 (x1.free hf n1) m
            rw [nu x1.same hat.r] at this
            exact wpIn_mono this fun e a'' v' hl=>hl.trans x1 n1 n2
        all_goals exact other (by simp) (some_inj (show some _=some o from hs')).symm
  case cond c a b =>
    have hs':NP (ah P) (ev (ah P) X f) r c a b env n ds h=some o:=hs
    unfold NP at hs'
    split at hs'
    · rename_i x hx
      have t1:=T0 _ _ hs'
      cases o with
      | val=>trivial
      | left e1 env1 ds1 k1 =>
        obtain ⟨n1,s1⟩:=t1
        refine ⟨n1,fun σ a' w hat hf m=> ?_⟩
        have hc:=(hat.env.tH hat.rel _ _ hx).1
        have:=s1 σ a' w hat hf m
        cases x with
        | true=>exact wpIn_cond_true hc this
        | false=>exact wpIn_cond_false hc this
    · cases hs'
  case block id c =>
    have hs':Qs id (ev (ah P) X f (.code r c env n ds h))=some o:=hs
    cases h1:ev (ah P) X f (.code r c env n ds h) with
    | none=>rw [h1] at hs'; cases hs'
    | some o1 =>
      rw [h1] at hs'
      have t1:=T0 _ _ h1
      cases o1 with
      | val=>obtain rfl:=some_inj (show some _=some o from hs'); trivial
      | left e1 env1 ds1 k1 =>
        obtain ⟨n1,s1⟩:=t1
        have other:(∀i,e1≠.exit i)→o=.left e1 env1 ds1 k1→Says P (.code r (.block id c) env n ds h) o:=fun hne he=>by
          subst he
          refine ⟨n1,fun σ a w hat hf m=>wpIn_block (wpIn_mono (s1 σ a w hat hf m) ?_)⟩
          intro e a' v hl
          have:=hl.1
          subst this
          cases e<;>first | exact hl | exact absurd rfl (hne _)
        cases e1
        case exit i =>
          have h2:cond (Nat.beq i id) (some (Out.left .normal env1 ds1 k1)) (some (.left (.exit i) env1 ds1 k1))=some o:=hs'
          cases hb:Nat.beq i id with
          | true =>
            rw [hb] at h2
            obtain rfl:=some_inj (show some (Out.left .normal env1 ds1 k1)=some o from h2)
            have hi:=aY hb
            refine ⟨n1,fun σ a w hat hf m=>wpIn_block (wpIn_mono (s1 σ a w hat hf m) ?_)⟩
            rintro e a' v ⟨rfl,τ,x1,x2⟩
            show if i=id then _ else _
            rw [if_pos hi]
            exact ⟨rfl,τ,x1,x2⟩
          | false =>
            rw [hb] at h2
            obtain rfl:=some_inj (show some (Out.left (.exit i) env1 ds1 k1)=some o from h2)
            have hi:=UQ hb
            refine ⟨n1,fun σ a w hat hf m=>wpIn_block (wpIn_mono (s1 σ a w hat hf m) ?_)⟩
            rintro e a' v ⟨rfl,τ,x1,x2⟩
            show if i=id then _ else _
            rw [if_neg hi]
            exact ⟨rfl,τ,x1,x2⟩
        all_goals exact other (fun _ h=>by cases h) (some_inj (show some _=some o from hs')).symm
  case scope c =>
    have hs':ev (ah P) X f (.pass c c env n ds h r)=some o:=hs
    have t1:=T0 _ _ hs'
    cases o with
    | val=>trivial
    | left e1 env1 ds1 k1 =>
      obtain ⟨n1,s1⟩:=t1
      refine ⟨n1,fun σ a w hat hf m b k cs hro hb hr=> ?_⟩
      obtain ⟨e',a',w',x1,x2⟩:=s1 σ a w hat hf m b k cs hro hb hr
      refine ⟨e',a',w',x1,.of_steps (.one (fenced_calm hb hr rfl) ?_) x2⟩
      exact step_lone_go (by simp [stepG,stepG.exec,Frame.atR])
  case loop c =>
    have body:∀g env1 ds1 h1,g≤f→∀o1,ev (ah P) X (g+1) (.code r (.loop c) env1 n ds1 h1)=some o1→∃o2,ev (ah P) X g (.code r c env1 n ds1 h1)=some o2∧Br (ev (ah P) X g) r n (.loop c) (some o2)=some o1:=by
      intro g env1 ds1 h1 hg o1 he
      have he':Br (ev (ah P) X g) r n (.loop c) (ev (ah P) X g (.code r c env1 n ds1 h1))=some o1:=he
      cases hb:ev (ah P) X g (.code r c env1 n ds1 h1) with
      | none=>rw [hb] at he'; cases he'
      | some o2=>rw [hb] at he'; exact ⟨o2,rfl,he'⟩
    have hs':ev (ah P) X (f+1) (.code r (.loop c) env n ds h)=some o:=hs
    cases o with
    | val=>trivial
    | left e1 env1 ds1 k1 =>
      have nxs:∀g,g≤f+1→∀env2 ds2 h2,ev (ah P) X g (.code r (.loop c) env2 n ds2 h2)=some (.left e1 env1 ds1 k1)→h2.nx≤k1.nx:=by
        intro g
        induction g with
        | zero=>intro _ env2 ds2 h2 he; cases he
        | succ g ih =>
          intro hg env2 ds2 h2 he
          obtain ⟨o2,b1,b2⟩:=body g env2 ds2 h2 (by omega) _ he
          have t2:=T g (by omega) _ _ b1
          cases o2 with
          | val=>cases b2
          | left e2 env3 ds3 h3 =>
            cases e2
            case normal=>exact Nat.le_trans t2.1 (ih (by omega) env3 ds3 h3 b2)
            all_goals (have:=some_inj (show some (Out.left _ env3 ds3 h3)=some (.left e1 env1 ds1 k1) from b2); injection this with q1 q2 q3 q4; subst q4; exact t2.1)
      have n1:=nxs _ (Nat.le_refl _) env ds h hs'
      refine ⟨n1,fun σ a w hat hf m=> ?_⟩
      refine Dq (fun g a' w'=>g≤f+1∧∃τ env2 ds2 h2,Kept σ h w τ h2 w'∧h.nx≤h2.nx∧At P τ r env2 n ds2 h2 a' w'∧ev (ah P) X g (.code r (.loop c) env2 n ds2 h2)=some (.left e1 env1 ds1 k1)) (f:=f+1)
        ⟨Nat.le_refl _,σ,env,ds,h,.refl _ _ _,Nat.le_refl _,hat,hs'⟩ ?_
      rintro g a' w' ⟨hg,τ,env2,ds2,h2,x1,x2,x3,x4⟩
      cases g with
      | zero=>cases x4
      | succ g =>
        obtain ⟨o2,b1,b2⟩:=body g env2 ds2 h2 (by omega) _ x4
        have t2:=T g (by omega) _ _ b1
        cases o2 with
        | val=>cases b2
        | left e2 env3 ds3 h3 =>
          obtain ⟨m1,s1⟩:=t2
          have m2:h3.nx≤k1.nx:=by
            cases e2
            case normal=>exact nxs g (by omega) env3 ds3 h3 b2
            all_goals (have:=some_inj (show some (Out.left _ env3 ds3 h3)=some (.left e1 env1 ds1 k1) from b2); injection this with q1 q2 q3 q4; subst q4; exact Nat.le_refl _)
          have fr:=(x1.free hf x2).mono (Nat.le_refl _) m2
          have:=s1 τ a' w' x3 fr m
          rw [nu x1.same hat.r] at this
          refine wpIn_mono this ?_
          rintro e a'' v hl
          obtain ⟨rfl,ρ,y1,y2⟩:=hl
          cases e
          case normal=>exact ⟨g,by omega,by omega,ρ,env3,ds3,h3,x1.trans y1 x2 m1,Nat.le_trans x2 m1,y2,b2⟩
          all_goals
            have:=some_inj (show some (Out.left _ env3 ds3 h3)=some (.left e1 env1 ds1 k1) from b2)
            injection this with q1 q2 q3 q4
            subst q1 q2 q3 q4
            exact ⟨rfl,ρ,x1.trans y1 x2 m1,y2⟩
  case rangeFunc g ps asg body=>exact XL T0 hs
theorem VP {X:Nat→Option (List A→H→Option (A×H))} {f:Nat} (T:Truth P (ev (ah P) X f)) {s c:Code} {env:Tr A} {n:Nat} {ds:List Nat} {h:H} {r:Option Nat} {o:Out}
    (hs:UO (ev (ah P) X f) s n r (ev (ah P) X f (.code r c env n ds h))=some o):Says P (.pass s c env n ds h r) o:=by
  cases h1:ev (ah P) X f (.code r c env n ds h) with
  | none=>rw [h1] at hs; cases hs
  | some o1 =>
    rw [h1] at hs
    have t1:=T _ _ h1
    cases o1 with
    | val=>obtain rfl:=some_inj (show some _=some o from hs); trivial
    | left e1 env1 ds1 k1 =>
      obtain ⟨n1,s1⟩:=t1
      have stay:o=.left e1 env1 ds1 k1→(∀l,e1=.goto l→findLabel s l=none)→Says P (.pass s c env n ds h r) o:=fun he hg=>by
        subst he
        refine ⟨n1,fun σ a w hat hf m b k cs hro hb hr=> ?_⟩
        obtain ⟨e',a',w',hl,harr⟩:=s1 σ a w hat hf m b (.inScope s::k) cs hro hb hr
        refine ⟨e',a',w',hl,?_⟩
        have he:=hl.1
        subst he
        cases e' with
        | normal=>exact StepsIn.trans harr (.one (fenced_calm (fr:=b.atR a' (.inScope s::k)) hb hr rfl) (step_lone_go (by simp [stepG,stepG.exec,Frame.atR])))
        | exit id =>
          have hx:exitTo id (.inScope s::k)=exitTo id k:=by simp [exitTo]
          exact ⟨fun k' hk=>harr.1 k' (by rw [hx]; exact hk),fun hr' hk=>harr.2 hr' (by rw [hx]; exact hk)⟩
        | goto l =>
          have hx:gotoIn l (.inScope s::k)=gotoIn l k:=by simp [gotoIn,hg l rfl]
          exact ⟨fun k' hk=>harr.1 k' (by rw [hx]; exact hk),fun hr' hk=>harr.2 hr' (by rw [hx]; exact hk)⟩
        | ret=>exact harr
        | panic ch=>exact harr
        | outgrown=>exact harr
      cases e1
      case goto l =>
        have h2:(match findLabel s l with | some rest=>ev (ah P) X f (.pass s rest env1 n ds1 k1 r) | none=>some (.left (.goto l) env1 ds1 k1))=some o:=hs
        cases hl:findLabel s l with
        | none =>
          rw [hl] at h2
          exact stay (some_inj h2).symm (fun l' e=>by injection e with e; subst e; exact hl)
        | some rest =>
          rw [hl] at h2
          have t2:=T _ _ h2
          cases o with
          | val=>trivial
          | left e2 env2 ds2 k2 =>
            obtain ⟨n2,s2⟩:=t2
            refine ⟨Nat.le_trans n1 n2,fun σ a w hat hf m b k cs hro hb hr=> ?_⟩
            obtain ⟨e',a',w',⟨rfl,τ,x1,x2⟩,harr⟩:=s1 σ a w hat (hf.mono (Nat.le_refl _) n2) m b (.inScope s::k) cs hro hb hr
            have hg:gotoIn l (.inScope s::k)=some (.code rest::.inScope s::k):=by simp [gotoIn,hl]
            have st:=harr.1 _ hg
            have:=s2 τ a' w' x2 (x1.free hf n1) m b k cs
            rw [nu x1.same hat.r] at this
            obtain ⟨e'',a'',w'',y1,y2⟩:=this hro hb hr
            exact ⟨e'',a'',w'',y1.trans x1 n1 n2,.of_steps st y2⟩
      all_goals exact stay (some_inj (show some _=some o from hs)).symm (fun l e=>by cases e)
theorem ED:∀(l:List A) (t:Tr A) (k j:Nat),(vI t k l).get j=if k≤j∧j<k+l.length then l[j - k]? else t.get j
  | [],t,k,j=>by simp [vI]; omega
  | x::l,t,k,j=>by
    simp only [vI,ED l,Tr.get_put,List.length_cons]
    by_cases h1:j=k
    · subst h1
      rw [if_neg (by omega),if_pos rfl,if_pos (by omega),Nat.sub_self]; rfl
    · by_cases h2:k≤j∧j<k+(l.length+1)
      · rw [if_pos (by omega),if_pos h2]
        obtain ⟨m,rfl⟩:∃m,j=k+1+m:=⟨j - (k+1),by omega⟩
        rw [show k+1+m - (k+1)=m by omega,show k+1+m - k=m+1 by omega]; simp
      · rw [if_neg (by omega),if_neg h1,if_neg h2]
theorem Du {σ:Val} {h:H} {w:World} (r:Rel P.globals.size σ h w) {env:Tr A} {n:Nat} {tmps:Array Value} (he:gI σ env n tmps):∀ {rs:List ResultVar} {l:List A},Di (ah P) env h rs=some l →
    (rs.mapM (fun | .tmp t=>pure (tmps.getD t undef) | .cell a t=>do loadVar t (←asAddr (tmps.getD a undef)):ResultVar→Sem Value)).run P w=.ok (A.aj σ l) w∧A.oks σ.dom l
  | [],l,h=>by obtain rfl:=some_inj h; exact ⟨rfl,trivial⟩
  | .tmp t::rs,l,hs=>by
    simp only [Di] at hs
    split at hs
    · rename_i a r' h1 h2
      obtain rfl:=some_inj hs
      obtain ⟨i1,i2⟩:=Du r he h2
      obtain ⟨e1,e2⟩:=he.get t a h1
      refine ⟨?_,e2,i2⟩
      have e3:tmps.getD t undef=a.den σ:=by simp [e1]
      simp only [List.mapM_cons,Sem.run_bind,Sem.run_pure,Result.andThen_ok,i1,e3]
      rfl
    · cases hs
  | .cell p t::rs,l,hs=>by
    simp only [Di] at hs
    split at hs
    · rename_i a h1
      split at hs
      · rename_i b r' h2 h3
        obtain rfl:=some_inj hs
        obtain ⟨i1,i2⟩:=Du r he h3
        obtain ⟨e1,e2⟩:=he.get p a h1
        obtain ⟨l1,l2⟩:=Dm r h2
        refine ⟨?_,l2,i2⟩
        have e3:tmps.getD p undef=a.den σ:=by simp [e1]
        obtain ⟨q,rfl⟩:∃q,a=.p (some q):=by
          unfold ru at h2
          split at h2
          · split at h2
            · exact ⟨_,rfl⟩
            · cases h2
          · cases h2
        have l1':(loadVar t (σ.ad q)).run P w=.ok (b.den σ) w:=by
          simpa [Instr.loadAt,A.den,Instr.sureAddr] using l1
        have hA:(asAddr (tmps.getD p undef)).run P w=.ok (σ.ad q) w:=by rw [e3]; rfl
        simp only [List.mapM_cons,Sem.run_bind,Sem.run_pure,Result.andThen_ok,hA,l1',i1]
        rfl
      · cases hs
    · cases hs
theorem qx:∀(ds:List Nat) (h k:H),lV h ds=some k→k.nx=h.nx
  | [],h,k,e=>by rw [some_inj (show some h=some k from e)]
  | d::ds,h,k,e=>by
    simp only [lV] at e
    split at e
    · exact qx ds (h.drop d) k e
    · cases e
theorem EF {m:Nat} {fn:Func} {R:Ending→World→Prop} {σ:Val} {env:Tr A} {n:Nat} {tmps:Array Value} {r:Option Nat}:∀(ds:List Nat) {h k:H} {w:World},lV h ds=some k→Rel P.globals.size σ h w→(∀v,Goes P.globals.size σ h w σ k v→∃x,(results fn tmps).run P v=.ok x v∧R (.returned x) v) →
    k.nx=h.nx∧LeavesInM Fence.wide m P fn tmps R (marks σ ds) .returning w
  | [],h,k,w,hd,hr,hR=>by
    obtain rfl:=some_inj hd
    exact ⟨rfl,hR w (.refl hr)⟩
  | d::ds,h,k,w,hd,hr,hR=>by
    simp only [lV] at hd
    split at hd
    · rename_i hj
      have b:w.heap[σ.blk d]? = some (.deferred (some [])):=hr.at_ d _ hj
      have g:=Goes.lose (v:={ w with heap:=w.heap.setIfInBounds (σ.blk d) (.deferred none) }) hr hj rfl (fun i hi=>xU hi) (by simp) rfl rfl rfl
      obtain ⟨n1,ih⟩:=EF (m:=m) (fn:=fn) (R:=R) (tmps:=tmps) (env:=env) (n:=n) (r:=r) ds hd g.rel (fun v g2=>hR v (g.trans g2 (Nat.le_refl _) (Nat.le_of_eq (qx ds _ _ hd).symm)))
      refine ⟨n1,by simp,.inl ⟨σ.blk d,_,rfl,?_,ih⟩⟩
      simp only [Instr.takeDeferred,getObj,setObj,Sem.run,Sem.run_bind,b,Result.andThen_ok]
      rfl
    · cases hd
theorem Uf {X:Nat→Option (List A→H→Option (A×H))} {f:Nat} (T:Truth P (ev (ah P) X f)) {g:FuncId} {args:List A} {h:H} {o:Out} (hs:IC (ah P) (ev (ah P) X f) g args h=some o):Says P (.call g args h) o:=by
  unfold IC at hs
  split at hs
  · rename_i fn hg
    obtain ⟨hf,hok⟩:=Yd hg
    split at hs
    · rename_i c hb
      cases h1:ev (ah P) X f (.code none c (vI .lf 0 args) (Nat.max fn.ntmps args.length) [] h) with
      | none=>rw [h1] at hs; cases hs
      | some o1 =>
        rw [h1] at hs
        have t1:=T _ _ h1
        have hname:(fn.name == "runtime.NumGoroutine")=false:=by
          have:true = !(fn.name == "runtime.NumGoroutine"):=hok
          cases hx:(fn.name == "runtime.NumGoroutine") with
          | false=>rfl
          | true=>rw [hx] at this; cases this
        have ent:Enters P g:=⟨fn,hf,by rw [hb]; rfl,hname⟩
        cases o1 with
        | val=>cases hs
        | left e1 env1 ds1 k1 =>
          obtain ⟨n1,s1⟩:=t1
          have fin:vK (ah P) fn env1 ds1 k1=some o→(e1=.normal∨e1=.ret)→Says P (.call g args h) o:=fun hr he=>by
            unfold vK at hr
            split at hr
            · cases hr
            · rename_i k2 hk
              split at hr
              · cases hr
              · rename_i l hl
                obtain rfl:=some_inj hr
                have n2:k2.nx=k1.nx:=qx _ _ _ hk
                refine ⟨by rw [n2]; exact n1,ent,fun σ w hrel hfr hargs m=> ?_⟩
                refine callsIn_of_wp_marks hf hb trivial ?_
                have hat:At P σ none (vI .lf 0 args) (Nat.max fn.ntmps args.length) [] h { tmps:=(⟨A.aj σ args⟩:Array Value)++Array.replicate (fn.ntmps - (⟨A.aj σ args⟩:Array Value).size) undef,defers:=[] } w:=by
                  refine ⟨hrel,⟨?_,fun t a ha=> ?_⟩,rfl,(fun d hd=>by cases hd),(fun l hl=>by cases hl)⟩
                  · simp only [Array.size_append,List.size_toArray,aM,Array.size_replicate]
                    show args.length+(fn.ntmps - args.length)=max fn.ntmps args.length
                    omega
                  · rw [ED] at ha
                    split at ha
                    · rename_i ht
                      simp only [Nat.sub_zero] at ha
                      refine ⟨?_,gP.1 hargs a (List.mem_of_getElem? ha)⟩
                      rw [Array.getElem?_append_left (by simp [aM]; omega)]
                      simp [dD,ha]
                    · cases ha
                have hw:=s1 σ _ w hat (by rw [n2] at hfr; exact hfr) m
                refine wpIn_mono hw ?_
                rintro e a' v ⟨rfl,τ,x1,x2⟩
                have key:LeavesInM Fence.wide m P fn a'.tmps (fun e v=>∃τ,e=.returned ((match l with | [a]=>a | l=>A.tup l).den τ)∧Goes P.globals.size σ h w τ k2 v∧(match l with | [a]=>a | l=>A.tup l).ok τ.dom) a'.defers .returning v:=by
                  rw [x2.defers]
                  refine (EF (env:=env1) (n:=Nat.max fn.ntmps args.length) (r:=none) ds1 hk x2.rel fun v2 g2=> ?_).2
                  obtain ⟨r1,r2⟩:=Du (g2.rel) x2.env hl
                  refine ⟨(match l with | [a]=>a | l=>A.tup l).den τ,?_,τ,rfl,⟨x1.trans g2.kept n1 (Nat.le_of_eq n2.symm),g2.rel⟩,?_⟩
                  · unfold results
                    simp only [Array.mapM_eq_mapM_toList,Sem.run_bind,Sem.run_map,Sem.run_pure]
                    refine (congrArg (fun z:Result (List Value)=>(z.andThen fun a w'=>.ok a.toArray w').andThen fun a w'=>.ok (if h:a.size=1 then a[0] else Value.tuple a) w') r1).trans ?_
                    simp only [Result.andThen_ok]
                    match l with
                    | []=>rfl
                    | [a]=>simp [A.aj]
                    | a::b::l=>simp [A.aj,A.den]
                  · match l with
                    | []=>simp [A.ok,A.oks]
                    | [a]=>exact r2.1
                    | a::b::l=>simpa only [A.ok] using r2
                rcases he with rfl | rfl
                · exact key
                · exact key
          cases e1
          case normal=>exact fin hs (.inl rfl)
          case ret=>exact fin hs (.inr rfl)
          all_goals cases hs
    · cases hs
  · cases hs
theorem Jb {σ:Val} {n:Nat}:∀ {ps:List Tmp} {args:List A} {env e:Tr A} {tmps:Array Value},FZ env n ps args=some e→gI σ env n tmps→A.oks σ.dom args →
    gI σ e n ((ps.zip (A.aj σ args)).foldl (fun tmps (x:Tmp×Value)=>tmps.setIfInBounds x.1 x.2) tmps)∧args.length=ps.length
  | [],[],env,e,tmps,h,he,_=>by obtain rfl:=some_inj (show some env=some e from h); exact ⟨he,rfl⟩
  | [],_::_,env,e,tmps,h,he,_=>by cases h
  | _::_,[],env,e,tmps,h,he,_=>by cases h
  | t::ps,a::args,env,e,tmps,h,he,ho=>by
    have h':cond (Nat.blt t n) (FZ (env.put t (some a)) n ps args) none=some e:=h
    obtain ⟨h1,h2⟩:=aD h'
    obtain ⟨i1,i2⟩:=Jb h2 (he.put t a (jw h1) ho.1) ho.2
    exact ⟨by simpa [A.aj] using i1,by simp [i2]⟩
theorem Ug {X:Nat→Option (List A→H→Option (A×H))} {f:Nat} (T:Truth P (ev (ah P) X f)) {l:Nat} {args:List A} {h:H} {o:Out} (hs:IG (ev (ah P) X f) l args h=some o):Says P (.round l args h) o:=by
  unfold IG at hs
  split at hs
  · rename_i p0 env n ps asg body d hl
    split at hs
    · rename_i e he
      cases h1:ev (ah P) X f (.code (some l) asg e n [] h) with
      | none=>rw [h1] at hs; cases hs
      | some o1 =>
        rw [h1] at hs
        have t1:=T _ _ h1
        unfold IE at hs
        split at hs
        · rename_i e2 k2 ho1
          obtain rfl:=some_inj ho1
          obtain ⟨n1,s1⟩:=t1
          split at hs
          · rename_i p2 env2 m2 ps2 asg2 b2 d2 hl2
            cases h2:ev (ah P) X f (.code (some l) body e2 n [] (k2.turn l (.lp .busy p2 env2 m2 ps2 asg2 b2 d2))) with
            | none=>rw [h2] at hs; cases hs
            | some o2 =>
              rw [h2] at hs
              have t2:=T _ _ h2
              unfold endRound at hs
              split at hs
              · rename_i x e3 k3 ho2
                obtain rfl:=some_inj ho2
                obtain ⟨n2,s2⟩:=t2
                have n2':k2.nx≤k3.nx:=n2
                split at hs
                · rename_i st3 p3 env3 m3 ps3 asg3 b3 d3 hl3
                  have go:∀ {σ:Val} {w:World},Rel P.globals.size σ h w→Free σ h.nx k3.nx→A.oks σ.dom args→∀m (R:Ending→World→Prop),
                      (∀τ a' v,Kept σ h w τ k3 v→At P τ (some l) e3 n [] k3 a' v→roundPost P (σ.blk l) R x a' v) →
                      ∃f tmps asg body,(Instr.yield (σ.blk l) ⟨A.aj σ args⟩).run P w=.ok (.round (σ.blk l) f tmps asg body) w∧RoundIn Fence.wide m P (σ.blk l) f tmps asg body w R:=by
                    intro σ w hrel hfr hargs m R hR
                    obtain ⟨f9,tmps9,y1,y2,y3,y4⟩:=qw (P:=P) (hrel.at_ l _ hl)
                    obtain ⟨q1,q2⟩:=Jb he y3 hargs
                    have hdl:=hrel.lt l _ hl
                    have hsz:¬((⟨A.aj σ args⟩:Array Value).size≠ps.size):=by simp [aM,q2]
                    refine ⟨f9,(ps.toList.zip (A.aj σ args)).foldl (fun tmps (x:Tmp×Value)=>tmps.setIfInBounds x.1 x.2) tmps9,asg,body,?_,?_⟩
                    · simp only [Instr.yield,Sem.run_bind,y1,Result.andThen_ok,if_neg hsz,Sem.run_pure]
                      congr 2
                      rw [←Array.foldl_toList,Array.toList_zip]
                    · refine roundIn_of_wpIn trivial ?_
                      have hat:At P σ (some l) e n [] h { tmps:=(ps.toList.zip (A.aj σ args)).foldl (fun tmps (x:Tmp×Value)=>tmps.setIfInBounds x.1 x.2) tmps9,defers:=[] } w :=
                        ⟨hrel,q1,rfl,(fun d hd=>by cases hd),(fun l' hl'=>by obtain rfl:=some_inj hl'; exact hdl)⟩
                      have w1:=s1 σ _ w hat (hfr.mono (Nat.le_refl _) n2') m
                      refine wpIn_mono w1 ?_
                      rintro e' a' v ⟨rfl,τ,x1,x2⟩
                      obtain ⟨f8,tmps8,z1,z2,z3,z4⟩:=qw (P:=P) (x2.rel.at_ l _ hl2)
                      have eb:τ.blk l=σ.blk l:=x1.same.blk l hdl
                      have g2:=LA (st':=.busy) (pend':=p2) x2.rel hl2 z2 z3 z4
                      rw [eb] at z1 z2 g2
                      refine ⟨{ v with heap:=v.heap.setIfInBounds (σ.blk l) (.loop { state:=.busy,pending:=p2,fn:=f8,tmps:=tmps8,params:=ps2,assign:=asg2,body:=b2,defers:=τ.blk d2 }) },?_,?_⟩
                      · simp only [Instr.beginRound,Sem.run_bind,z1,Result.andThen_ok]
                        rw [vO z2 (by intro c e f e'; cases e')]
                        rfl
                      · have hat2:At P τ (some l) e2 n [] (k2.turn l (.lp .busy p2 env2 m2 ps2 asg2 b2 d2)) a' { v with heap:=v.heap.setIfInBounds (σ.blk l) (.loop { state:=.busy,pending:=p2,fn:=f8,tmps:=tmps8,params:=ps2,assign:=asg2,body:=b2,defers:=τ.blk d2 }) } :=
                          ⟨g2.rel,x2.env,x2.defers,x2.ds,x2.r⟩
                        have x1':=x1.trans g2.kept n1 (Nat.le_refl _)
                        have w2:=s2 τ a' _ hat2 (x1'.free hfr n1) m
                        rw [nu x1.same hat.r] at w2
                        refine wpIn_mono w2 ?_
                        rintro e'' a'' v' ⟨rfl,ρ,u1,u2⟩
                        exact hR ρ a'' v' (x1'.trans u1 n1 n2) u2
                  have fin:∀ {jump:Option Code} {y:A} {st':LoopState},Qu x=some jump→y=.b jump.isNone→st'=(if jump.isNone then LoopState.ready else .done)→o=.val y (k3.turn l (.lp st' jump env3 m3 ps3 asg3 b3 d3))→Says P (.round l args h) o:=by
                    intro jump y st' hj hy hst ho
                    subst ho hy hst
                    refine ⟨Nat.le_trans n1 n2',fun σ w hrel hfr hargs m=>go hrel hfr hargs m _ fun τ a' v x1 x2=> ?_⟩
                    have hdl:=hrel.lt l _ hl
                    obtain ⟨f8,tmps8,z1,z2,z3,z4⟩:=qw (P:=P) (x2.rel.at_ l _ hl3)
                    have eb:τ.blk l=σ.blk l:=x1.same.blk l hdl
                    have g2:=LA (st':=if jump.isNone then LoopState.ready else .done) (pend':=jump) x2.rel hl3 z2 z3 z4
                    rw [eb] at z1 z2 g2
                    have run:(Instr.endRound (σ.blk l) jump).run P v=.ok (.bool jump.isNone) { v with heap:=v.heap.setIfInBounds (σ.blk l) (.loop { state:=if jump.isNone then LoopState.ready else .done,pending:=jump,fn:=f8,tmps:=tmps8,params:=ps3,assign:=asg3,body:=b3,defers:=τ.blk d3 }) }:=by
                      simp only [Instr.endRound,Sem.run_bind,z1,Result.andThen_ok]
                      rw [vO z2 (by intro c e f e'; cases e')]
                      rfl
                    have res:∃v' w',(Instr.endRound (σ.blk l) jump).run P v=.ok v' w'∧∃τ,Ending.returned v'=.returned ((A.b jump.isNone).den τ)∧Goes P.globals.size σ h w τ (k3.turn l (.lp (if jump.isNone then LoopState.ready else .done) jump env3 m3 ps3 asg3 b3 d3)) w'∧(A.b jump.isNone).ok τ.dom :=
                      ⟨_,_,run,τ,rfl,⟨x1.trans g2.kept (Nat.le_trans n1 n2') (Nat.le_refl _),g2.rel⟩,by simp [A.ok]⟩
                    cases x
                    case normal=>obtain rfl:=some_inj (show some none=some jump from hj); exact res
                    case ret=>obtain rfl:=some_inj (show some (some Code.ret)=some jump from hj); exact res
                    case exit i=>obtain rfl:=some_inj (show some (some (Code.exit i))=some jump from hj); exact res
                    case goto i=>obtain rfl:=some_inj (show some (some (Code.goto i))=some jump from hj); exact res
                    all_goals cases hj
                  split at hs
                  · rename_i hj; exact fin hj rfl rfl (some_inj hs).symm
                  · rename_i c hj; exact fin hj rfl rfl (some_inj hs).symm
                  · cases hs
                · cases hs
              · cases hs
          · cases hs
        · cases hs
    · cases hs
  · cases hs
def Told (P:Program) (X:Nat→Option (List A→H→Option (A×H))):Prop:=∀f x args h a k,X f=some x→x args h=some (a,k)→Says P (.call f args h) (.val a k)
theorem truth {X:Nat→Option (List A→H→Option (A×H))} (hX:Told P X) (hD:∀f,(∀g,g≤f→Truth P (ev (ah P) X g))→Dt P (ev (ah P) X f)):∀f,Truth P (ev (ah P) X f):=by
  intro f
  induction f using Nat.strongRecOn with
  | _ f ih =>
    cases f with
    | zero=>intro j o h; cases h
    | succ f =>
      have T:∀g,g≤f→Truth P (ev (ah P) X g):=fun g hg=>ih g (by omega)
      intro j o h
      have h':step j (ah P) (ev (ah P) X f) X=some o:=h
      cases j with
      | code r c env n ds h0=>exact VO T (hD f T) h'
      | pass s c env n ds h0 r=>exact VP (T f (Nat.le_refl _)) h'
      | round l args h0=>exact Ug (T f (Nat.le_refl _)) h'
      | call g args h0 =>
        have h2:NQ g args h0 (ah P) (ev (ah P) X f) X=some o:=h'
        unfold NQ at h2
        split at h2
        · rename_i x hx
          unfold Qt at h2
          split at h2
          · rename_i a k hk
            obtain rfl:=some_inj h2
            exact hX g x args h0 a k hx hk
          · cases h2
        · exact Uf (T f (Nat.le_refl _)) h2
end
end Go.Proofs.YteemnmalikomgaaGreatDoor.Ev
namespace Go.Proofs.YteemnmalikomgaaGreatDoor.Ev
section
variable {T:Tab} {env env':Tr A}
theorem oU:∀ {xs:List Operand},(∀x∈xs,aZ T env x=aZ T env' x)→mW T env xs=mW T env' xs
 | [],_=>rfl
 | x::xs,h=>by simp only [mW,h x (List.mem_cons_self ..),oU fun y hy=>h y (List.mem_cons_of_mem _ hy)]
theorem sF:∀ {xs:List (Nat×Operand)},(∀x∈xs.map (·.2),aZ T env x=aZ T env' x)→parts T env xs=parts T env' xs
 | [],_=>rfl
 | (i,x)::xs,h=>by simp only [parts,h x (by simp),sF fun y hy=>h y (by simp only [List.map_cons]; exact List.mem_cons_of_mem _ hy)]
theorem vP {o:Option Operand} (h:∀x∈o.toList,aZ T env x=aZ T env' x):zQ T env o=zQ T env' o:=by
 cases o with
 | none=>rfl
 | some x=>simp only [zQ,h x (by simp)]
theorem EG {b:Builtin} {ts:List TypeId} {xs:List Operand} (h:∀x∈xs,aZ T env x=aZ T env' x):Bh T env b ts xs=Bh T env' b ts xs:=by
 unfold Bh
 split
 ·split
  ·simp only [Nw,h _ (List.mem_cons_self ..)]
  ·rfl
 ·split
  ·simp only [Ny,h _ (List.mem_cons_self ..)]
  ·rfl
 ·split
  ·simp only [Ld,h _ (List.mem_cons_self ..),h _ (List.mem_cons_of_mem _ (List.mem_cons_self ..))]
  ·rfl
 ·split
  ·simp only [Ld,h _ (List.mem_cons_self ..),h _ (List.mem_cons_of_mem _ (List.mem_cons_self ..))]
  ·rfl
 ·rfl
theorem pure_congr {op:Op} (h:∀x∈aK op,aZ T env x=aZ T env' x):yP op T env=yP op T env':=by
 cases op
 case move x=>exact h x (by simp [aK])
 case assign x=>exact h x (by simp [aK])
 case pick c a b=>show vo T env c a b=vo T env' c a b; simp only [vo,h c (by simp [aK]),h a (by simp [aK]),h b (by simp [aK])]
 case build t ps=>show qh T env t _=qh T env' t _; simp only [qh,sF (T:=T) (env:=env) (env':=env') (xs:=ps.toList) h]
 case nilCheck x=>show zR T env x=zR T env' x; simp only [zR,h x (by simp [aK])]
 case binOp op t x y u=>show vw T env op t x y=vw T env' op t x y; simp only [vw,h x (by simp [aK]),h y (by simp [aK])]
 case unOp op t x=>show Ir T env op x=Ir T env' op x; simp only [Ir,h x (by simp [aK])]
 case convert s t x=>show q9 T env s t x=q9 T env' s t x; simp only [q9,h x (by simp [aK])]
 case slice t x lo hi mx =>
  show mD T env t x lo hi mx=mD T env' t x lo hi mx
  simp only [mD,h x (by simp [aK]),vP (T:=T) (env:=env) (env':=env') (o:=lo) (fun y hy=>h y (by simp [aK] at *; simp [hy])),vP (T:=T) (env:=env) (env':=env') (o:=hi) (fun y hy=>h y (by simp [aK] at *; simp [hy])),
   vP (T:=T) (env:=env) (env':=env') (o:=mx) (fun y hy=>h y (by simp [aK] at *; simp [hy]))]
 case fieldAddr s x f=>show qj T env s x f=qj T env' s x f; simp only [qj,h x (by simp [aK])]
 case field s x f=>show ql T env s x f=ql T env' s x f; simp only [ql,h x (by simp [aK])]
 case indexAddr t x ix=>show qm T env t x ix=qm T env' t x ix; simp only [qm,xJ,h x (by simp [aK]),h ix (by simp [aK])]
 case index t x ix=>show qo T env t x ix=qo T env' t x ix; simp only [qo,xJ,h x (by simp [aK]),h ix (by simp [aK])]
 case extract x ix=>show vC T env x ix=vC T env' x ix; simp only [vC,h x (by simp [aK])]
 case makeFunc f fs cs =>
  show zS T env f fs.toList cs.toList=zS T env' f fs.toList cs.toList
  simp only [zS,oU (T:=T) (env:=env) (env':=env') (xs:=fs.toList) (fun y hy=>h y (by simp only [aK,List.mem_append]; exact .inl hy)),oU (T:=T) (env:=env) (env':=env') (xs:=cs.toList) (fun y hy=>h y (by simp only [aK,List.mem_append]; exact .inr hy))]
 case call c =>
  show Le T env c=Le T env' c
  unfold Le
  split
  ·exact EG fun y hy=>h y (by simp only [aK,List.mem_append]; exact .inr hy)
  ·rfl
 all_goals rfl
theorem rQ {op:Op} {n:Nat} (h:∀x∈aK op,aZ T env x=aZ T env' x):Iu op T env n=Iu op T env' n:=by
 cases op
 case box e x=>show vD T env n e x=vD T env' n e x; simp only [vD,h x (by simp [aK])]
 case buildSlice t l ps=>show vE T env n t l _=vE T env' n t l _; simp only [vE,sF (T:=T) (env:=env) (env':=env') (xs:=ps.toList) h]
 case makeSlice t l c=>show vF T env n t l c=vF T env' n t l c; simp only [vF,xJ,h l (by simp [aK]),h c (by simp [aK])]
 all_goals rfl
theorem NU {ev:eU→Option Out} {op:Op} {k:H} (h:∀x∈aK op,aZ T env x=aZ T env' x):kG op T ev env k=kG op T ev env' k:=by
 have hp:=pure_congr (T:=T) h
 cases op
 case load t x=>show rE T env k t x=rE T env' k t x; simp only [rE,h x (by simp [aK])]
 case store t a x=>show nW T env k t a x=nW T env' k t a x; simp only [nW,h a (by simp [aK]),h x (by simp [aK])]
 case convert s t x=>show rC T env k s t x=rC T env' k s t x; simp only [rC,h x (by simp [aK])]
 case slice t x lo hi mx =>
  have e1:mD T env t x lo hi mx=mD T env' t x lo hi mx:=hp
  show nY T env k t x lo hi mx=nY T env' k t x lo hi mx
  have e2:nX T env k t x lo hi mx=nX T env' k t x lo hi mx:=by
   unfold nX
   split
   ·rename_i l
    simp only [xJ,h x (by simp [aK]),h l (by simp [aK])]
   ·rfl
  simp only [nY,e1,e2]
 case range t x=>show kU T env k t x=kU T env' k t x; simp only [kU,h x (by simp [aK])]
 case next x s=>show rD T env k x s=rD T env' k x s; simp only [rD,h x (by simp [aK])]
 case binOp op t x y ty =>
  have e1:vw T env op t x y=vw T env' op t x y:=hp
  show xL T env k op t x y=xL T env' k op t x y
  simp only [xL,e1,Nz,h x (by simp [aK]),h y (by simp [aK])]
 case makeMap t r=>rfl
 case lookup t x ix ok=>show kF T env k t x ix ok=kF T env' k t x ix ok; simp only [kF,h x (by simp [aK]),h ix (by simp [aK])]
 case mapUpdate t x ix y=>show vH T env k t x ix y=vH T env' k t x ix y; simp only [vH,h x (by simp [aK]),h ix (by simp [aK]),h y (by simp [aK])]
 case alloc e=>rfl
 case box e x=>exact congrArg (nb k) (rQ (T:=T) (op:=.box e x) (n:=k.nx) h)
 case buildSlice t l ps=>exact congrArg (nb k) (rQ (T:=T) (op:=.buildSlice t l ps) (n:=k.nx) h)
 case makeSlice t l c=>exact congrArg (nb k) (rQ (T:=T) (op:=.makeSlice t l c) (n:=k.nx) h)
 case call c =>
  show nJ T ev env k c=nJ T ev env' k c
  unfold nJ
  split
  ·rename_i f hf
   have e1:aZ T env f=aZ T env' f:=h f (by simp [aK,hf])
   have e2:mW T env c.args.toList=mW T env' c.args.toList:=oU fun y hy=>h y (by simp only [aK,List.mem_append]; exact .inr hy)
   simp only [NJ,target,e1,e2]
  ·rename_i b hb
   have hx:∀x∈c.args.toList,aZ T env x=aZ T env' x:=fun y hy=>h y (by simp only [aK,List.mem_append]; exact .inr hy)
   have e3:∀b ts,Bh T env b ts c.args.toList=Bh T env' b ts c.args.toList:=fun b ts=>EG hx
   unfold yR
   split
   ·split
    ·rename_i t u x y e1 e2
     simp only [tq,hx x (by rw [e2]; simp),hx y (by rw [e2]; simp)]
    ·rfl
   ·split
    ·rename_i t l x y e1 e2
     simp only [Bj,hx x (by rw [e2]; simp),hx y (by rw [e2]; simp)]
    ·rfl
   ·split
    ·rename_i t l x e1 e2
     simp only [xK,hx x (by rw [e2]; simp)]
    ·rfl
   ·rw [e3]
  ·rfl
 all_goals exact congrArg (pv k) hp
noncomputable def only (env:Tr A):List Nat→Tr A
 | []=>.lf
 | t::l=>(only env l).put t (env.get t)
theorem vQ:∀ {l:List Nat} {t:Nat},(only env l).get t=if t∈l then env.get t else none
 | [],t=>by simp [only,Tr.p8]
 | x::l,t=>by
  simp only [only,Tr.get_put,vQ (l:=l)]
  by_cases h1:t=x
  ·subst h1; simp
  ·simp [h1]
theorem BU:∀ {l:List Operand} {t:Nat},Operand.tmp t∈l→t∈tmpsOf l
 | x::l,t,h=>by
  rcases List.mem_cons.1 h with h | h
  ·subst h; simp [tmpsOf]
  ·have:=BU h
   cases x<;>simp [tmpsOf,this]
end
end Go.Proofs.YteemnmalikomgaaGreatDoor.Ev
