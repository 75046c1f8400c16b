import Derived.Test.YteemnmalikomgaaGreatDoorQSwEv7
import Derived.Below
noncomputable section
namespace Go.Proofs.YteemnmalikomgaaGreatDoor.Ev
theorem QK {α:Type} {_f:Nat→Option α} {S:List gX} (g:gX→Prop):∃l:List (Nat×bZ),∀y,y∈l↔∃p∈S,g p∧y=(p.id,p.blk):=by
 induction S with
 | nil=>exact ⟨[],fun y=>by simp⟩
 | cons p S ih =>
  obtain ⟨l,hl⟩:=ih
  by_cases hp:g p
  ·refine ⟨(p.id,p.blk)::l,fun y=> ?_⟩
   rw [List.mem_cons,hl]
   constructor
   ·rintro (rfl | ⟨p',h1,h2⟩)
    ·exact ⟨p,List.mem_cons_self ..,hp,rfl⟩
    ·exact ⟨p',List.mem_cons_of_mem _ h1,h2⟩
   ·rintro ⟨p',h1,h2,h3⟩
    rcases List.mem_cons.1 h1 with rfl | h1
    ·exact .inl h3
    ·exact .inr ⟨p',h1,h2,h3⟩
  ·refine ⟨l,fun y=> ?_⟩
   rw [hl]
   constructor
   ·rintro ⟨p',h1,h2⟩
    exact ⟨p',List.mem_cons_of_mem _ h1,h2⟩
   ·rintro ⟨p',h1,h2,h3⟩
    rcases List.mem_cons.1 h1 with rfl | h1
    ·exact absurd h2 hp
    ·exact ⟨p',h1,h2,h3⟩
section
variable {P:Program} {ev:eU→Option Out} {ops:Array Oper} {n:Nat} {env:Tr A} {h:H} {st:Nat→Dr} {ds:List Nat} {σ:Val} {w:World} {listed:Array Bool} {a:Act} {v:World} {τ:Val} {t:Tr bZ} {q:Nat}
theorem Ui {ρ:Operand→Value} {o:Oper} {ty:TypeId} {x:Operand} {p y:Value} {v:World} (hop:o.op=.load ty x) (h0:ρ x=p) (l:(Instr.loadAt ty p).run P v=.ok y v):(execOp ρ o).run P v=.ok (.value y) v:=by
 obtain ⟨dst,op,ty',pos,after,guard⟩:=o
 simp only at hop
 subst hop
 simp only [execOp,Sem.run_bind,h0,l,Result.andThen_ok,Sem.run_pure]
theorem Inv.step (I:Inv P ops n env h st ds σ w listed a v τ t q) (R:Run P ev ops n env h st) (T:Truth P ev) {r:Option Nat} (hds:∀d∈ds,σ.dom d) (hrr:∀l,r=some l→σ.dom l)
  (hlook:mX (ah P) (dX ops.toList 0 .lf) (st ops.size).al (st ops.size).ch (st ops.size).hs (st ops.size).lk=true) {i:Nat} (hi:i∈Region.ready .any ops listed) {m0:Nat} {Q:Exit→Act→World→Prop} {K:Act→World→Prop}
  (hK:∀a' v' τ' t' q',Inv P ops n env h st ds σ w (listed.setIfInBounds i true) a' v' τ' t' q'→K a' v'):wpOpIn (fe σ r) m0 P ops Q i K a v:=by
 obtain ⟨hi0,o,ho,hed⟩:=mem_ready.1 hi
 have hin:i<ops.size:=(Array.getElem?_eq_some_iff.1 ho).1
 have hil:¬Ls listed i:=by
  unfold Ls
  have:i<listed.size:=by rw [I.size]; exact hin
  simp only [Array.getD_eq_getD_getElem?,Array.getElem?_eq_getElem this,Option.getD_some] at hi0 ⊢
  rw [hi0]; simp
 obtain ⟨m,b,x,hm,hlt,hg,hkn,hw,k⟩:=R.step i o ho
 have hml:∀j,m.testBit j=true→Ls listed j:=fun j hj=>by
  obtain ⟨e,he,hb,h1⟩:=QI (l:=ops.toList) (by simpa using ho) hm hlt hj
  have hon:Ls listed e.on:=hed e (by simpa using he) (by rw [←Jc]; exact hb)
  rcases h1 with rfl | ⟨m',h2,h3⟩
  ·exact hon
  ·exact I.closed e.on m' hon h2 j h3
 have henv:=I.XM R ho hm hlt hg hkn hml hil
 have hsee:∀y∈aK o.op,aZ (ah P) (st i).env y=aZ (ah P) (only (st i).env (fE ops.toList o++tmpsOf (aK o.op))) y:=by
  intro y hy
  cases y with
  | tmp s =>
   show (st i).env.get s=(only (st i).env _).get s
   rw [vQ,if_pos (List.mem_append_right _ (BU hy))]
  | const v=>rfl
  | global g=>rfl
  | func f=>rfl
 have hw':gZ ops.toList (only (st i).env (fE ops.toList o++tmpsOf (aK o.op))) o=some b:=by
  rw [←hw]
  refine (Jf fun s hs=> ?_).symm
  rw [vQ,if_pos (List.mem_append_left _ hs)]
 have hwt:=xS hw' henv
 have hat:∀ {H:H},Rel P.globals.size τ H v→At P τ r (only (st i).env (fE ops.toList o++tmpsOf (aK o.op))) n ds H a v:=fun hr =>
  ⟨hr,henv,by rw [I.defers,kI I.kept.same hds],fun d hd=>I.kept.same.dom d (hds d hd),fun l hl=>I.kept.same.dom l (hrr l hl)⟩
 have hfe:fe τ r=fe σ r:=nu I.kept.same hrr
 have he:dR P τ (only (st i).env (fE ops.toList o++tmpsOf (aK o.op))) a.eval:=henv.tH I.rel
 have hput:=k.put
 have chN:(st (i+1)).ch=(st i).ch→∀c∈(st ops.size).ch,c≠i:=fun hc c hcN e=>by
  subst e
  have:=(R.ou (i:=c+1) (by omega) (c:=c)).2 ⟨hcN,by omega⟩
  rw [hc] at this
  have:=R.kJ (i:=c) (by omega) c this
  omega
 have alN:(st (i+1)).al=(st i).al→∀p∈(st ops.size).al,p.op≠i:=fun hc p hp e=>by
  have:=(R.qy (Nat.le_refl _) p hp).2.1
  rw [e,hc] at this
  have:=congrArg List.length this
  simp at this
 have quiet:(st (i+1)).ch=(st i).ch→(st (i+1)).al=(st i).al→(st (i+1)).h=(st i).h→x.ok τ.dom→Inv P ops n env h st ds σ w (listed.setIfInBounds i true) (a.put o.dst (x.den τ)) v τ t q:=fun h1 h2 h3 hx =>
  I.next R T ho hm hml hil hx hput (by rw [h3]; exact .refl _ _ _) (I.rel.FU _) I.qle (fun c hc=>by rw [←I.ch c hc]; exact or_iff_right (chN h1 c hc)) I.sub
   fun p hp hl=>I.pend p hp (hl.resolve_left (alN h2 p hp))
 unfold wpOpIn
 simp only [ho,hwt]
 generalize hs:st (i+1)=s' at k hput
 cases k
 case skip e hp =>
  simp only [Bool.false_eq_true,if_false]
  exact ⟨fun f _=>rP σ r f,hK _ _ _ _ _ (quiet (by rw [hs]) (by rw [hs]) (by rw [hs]) (by simp [A.ok,A.oks]))⟩
 case pure e ha hp =>
  simp only [if_true]
  obtain ⟨h1,h2⟩:=pure_ok (o:=o) he ((pure_congr hsee).symm.trans ha)
  have nodefer:∀c,o.op≠.defer c:=fun c e=>by rw [e] at ha; cases ha
  refine ⟨fun f _=>rP σ r f,?_⟩
  rw [Oper.semAt_eq _ _ _ nodefer,h1 v]
  exact hK _ _ _ _ _ (quiet (by rw [hs]) (by rw [hs]) (by rw [hs]) h2)
 case look ty xo p e hop hx ha hp =>
  simp only [if_true]
  have hin':(⟨i,ty,p,x⟩:Look)∈(st ops.size).lk:=R.QJ (i:=i+1) (j:=ops.size) (by omega) (Nat.le_refl _) _ (by rw [hs]; exact List.mem_cons_self ..)
  obtain ⟨m1,e1,e2⟩:=zw hlook _ hin'
  simp only at e1
  rw [hm] at e1
  obtain rfl:=some_inj e1
  obtain ⟨us,us',f1,f2,f3,f4⟩:=R.x9 I.qle (Nat.le_refl _)
  rw [f1,f2] at e2
  obtain ⟨K1,ks,g1,g2⟩:=EJ f3 e2 (fun c hc=>by
    cases hb:m.testBit c with
    | false=>rfl
    | true =>
     have h1:=(I.ch c (by rw [f1]; exact List.mem_append_left _ hc)).1 (hml c hb)
     have:=R.kJ I.qle c h1
     have:=f4 c hc
     omega) (fun c cs hv=>by
    have h1:c∈(st q).ch:=by rw [hv]; exact List.mem_cons_self ..
    have h2:=R.kJ I.qle c h1
    have:=I.qle
    obtain ⟨_,mc,_,_,_,h3,_,_⟩:=R.kind (i:=c) (by omega)
    refine ⟨mc,h3,?_⟩
    cases hb:mc.testBit i with
    | false=>rfl
    | true=>exact absurd (I.closed c mc ((I.ch c (by rw [f1]; exact List.mem_append_right _ h1)).2 h1) h3 i hb) hil)
  obtain ⟨K2,ks2,g3,g4⟩:=R.LG I.qle
  rw [g1] at g3
  injection g3 with g3 g5
  subst g3
  unfold jv.at_ at g2
  split at g2
  ·rename_i a' hl
   obtain rfl:=Jd _ _ g2
   have sub:∀j b,(eF m (still (dX ops.toList 0 .lf) (st q).ch (st ops.size).al) K1.t).get j=some b→t.get j=some b:=fun j b hj=>by
    rcases oq hj with h1 | ⟨p',h1,h2,h3,h4⟩
    ·rw [g4] at h1; exact I.sub j b h1
    ·obtain ⟨h5,h6⟩:=xZ h1
     rw [←h3,←h4]
     exact (I.pend p' h5 (hml _ h2) h6).1
   obtain ⟨l1,l2⟩:=Dm (I.rel.less (k:=⟨eF m (still (dX ops.toList 0 .lf) (st q).ch (st ops.size).al) K1.t,K1.nx⟩) sub) hl
   have hx':aZ (ah P) (only (st i).env (fE ops.toList o++tmpsOf (aK o.op))) xo=some p:=by rw [←hsee xo (by rw [hop]; simp [aK])]; exact hx
   have nodefer:∀c,o.op≠.defer c:=fun c e=>by rw [e] at hop; cases hop
   refine ⟨fun f _=>rP σ r f,?_⟩
   have run:(execOp a.eval o).run P v=.ok (.value (a'.den τ)) v:=Ui hop (he xo p hx').1 l1
   rw [Oper.semAt_eq _ _ _ nodefer,run]
   exact hK _ _ _ _ _ (quiet (by rw [hs]) (by rw [hs]) (by rw [hs]) l2)
  ·cases g2
 case new b e ha hp =>
  simp only [if_true]
  have fr:=I.free i hin hil
  have nx1:(st (i+1)).h.nx=(st i).h.nx+1:=by rw [hs]
  have tn:t.get (st i).h.nx=none:=by
   cases hx:t.get (st i).h.nx with
   | none=>rfl
   | some y=>exact absurd (I.rel.lt _ _ hx) (fr _ (Nat.le_refl _) (by omega))
  have hop:kG o.op (ah P) ev (only (st i).env (fE ops.toList o++tmpsOf (aK o.op))) ⟨t,(st i).h.nx⟩=some (x,(H.mk t (st i).h.nx).new b):=Uh (k:=⟨t,(st i).h.nx⟩) ((rQ hsee).symm.trans ha)
  rw [←hfe]
  refine (yX (r:=r) (n:=n) (ds:=ds) T hop).2 (hat (I.rel.FU _)) (by rw [nx1] at fr; exact fr) m0 _ Q fun τ' v' g1 g2=> ?_
  refine hK _ _ _ _ q (I.next R T ho hm hml hil g2 (by rw [hs]; exact hp) (by rw [nx1]; exact g1.kept) (by rw [nx1]; exact g1.rel) I.qle (fun c hc=>by rw [←I.ch c hc]; exact or_iff_right (chN (by rw [hs]) c hc)) (fun j y hj=> ?_) fun p' hp' hl hn=> ?_)
  ·have h1:=I.sub j y hj
   show (t.put _ _).get j=_
   rw [Tr.kD _ _ (by rintro rfl; rw [tn] at h1; cases h1)]
   exact h1
  ·by_cases hpi:p'.op=i
   ·have h1:=(R.qy (Nat.le_refl _) p' hp').2.1
    rw [hpi,hs] at h1
    have h2:(⟨i,(st i).h.nx,b⟩:gX)=p':=by injection h1
    subst h2
    refine ⟨Tr.qb _ _ _,?_⟩
    show (st q).h.t.get (st i).h.nx=none
    cases hx:(st q).h.t.get (st i).h.nx with
    | none=>rfl
    | some y=>have:=I.sub _ _ hx; rw [tn] at this; cases this
   ·obtain ⟨h1,h2⟩:=I.pend p' hp' (hl.resolve_left hpi) hn
    refine ⟨?_,h2⟩
    show (t.put _ _).get _=_
    rw [Tr.kD _ _ (by intro e; rw [e,tn] at h1; cases h1)]
    exact h1
 case chain kk e hlast hop hp =>
  simp only [if_true]
  have fr:=I.free i hin hil
  have hiN:i∈(st ops.size).ch:=by
   have h1:i∈(st (i+1)).ch:=by rw [hs]; exact List.mem_cons_self ..
   exact ((R.ou (i:=i+1) (by omega)).1 h1).1
  have back:∀c,c∈(st ops.size).ch→(∀mc,(dX ops.toList 0 .lf).get c=some mc→∀j,mc.testBit j=true→Ls listed j)→∀c'∈(st ops.size).ch,c'<c→Ls listed c':=by
   intro c
   induction c using Nat.strongRecOn with
   | _ c ih =>
    intro hc hmc c' hc' hlt'
    have hcN:=R.kJ (Nat.le_refl _) c hc
    obtain ⟨oc,mc,_,_,_,h1,_,kc⟩:=R.kind (i:=c) hcN
    have hin1:=(R.ou (i:=c+1) (by omega) (c:=c)).2 ⟨hc,by omega⟩
    rcases kc.ch with ⟨h2,_⟩ | ⟨h2,h3,_⟩
    ·rw [h2] at hin1
     have:=R.kJ (i:=c) (by omega) c hin1
     omega
    ·have h4:=(R.ou (i:=c) (by omega) (c:=c')).2 ⟨hc',hlt'⟩
     cases hch:(st c).ch with
     | nil=>rw [hch] at h4; cases h4
     | cons d cs =>
      rw [hch] at h2 h4
      have hd:Ls listed d:=hmc mc h1 d h2
      have hdc:d∈(st c).ch:=by rw [hch]; exact List.mem_cons_self ..
      have hdN:=((R.ou (i:=c) (by omega)).1 hdc)
      rcases Nat.lt_trichotomy c' d with h5 | h5 | h5
      ·exact ih d hdN.2 hdN.1 (fun md hmd j hj=>I.closed d md hd hmd j hj) c' hc' h5
      ·rw [h5]; exact hd
      ·-- c' lies between d and c, and is a chain operation: no
       obtain ⟨us,us',f1,f2,f3,f4⟩:=R.x9 (i:=c') (j:=c) (by omega) (by omega)
       have h6:=(R.ou (i:=c'+1) (by omega) (c:=c')).2 ⟨hc',by omega⟩
       obtain ⟨vs,_,f5,_,_,f6⟩:=R.x9 (i:=c'+1) (j:=c) (by omega) (by omega)
       rw [hch] at f5
       cases vs with
       | nil =>
        rw [List.nil_append] at f5
        obtain ⟨_,_,_,_,_,_,_,kc'⟩:=R.kind (i:=c') (by omega)
        rcases kc'.ch with ⟨h7,_⟩ | ⟨_,h7,_⟩
        ·rw [h7] at h6
         have:=R.kJ (i:=c') (by omega) c' h6
         omega
        ·rw [h7] at f5
         injection f5 with f5 _
         omega
       | cons z vs =>
        rw [List.cons_append] at f5
        injection f5 with f5 _
        have:=f6 z (List.mem_cons_self ..)
        omega
  have all1:∀c∈(st i).ch,c∈(st q).ch:=fun c hc=>by
   have h1:=(R.ou (i:=i) (by omega)).1 hc
   exact (I.ch c h1.1).1 (back i hiN (fun mc hmc j hj=>hml j (by rw [hm] at hmc; rw [some_inj hmc]; exact hj)) c h1.1 h1.2)
  have all2:∀c∈(st q).ch,c<i:=fun c hc=>by
   have h1:=(R.ou I.qle).1 hc
   have h2:=(I.ch c h1.1).2 hc
   rcases Nat.lt_trichotomy c i with h3 | h3 | h3
   ·exact h3
   ·exact absurd (h3 ▸ h2) hil
   ·exact absurd (back c h1.1 (fun mc hmc j hj=>I.closed c mc h2 hmc j hj) i hiN h3) hil
  have same:(st q).ch=(st i).ch∧(st q).h.t=(st i).h.t:=by
   rcases Nat.le_total i q with h1 | h1
   ·obtain ⟨h2,h3,_⟩:=R.yY h1 I.qle all2
    exact ⟨h2,h3⟩
   ·obtain ⟨h2,h3,_⟩:=R.yY h1 (by omega) (fun c hc=>R.kJ I.qle c (all1 c hc))
    exact ⟨h2.symm,h3.symm⟩
  obtain ⟨same1,same2⟩:=same
  have hsub:∀j b,(eF m (st i).xs (st i).h.t).get j=some b→t.get j=some b:=fun j b hj=>by
   rcases oq hj with h1 | ⟨p',h1,h2,h3,h4⟩
   ·rw [←same2] at h1; exact I.sub j b h1
   ·obtain ⟨h5,h6⟩:=R.Cc (i:=i) (by omega) p' h1
    rw [←h3,←h4]
    exact (I.pend p' (R.Cb (by omega) (Nat.le_refl _) p' h5) (hml _ h2) (by rw [same1]; exact h6)).1
  have hop':=(NU (ev:=ev) (k:=⟨eF m (st i).xs (st i).h.t,(st i).h.nx⟩) hsee).symm.trans hop
  have hk1:(st (i+1)).h=kk:=by rw [hs]
  have hc1:(st (i+1)).ch=i::(st i).ch:=by rw [hs]
  have ha1:(st (i+1)).al=(st i).al:=by rw [hs]
  rw [←hfe]
  refine (yX (r:=r) (n:=n) (ds:=ds) T hop').2 (hat (I.rel.less (k:=⟨eF m (st i).xs (st i).h.t,(st i).h.nx⟩) hsub)) (by rw [hk1] at fr; exact fr) m0 _ Q fun τ' v' g1 g2=> ?_
  obtain ⟨S,hS⟩:=QK (α:=Unit) (_f:=fun _=>none) (S:=(st ops.size).al) (fun p=>Ls listed p.op∧fV (dX ops.toList 0 .lf) p.op (i::(st i).ch)=false)
  have hS':∀y∈S,t.get y.1=some y.2∧(eF m (st i).xs (st i).h.t).get y.1=none:=fun y hy=>by
   obtain ⟨p',h1,⟨h2,h3⟩,rfl⟩:=(hS y).1 hy
   have h3':=gQ.1 h3
   have h4:fV (dX ops.toList 0 .lf) p'.op (st q).ch=false:=gQ.2 fun c hc=>h3' c (List.mem_cons_of_mem _ (by rw [←same1]; exact hc))
   obtain ⟨h5,h6⟩:=I.pend p' h1 h2 h4
   refine ⟨h5,?_⟩
   cases hx:(eF m (st i).xs (st i).h.t).get p'.id with
   | none=>rfl
   | some z =>
    rcases oq hx with h7 | ⟨p2,h7,h8,h9,_⟩
    ·rw [←same2,h6] at h7; cases h7
    ·have h10:=R.Cb (i:=i) (j:=ops.size) (by omega) (Nat.le_refl _) p2 (R.Cc (i:=i) (by omega) p2 h7).1
     obtain ⟨a1,_,a2,a3⟩:=R.qy (Nat.le_refl _) p2 h10
     obtain ⟨b1,_,b2,b3⟩:=R.qy (Nat.le_refl _) p' h1
     have:p2.op=p'.op:=by
      rcases Nat.lt_trichotomy p2.op p'.op with h | h | h
      ·have:=R.nx T (i:=p2.op+1) (j:=p'.op) h (by omega); omega
      ·exact h
      ·have:=R.nx T (i:=p'.op+1) (j:=p2.op) h (by omega); omega
     obtain ⟨mi,c1,c2⟩:=h3' i (List.mem_cons_self ..)
     rw [hm] at c1
     rw [←some_inj c1,←this,h8] at c2
     cases c2
  obtain ⟨t',w1,w2,w3,w4⟩:=widen (a:=(st i).h.nx) (b:=kk.nx) g1 I.rel hsub S hS' (Nat.le_refl _) (Nat.le_refl _)
  refine hK _ _ _ t' (i+1) (I.next R T ho hm hml hil g2 (by rw [hs]; exact hp) (by rw [hk1]; exact w2) (by rw [hk1]; exact w1) (by omega) (fun c hc=> ?_) (fun j y hj=>w3 j y (by rw [hk1] at hj; exact hj)) fun p' hp' hl hn=> ?_)
  ·rw [hc1,List.mem_cons,I.ch c hc,same1]
  ·have hpi:p'.op≠i:=alN ha1 p' hp'
   rw [hc1] at hn
   obtain ⟨h1,h2⟩:=w4 (p'.id,p'.blk) ((hS _).2 ⟨p',hp',⟨hl.resolve_left hpi,hn⟩,rfl⟩)
   exact ⟨h1,by rw [hk1]; exact h2⟩
theorem Inv.done (I:Inv P ops n env h st ds σ w listed a v τ t q) (R:Run P ev ops n env h st) {r:Option Nat} (hds:∀d∈ds,σ.dom d) (hrr:∀l,r=some l→σ.dom l) (hall:∀i,i<ops.size→Ls listed i) :
  Kept σ h w τ ⟨dh (st ops.size).xs (st ops.size).h.t,(st ops.size).h.nx⟩ v∧At P τ r (st ops.size).env n ds ⟨dh (st ops.size).xs (st ops.size).h.t,(st ops.size).h.nx⟩ a v:=by
 obtain ⟨same1,same2,_⟩:=R.yY I.qle (Nat.le_refl _) (fun c hc=>R.kJ I.qle c ((I.ch c hc).1 (hall c (R.kJ (Nat.le_refl _) c hc))))
 have sub:∀j b,(dh (st ops.size).xs (st ops.size).h.t).get j=some b→t.get j=some b:=fun j b hj=>by
  rcases zu hj with h1 | ⟨p,h1,h2,h3⟩
  ·exact I.sub j b (by rw [←same2]; exact h1)
  ·obtain ⟨h4,h5⟩:=R.Cc (Nat.le_refl _) p h1
   rw [←h2,←h3]
   exact (I.pend p h4 (hall _ (R.qy (Nat.le_refl _) p h4).1) (by rw [←same1]; exact h5)).1
 refine ⟨⟨I.kept.same,I.kept.dom,I.kept.size,I.kept.os,I.kept.tape,I.kept.output,I.kept.frame,fun j x hj=>I.kept.own j x (sub j x hj)⟩,I.rel.less sub,⟨I.tsize,fun s x hx=> ?_⟩,by rw [I.defers,kI I.kept.same hds],fun d hd=>I.kept.same.dom d (hds d hd),fun l hl=>I.kept.same.dom l (hrr l hl)⟩
 cases hw:writer ops.toList 0 s with
 | some k =>
  obtain ⟨j,o',e1,e2,_⟩:=nK hw
  have:=(List.getElem?_eq_some_iff.1 e2).1
  refine I.late s k x hw (hall k ?_) hx
  simp only [Array.length_toList] at this
  omega
 | none=>exact I.early s x (fun k hk=>by rw [hw] at hk; cases hk) (by rw [←R.yc (i:=ops.size) (fun k hk=>by rw [hw] at hk; cases hk) (Nat.le_refl _)]; exact hx)
theorem Inv.all (I:Inv P ops n env h st ds σ w listed a v τ t q) (R:Run P ev ops n env h st) (hr:Region.ready .any ops listed=[]):∀i,i<ops.size→Ls listed i:=by
 intro i
 induction i using Nat.strongRecOn with
 | _ i ih =>
  intro hi
  obtain ⟨o,m,b,a,ho,hm,hlt,_⟩:=R.kind hi
  cases hl:listed.getD i true with
  | true =>
   unfold Ls
   have:i<listed.size:=by rw [I.size]; exact hi
   simp only [Array.getD_eq_getD_getElem?,Array.getElem?_eq_getElem this,Option.getD_some] at hl ⊢
   exact hl
  | false =>
   have:i∈Region.ready .any ops listed:=mem_ready.2 ⟨hl,o,ho,fun e he hb=>by
    have h1:=EI (l:=ops.toList) (by simpa using ho) hm (e:=e) (by simpa using he) (by rw [Jc]; exact hb)
    have h2:=oV hlt h1
    exact ih e.on h2 (by omega)⟩
   rw [hr] at this
   cases this
theorem Inv.any (R:Run P ev ops n env h st) (T:Truth P ev) {r:Option Nat} (hds:∀d∈ds,σ.dom d) (hrr:∀l,r=some l→σ.dom l)
  (hlook:mX (ah P) (dX ops.toList 0 .lf) (st ops.size).al (st ops.size).ch (st ops.size).hs (st ops.size).lk=true) {m0:Nat} {Q:Exit→Act→World→Prop}
  (hQ:∀τ a v,Kept σ h w τ ⟨dh (st ops.size).xs (st ops.size).h.t,(st ops.size).h.nx⟩ v→At P τ r (st ops.size).env n ds ⟨dh (st ops.size).xs (st ops.size).h.t,(st ops.size).h.nx⟩ a v→Q .normal a v) :
  ∀(fuel:Nat) (listed:Array Bool) (a:Act) (v:World) (τ:Val) (t:Tr bZ) (q:Nat),Inv P ops n env h st ds σ w listed a v τ t q→listed.toList.count true+fuel=ops.size→wpAnyIn (fe σ r) m0 P .any ops Q fuel listed a v
 | 0,listed,a,v,τ,t,q,I,hc=>by
  have hall:∀i,i<ops.size→Ls listed i:=fun i hi=>by
   have hs:i<listed.size:=by rw [I.size]; exact hi
   have h1:=List.count_eq_length.1 (show listed.toList.count true=listed.toList.length by rw [Array.length_toList,I.size]; omega) listed[i] (by simp)
   unfold Ls
   simp only [Array.getD_eq_getD_getElem?,Array.getElem?_eq_getElem hs,Option.getD_some]
   exact h1.symm
  refine ⟨?_,?_⟩
  ·cases hr:Region.ready .any ops listed with
   | nil=>rfl
   | cons i l =>
    have hi:i∈Region.ready .any ops listed:=by rw [hr]; exact List.mem_cons_self ..
    obtain ⟨h1,o,ho,_⟩:=mem_ready.1 hi
    have hin:i<ops.size:=(Array.getElem?_eq_some_iff.1 ho).1
    have h2:=hall i hin
    have hs:i<listed.size:=by rw [I.size]; exact hin
    unfold Ls at h2
    simp only [Array.getD_eq_getD_getElem?,Array.getElem?_eq_getElem hs,Option.getD_some] at h1 h2
    rw [h1] at h2; cases h2
  ·obtain ⟨h1,h2⟩:=I.done R hds hrr hall
   exact hQ τ a v h1 h2
 | fuel+1,listed,a,v,τ,t,q,I,hc=>by
  refine ⟨fun hr=> ?_,fun i hi=> ?_⟩
  ·obtain ⟨h1,h2⟩:=I.done R hds hrr (I.all R hr)
   exact hQ τ a v h1 h2
  ·refine I.step R T hds hrr hlook hi fun a' v' τ' t' q' I'=>Inv.any R T hds hrr hlook hQ fuel _ a' v' τ' t' q' I' ?_
   obtain ⟨h1,o,ho,_⟩:=mem_ready.1 hi
   have hin:i<ops.size:=(Array.getElem?_eq_some_iff.1 ho).1
   have hs:i<listed.size:=by rw [I.size]; exact hin
   simp only [Array.getD_eq_getD_getElem?,Array.getElem?_eq_getElem hs,Option.getD_some] at h1
   rw [Array.toList_setIfInBounds,List.count_set (by simpa using hs)]
   simp only [Array.getElem_toList,h1]
   show List.count true listed.toList - 0+1+fuel=ops.size
   omega
end
theorem Uj {P:Program} {ev:eU→Option Out} (hm:P.follows .mixedOrders=true) (T:Truth P ev):Dt P ev:=by
 intro ops r n ds env e h k hs
 unfold tF at hs
 simp only at hs
 cases hf:jT ops.toList [] with
 | false=>rw [hf] at hs; cases hs
 | true =>
  rw [hf] at hs
  simp only [cond_true] at hs
  split at hs
  ·rename_i s hd
   cases hl:mX (ah P) (dX ops.toList 0 .lf) s.al s.ch s.hs s.lk with
   | false=>rw [hl] at hs; cases hs
   | true =>
    rw [hl] at hs
    obtain ⟨rfl,rfl⟩:=ay (show some (s.env,(⟨dh s.xs s.h.t,s.h.nx⟩:H))=some (e,k) from hs)
    obtain ⟨st,e1,e2,e3⟩:=xW _ _ _ _ hd
    rw [Nat.zero_add,Array.length_toList] at e2
    have R:Run P ev ops n env h st:=⟨hf,fun i o ho=>by
     have h1:=e3 i o (by simpa using ho)
     rw [Nat.zero_add] at h1
     exact Ki h1,e1⟩
    subst e2
    refine ⟨by have:=R.nx T (Nat.zero_le ops.size) (Nat.le_refl _); rw [e1] at this; exact this,fun {σ a w} hat hfr m id=> ?_⟩
    refine wpIn_region_any hm ?_
    refine Inv.any (σ:=σ) (w:=w) (ds:=ds) R T hat.ds hat.r hl (fun τ a v h1 h2=>⟨rfl,τ,h1,h2⟩) ops.size _ a _ σ h.t 0 ?_ ?_
    ·have no:∀i,¬Ls (Array.replicate ops.size false) i:=fun i h1=>by
      unfold Ls at h1
      simp only [Array.getD_eq_getD_getElem?,Array.getElem?_replicate] at h1
      split at h1
      ·cases h1
      ·cases h1
     have g:=Goes.drew hat.rel (w.drawn+1)
     have n0:=R.nx T (Nat.zero_le ops.size) (Nat.le_refl _)
     rw [e1] at n0
     refine ⟨by simp,Nat.zero_le _,fun c _=>⟨fun h1=>absurd h1 (no c),fun h1=>by rw [e1] at h1; cases h1⟩,(hat.rel.drew _).FU _,⟨.refl _,fun j hj=>.inl hj,Nat.le_refl _,rfl,rfl,rfl,fun _ _ _=>rfl,fun j x hj=>.inr ⟨j,x,hj,fun h=>h,rfl⟩⟩,
      fun j b hj=>by rw [e1] at hj; exact hj,fun p _ h1=>absurd h1 (no _),fun i m h1=>absurd h1 (no i),fun i hi _=> ?_,hat.env.size,fun s k x _ h1=>absurd h1 (no k),fun s x _ hx=>hat.env.get s x hx,hat.defers⟩
     have h1:=R.nx T (Nat.zero_le i) (by omega)
     have h2:=R.nx T (i:=i+1) (j:=ops.size) (by omega) (Nat.le_refl _)
     rw [e1] at h1
     exact hfr.mono h1 h2
    ·simp [List.count_replicate]
  ·cases hs
theorem QM {P:Program} (hm:P.follows .mixedOrders=true) {X:Nat→Option (List A→H→Option (A×H))} (hX:Told P X):∀f,Truth P (ev (ah P) X f) :=
 truth hX fun f T=>Uj hm (T f (Nat.le_refl _))
end Go.Proofs.YteemnmalikomgaaGreatDoor.Ev
namespace Go.Proofs.YteemnmalikomgaaGreatDoor.Ev
def Dv:List UInt8→Nat→Nat→Int
 | [],_,_=> -1
 | b::l,c,k=>bif b.toNat.beq c then (k:Int) else Dv l c (k+1)
def bytesOf:List A→Option (List UInt8)
 | []=>some []
 | .i .u8 (.ofNat n)::l=>cond (Nat.blt n 256) (match bytesOf l with
  | some r=>some (UInt8.ofNat n::r)
  | none=>none) none
 | _=>none
def Jg (bt:Nat) (args:List A) (h:H):Option (A×H) :=
 match args with
 | [.p (some (j,0))]=>(match h.t.get j with
  | some (.cells e tr 2 none true)=>cond (Nat.beq e bt) (match tr.get 0 with
   | some (.p none)=>(match mE h j 0 [.p (some (j,0))] with
    | some k=>some (.tup [],k)
    | none=>none)
   | some (.p (some (i,0)))=>cond (Nat.beq i j) (some (.tup [],h)) none
   | _=>none) none
  | _=>none)
 | _=>none
def Dw (bt u8:Nat) (args:List A) (h:H):Option (A×H) :=
 match args with
 | [.p (some (j,0))]=>(match h.t.get j with
  | some (.cells e tr 2 none true)=>cond (Nat.beq e bt) (match tr.get 1 with
   | some (.sl none 0 0 none)=>some (.s [],h)
   | some (.sl (some (i,o)) (n+1) lo c)=>(match h.t.get i with
    | some (.cells e2 tr2 E z true)=>cond (and (Nat.beq e2 u8) (and (Nat.blt n 9223372036854775807) (and (Nat.ble (n+1) lo) (Nat.ble (o+(n+1)) E)))) (match cellsOf h 1 (n+1) (.sl (some (i,o)) (n+1) lo c) with
     | some l=>(match bytesOf l with
      | some b=>some (.s b,h.turn i (.cells e2 tr2 E z false))
      | none=>none)
     | none=>none) none
    | _=>none)
   | _=>none) none
  | _=>none)
 | _=>none
def Jh (args:List A) (h:H):Option (A×H) :=
 match args with
 | [.s l,.i .u8 (.ofNat n)]=>cond (Nat.blt n 256) (some (.i .i64 (Dv l n 0),h)) none
 | _=>none
def holds:List A→Tr A→Nat→Bool
 | [],_,_=>true
 | x::l,tr,k=>match tr.get k with
  | some a=>and (nZ a x) (holds l tr (k+1))
  | none=>false
def NZ (g:Nat) (l:List A) (args:List A) (h:H):Option (A×H) :=
 match args with
 | []=>(match h.t.get g with
  | some (.cells _ tr _ _ _)=>cond (holds l tr 0) (some (.b true,h)) none
  | _=>none)
 | _=>none
def XZ:Option Nat→Nat→Bool
 | some b,f=>Nat.beq f b
 | none,_=>false
def xs (bt u8 cc st ib:Nat) (bg:Option Nat) (g:Nat) (l:List A) (f:Nat):Option (List A→H→Option (A×H)) :=
 cond (Nat.beq f cc) (some (Jg bt)) (cond (Nat.beq f st) (some (Dw bt u8)) (cond (Nat.beq f ib) (some Jh) (cond (XZ bg f) (some (NZ g l)) none)))
end Go.Proofs.YteemnmalikomgaaGreatDoor.Ev
namespace Go.Proofs.YteemnmalikomgaaGreatDoor.Ev
open RowKit
section
variable {P:Program} {X:Nat→Option (List A→H→Option (A×H))}
theorem Oa (hm:P.follows .mixedOrders=true) (hX:Told P X) {n f:Nat} {h:H} (hr:runs (ah P) X n f h=true) {σ:Val} {w:World} (r:Rel P.globals.size σ h w) (hf:∀j,h.nx≤j→¬σ.dom j)
  (hw:∀j b,h.t.get j=some b→b.wr=false):Calls P f #[] w fun e v=>e=.returned (.bool true)∧Below w.heap.size w v:=by
 unfold runs at hr
 split at hr
 ·rename_i k hk
  obtain ⟨_,_,h3⟩:=QM hm hX n _ _ hk
  refine (callsIn_wide.1 (h3 σ w r (fun j h1 _=>hf j h1) (by simp [A.oks]) 0)).mono ?_
  rintro e v ⟨τ,rfl,g,_⟩
  exact ⟨rfl,g.kept.os,g.kept.tape,g.kept.output,g.kept.size,fun i hi=>g.kept.frame i hi fun j x hj hx=>by rw [hw j x hj] at hx; cases hx⟩
 ·cases hr
def start (g:Nat) (ty:TypeId) (l:List A) (G:Nat):H:=⟨Tr.lf.put g (some (.cells ty (Tr.fC .lf 0 l) l.length none false)),G⟩
def first (G:Nat):Val:=⟨fun j=>j<G,id,fun _=>0,fun _=>0⟩
theorem QN {g:Nat} {ty:TypeId} {l:List A} {w:World} {cs:Array Value} {fr:Nat×Nat} (hg:g<P.globals.size) (hb:w.heap[g]? = some (.cells cs ty fr)) (hl:l.length≤cs.size)
  (hc:∀(k:Nat) (a:A),l[k]? = some a→cs[k]? = some (a.den (first P.globals.size))∧a.ok (first P.globals.size).dom):Rel P.globals.size (first P.globals.size) (start g ty l P.globals.size) w:=by
 have one:∀ {j b},(start g ty l P.globals.size).t.get j=some b→j=g∧b=.cells ty (Tr.fC .lf 0 l) l.length none false:=fun {j b} h=>by
  have h':(Tr.lf.put g (some (.cells ty (Tr.fC .lf 0 l) l.length none false))).get j=some b:=h
  rw [Tr.get_put] at h'
  by_cases e:j=g
  ·rw [if_pos e] at h'; exact ⟨e,(some_inj h').symm⟩
  ·rw [if_neg e,Tr.p8] at h'; cases h'
 refine ⟨fun j b h=> ?_,fun j b h=> ?_,fun j b i c h1 h2 _=>(one h1).1.trans (one h2).1.symm,fun j hj=>⟨hj,rfl,rfl⟩⟩
 ·obtain ⟨rfl,rfl⟩:=one h
  refine ⟨cs,fr.1,fr.2,hb,?_,fun k a ha=> ?_,(fun x hx=>by cases hx),(fun hx=>by cases hx),(fun _ hx=>by cases hx)⟩
  ·show 0+l.length+0≤cs.size
   omega
  ·rw [Tr.Da] at ha
   split at ha
   ·show cs[0+k]? = _∧_
    rw [Nat.zero_add]
    exact hc k a (by simpa using ha)
   ·rw [Tr.p8] at ha; cases ha
 ·obtain ⟨rfl,_⟩:=one h
  exact hg
theorem Ob (hm:P.follows .mixedOrders=true) (hX:Told P X) {n f g:Nat} {l:List A} (hr:∀ty,runs (ah P) X n f (start g ty l P.globals.size)=true) {w:World} {cs:Array Value} {fr:Nat×Nat} {ty:TypeId} (hg:g<P.globals.size)
  (hb:w.heap[g]? = some (.cells cs ty fr)) (hl:l.length≤cs.size) (hc:∀(k:Nat) (a:A),l[k]? = some a→cs[k]? = some (a.den (first P.globals.size))∧a.ok (first P.globals.size).dom) :
  Calls P f #[] w fun e v=>e=.returned (.bool true)∧Below w.heap.size w v:=by
 refine Oa hm hX (hr ty) (QN hg hb hl hc) (fun j h1 h2=> ?_) fun j b h=> ?_
 ·have h1':P.globals.size≤j:=h1
  have h2':j<P.globals.size:=h2
  omega
 ·have h':(Tr.lf.put g (some (.cells ty (Tr.fC .lf 0 l) l.length none false))).get j=some b:=h
  rw [Tr.get_put] at h'
  by_cases e:j=g
  ·rw [if_pos e] at h'; rw [←some_inj h']; rfl
  ·rw [if_neg e,Tr.p8] at h'; cases h'
end
end Go.Proofs.YteemnmalikomgaaGreatDoor.Ev
