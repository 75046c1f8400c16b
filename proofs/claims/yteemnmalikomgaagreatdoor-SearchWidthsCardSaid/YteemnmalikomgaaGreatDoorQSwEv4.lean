import Derived.Test.YteemnmalikomgaaGreatDoorQSwEv3
import Derived.Deep.AppendSrc
import Derived.Laws.BytesString
namespace Go.Proofs.YteemnmalikomgaaGreatDoor.Ev
section
variable {P:Program} {σ:Val} {h:H} {w:World}
theorem vN (l:List UInt8):A.aj σ (iE l)=l.map fun b=>Value.int .u8 b.toNat:=by
  rw [dD,iE,List.map_map]; rfl
theorem xR {D:Nat→Prop} (l:List UInt8):A.oks D (iE l):=by
  rw [gP]
  intro a ha
  obtain ⟨b,_,rfl⟩:=List.mem_map.1 ha
  simp [A.ok]
theorem kH (r:Rel P.globals.size σ h w) {size n:Nat} {v:A} {l:List A} (hc:cellsOf h size n v=some l):(Builtin.firstCells size n (v.den σ)).run P w=.ok ⟨A.aj σ l⟩ w∧A.oks σ.dom l:=by
  unfold cellsOf at hc
  split at hc
  · obtain rfl:=some_inj hc
    exact ⟨rfl,trivial⟩
  · rename_i j o n' lo c
    have hc':cond (Nat.beq (n*size) 0) (some []) (match h.t.get j with | some (.cells _ tr _ _ _)=>rd tr o (n*size) | _=>none)=some l:=hc
    cases hb:Nat.beq (n*size) 0 with
    | true =>
      rw [hb] at hc'
      obtain rfl:=some_inj hc'
      have h0:=aY hb
      refine ⟨?_,trivial⟩
      simp only [A.den,Option.map_some,Builtin.firstCells,h0]
      rfl
    | false =>
      rw [hb,cond_false] at hc'
      split at hc'
      · rename_i e tr E cz wr hj
        obtain ⟨h1,h2⟩:=UW (P:=P) (r.at_ j _ hj) hc'
        refine ⟨?_,h2⟩
        simp only [A.den,Option.map_some,Builtin.firstCells]
        exact h1
      · cases hc'
  · rename_i s
    obtain rfl:=some_inj hc
    refine ⟨?_,xR _⟩
    rw [vN]
    simp only [A.den,Builtin.firstCells,Sem.run_pure]
    congr 1
    apply Array.ext'
    rw [Array.toList_map]
    have:((⟨⟨s⟩⟩:ByteArray).extract 0 n).data.toList=s.take n:=by
      rw [ByteArray.data_extract,Array.toList_extract]
      simp [List.extract]
    rw [this]
  · cases hc
inductive Adds (P:Program) (i:TypeInfo) (tx:TypeId) (x:Value) (n:Nat) (news:List Value) (w:World):Prop
  | src (kind:(∃e',P.underlying tx=some (.slice e'))∨P.underlying tx=some .string) (len:∀w':World,(Builtin.lenOf x).run P w'=.ok n w')
      (cells:(Builtin.firstCells i.size n x).run P w=.ok news.toArray w) (cellsD:(Builtin.firstCells i.size n x).run P w.drew=.ok news.toArray w.drew)
  | zeros (kn k:IntKind) (z:Value) (hk:P.underlying tx=some (.int kn)) (hx:x=.int k n) (hz:i.zero=some z) (hn:n≤100000) (hb:i.bytes≤1000000)
      (hnews:news.toArray=if n*i.size=0 then #[] else Builtin.zeroCells z.cells n)
theorem zY {t tx ty e:TypeId} {i:TypeInfo} (ht:P.underlying t=some (.slice e)) (hi:P.info? e=some i) {a:Addr} {sLen sCap n:Nat} {x:Value} {news:List Value} (hA:Adds P i tx x n news w) (hroom:sLen+n≤sCap) {v:World}
    (hst:(storeCells (a.add (sLen*i.size)) news).run P w=.ok () v):(Builtin.append_ #[t,tx] ty #[.slice (some a) sLen sCap,x]).run P w=.ok (.slice (some a) (sLen+n) sCap) v:=by
  cases hA with
  | src kind len cells cellsD =>
    rcases kind with ⟨e',hk⟩ | hk<;>simp [Builtin.append_,run_underlying ht,run_underlying hk,sizeOf,typeInfo,hi,len,hroom,cells,hst]
  | zeros kn k z hk hx hz hn hb hnews =>
    subst hx
    have hw:IntKind.i64.wrap (n:Int)=n:=by rw [←iQ]; show cond (Nat.blt n _) _ _=_; rw [show Nat.blt n (lim .i64)=true by rw [Nat.blt_eq]; simp only [lim]; omega]; rfl
    have hneg:¬((n:Int)<0):=by omega
    have hmul:n*i.bytes≤100000*1000000:=Nat.mul_le_mul hn hb
    have h48:¬(281474976710656<(n:Int)*(i.bytes:Int)):=by rw [←Int.natCast_mul]; omega
    by_cases h0:n*i.size=0
    · rw [if_pos h0] at hnews
      have:news=[]:=by simpa using congrArg Array.toList hnews
      subst this
      simp [Builtin.append_,run_underlying ht,run_underlying hk,sizeOf,typeInfo,hi,asInt,asIntOf,hw,hneg,h48,hroom,h0,hst]
    · rw [if_neg h0] at hnews
      simp [Builtin.append_,run_underlying ht,run_underlying hk,sizeOf,typeInfo,zeroValue,hi,hz,asInt,asIntOf,hw,hneg,h48,hroom,h0,←hnews,hst]
theorem TM {t tx ty e:TypeId} {i:TypeInfo} (ht:P.underlying t=some (.slice e)) (hi:P.info? e=some i) {sLen sCap n:Nat} {x:Value} {news:List Value} (hA:Adds P i tx x n news w) (hroom:sLen+n≤sCap) :
    (Builtin.append_ #[t,tx] ty #[.slice none sLen sCap,x]).run P w=.ok (.slice none (sLen+n) sCap) w:=by
  cases hA with
  | src kind len cells cellsD =>
    rcases kind with ⟨e',hk⟩ | hk<;>simp [Builtin.append_,run_underlying ht,run_underlying hk,sizeOf,typeInfo,hi,len,hroom,cells]
  | zeros kn k z hk hx hz hn hb hnews =>
    subst hx
    have hw:IntKind.i64.wrap (n:Int)=n:=by rw [←iQ]; show cond (Nat.blt n _) _ _=_; rw [show Nat.blt n (lim .i64)=true by rw [Nat.blt_eq]; simp only [lim]; omega]; rfl
    have hneg:¬((n:Int)<0):=by omega
    have hmul:n*i.bytes≤100000*1000000:=Nat.mul_le_mul hn hb
    have h48:¬(281474976710656<(n:Int)*(i.bytes:Int)):=by rw [←Int.natCast_mul]; omega
    by_cases h0:n*i.size=0
    · simp [Builtin.append_,run_underlying ht,run_underlying hk,sizeOf,typeInfo,hi,asInt,asIntOf,hw,hneg,h48,hroom,h0]
    · simp [Builtin.append_,run_underlying ht,run_underlying hk,sizeOf,typeInfo,zeroValue,hi,hz,asInt,asIntOf,hw,hneg,h48,hroom]
theorem TN {t tx ty e:TypeId} {i:TypeInfo} {z:Value} (ht:P.underlying t=some (.slice e)) (hi:P.info? e=some i) (hz:i.zero=some z) {base:Option Addr} {sLen sCap n:Nat} {x:Value} {news olds:List Value} (hA:Adds P i tx x n news w)
    (hold:(Builtin.firstCells i.size sLen (.slice base sLen sCap)).run P w.drew=.ok olds.toArray w.drew) (hg:sCap<sLen+n) (hneed:sLen+n≤100000) (hbytes:i.bytes≤100000) :
    (Builtin.append_ #[t,tx] ty #[.slice base sLen sCap,x]).run P w =
      .ok (.slice (some ⟨w.heap.size,0,none⟩) (sLen+n) (grownCap w (sLen+n) sCap e))
        (w.drew.alloc (.cells ((olds++news).toArray++Builtin.zeroCells z.cells (grownCap w (sLen+n) sCap e - (sLen+n))) e)):=by
  have hn:¬(sLen+n≤sCap):=by omega
  have h63':¬(9223372036854775807<((sLen:Int)+(n:Int))):=by omega
  have hfit:Builtin.nextslicecap (sLen+n) sCap*i.bytes≤281474976710656:=by
    have h1:=nextslicecap_le hg
    have h2:Builtin.nextslicecap (sLen+n) sCap*i.bytes≤200000*100000:=Nat.mul_le_mul (by omega) hbytes
    omega
  have h48':¬(281474976710656<Builtin.nextslicecap (sLen+n) sCap*i.bytes):=by omega
  cases hA with
  | src kind len cells cellsD =>
    rcases kind with ⟨e',hk⟩ | hk <;>
      (simp [Builtin.append_,run_underlying ht,run_underlying hk,sizeOf,typeInfo,zeroValue,hi,hz,len,hn,h63',h48',Question.forced,cellsD,hold,newRow,grownCap]
       congr 2
       apply Array.ext'
       simp [List.append_assoc])
  | zeros kn k z' hk hx hz' hnn hb hnews =>
    subst hx
    obtain rfl:z=z':=by rw [hz] at hz'; exact some_inj hz'
    have hw:IntKind.i64.wrap (n:Int)=n:=by rw [←iQ]; show cond (Nat.blt n _) _ _=_; rw [show Nat.blt n (lim .i64)=true by rw [Nat.blt_eq]; simp only [lim]; omega]; rfl
    have hneg:¬((n:Int)<0):=by omega
    have hmul:n*i.bytes≤100000*1000000:=Nat.mul_le_mul hnn hb
    have h48:¬(281474976710656<(n:Int)*(i.bytes:Int)):=by rw [←Int.natCast_mul]; omega
    by_cases h0:n*i.size=0
    · rw [if_pos h0] at hnews
      have:news=[]:=by simpa using congrArg Array.toList hnews
      subst this
      simp [Builtin.append_,run_underlying ht,run_underlying hk,sizeOf,typeInfo,zeroValue,hi,hz,asInt,asIntOf,hw,hneg,h48,hn,h63',h48',h0,Question.forced,hold,newRow,grownCap]
    · rw [if_neg h0] at hnews
      simp [Builtin.append_,run_underlying ht,run_underlying hk,sizeOf,typeInfo,zeroValue,hi,hz,asInt,asIntOf,hw,hneg,h48,hn,h63',h48',h0,Question.forced,hold,newRow,grownCap,←hnews]
      congr 2
      apply Array.ext'
      simp [List.append_assoc]
theorem tQ {d:TypeDesc} {k:IntKind} (h:intD d=some k):d=.int k:=by
  unfold intD at h
  split at h
  · rw [some_inj h]
  · cases h
theorem Qz (r:Rel P.globals.size σ h w) {e u:TypeId} {te:TI} {i:TypeInfo} (hi:P.info? e=some i) (hte:(ah P).t e=some te) {v:A} {new:List A} {n:Nat} (ha:addend (ah P) h te u v=some (new,n))
    (hv:v.ok σ.dom) :
    Adds P i u (v.den σ) n (A.aj σ new) w∧A.oks σ.dom new:=by
  obtain ⟨i',hi',hs,hb,hz⟩:=(dP hte).ex
  obtain rfl:i=i':=by rw [hi] at hi'; exact some_inj hi'
  unfold addend at ha
  split at ha
  · cases ha
  · rename_i tu htu
    split at ha
    · rename_i k hd
      split at ha
      · rename_i k' m
        split at ha
        · rename_i m
          obtain ⟨h1,h2⟩:=aD ha
          obtain ⟨h1,h3⟩:=and_true h1
          split at h2
          · rename_i z hzz
            obtain ⟨h4,h5⟩:=aD h2
            have:=some_inj h5
            injection this with q1 q2
            subst q1 q2
            obtain ⟨zv,hzv,hzd,hzo,_⟩:=hz z hzz
            refine ⟨.zeros k k' zv (by rw [(dP htu).d,tQ hd]) rfl hzv (fK h1) (by rw [hb]; exact fK h3) ?_,tO (hzo _) m⟩
            have hvc:zv.cells=⟨A.aj σ z⟩:=by apply Array.ext'; rw [←hzd σ]
            have hzl:=aY h4
            by_cases h0:m*i.size=0
            · rw [if_pos h0]
              have:A.aj σ (iX z m)=[]:=List.eq_nil_of_length_eq_zero (by rw [aM,jF,hzl,←hs]; exact h0)
              rw [this]
            · rw [if_neg h0]
              have hz0:(⟨A.aj σ z⟩:Array Value).size≠0:=by
                simp only [List.size_toArray,aM,hzl,←hs]
                intro e; rw [e] at h0; simp at h0
              have:=vM ⟨A.aj σ z⟩ m hz0
              unfold Builtin.zeroCells
              rw [hvc,this,og]
          · cases h2
        · cases ha
      · cases ha
    · rename_i hd
      have h99:=aD ha
      clear ha
      obtain ⟨hsd,ha⟩:=h99
      have kind:(∃e',P.underlying u=some (.slice e'))∨P.underlying u=some .string:=by
        rw [(dP htu).d]
        revert hsd
        cases tu.d<;>first | (intro hsd; cases hsd; done) | (intro _; exact .inl ⟨_,rfl⟩) | (intro _; exact .inr rfl)
      split at ha
      · rename_i l
        have:=some_inj ha
        injection this with q1 q2
        subst q1 q2
        have c1:∀w:World,(Builtin.firstCells i.size l.length (.string ⟨⟨l⟩⟩)).run P w=.ok (A.aj σ (iE l)).toArray w:=fun w=>by
          rw [vN]
          simp only [Builtin.firstCells,Sem.run_pure]
          congr 1
          apply Array.ext'
          rw [Array.toList_map]
          have:((⟨⟨l⟩⟩:ByteArray).extract 0 l.length).data.toList=l:=by
            rw [ByteArray.data_extract,Array.toList_extract]
            simp [List.extract]
          rw [this]
        exact ⟨.src kind (fun w'=>rfl) (c1 w) (c1 w.drew),xR l⟩
      · rename_i q m lo c
        split at ha
        · rename_i new' hcl
          have:=some_inj ha
          injection this with q1 q2
          subst q1 q2
          obtain ⟨c1,c2⟩:=kH (P:=P) r hcl
          obtain ⟨c3,_⟩:=kH (P:=P) (r.drew (w.drawn+1)) hcl
          exact ⟨.src kind (fun w'=>rfl) (by rw [hs]; exact c1) (by rw [hs]; exact c3),c2⟩
        · cases ha
      · cases ha
theorem TQ (hf:¬σ.dom h.nx) (r:Rel P.globals.size σ h w) {k:H} (hsub:∀j x,k.t.get j=some x→h.t.get j=some x) (hnx:k.nx=h.nx) (e:TypeId) {all:List A} (hall:A.oks σ.dom all) (need size cap:Nat) (hl:all.length=need*size) (z:Array Value) (hz:z.size=size) (_hcap:need≤cap) :
    Goes P.globals.size σ h w (σ.with h.nx w.heap.size 0 (cap - need)) (k.new (.cells e (Tr.fC .lf 0 all) (need*size) (some (h.nx,size)) true))
      (w.drew.alloc (.cells ((A.aj σ all).toArray++Builtin.zeroCells z (cap - need)) e)):=by
  have s:=Val.je σ h.nx w.heap.size 0 (cap - need) hf
  have old:∀i,i<w.heap.size→(w.drew.alloc (.cells ((A.aj σ all).toArray++Builtin.zeroCells z (cap - need)) e)).heap[i]? = w.heap[i]?:=fun i hi=>by
    show (w.heap.push _)[i]? = _
    simp [Array.getElem?_push,Nat.ne_of_lt hi]
  refine Goes.fresh r hsub hnx _ _ 0 (cap - need) hf (fun i hi _=>old i hi) (fun j x hj=>old _ (r.at_ j x (hsub j x hj)).inside) (fun j x hj=>Nat.ne_of_lt (r.at_ j x (hsub j x hj)).inside)
    (by show w.heap.size≤(w.heap.push _).size; simp) rfl rfl rfl (.inl (Nat.le_refl _)) ⟨(A.aj σ all).toArray++Builtin.zeroCells z (cap - need),0,0,?_,?_,fun k a ha=> ?_,fun x hx=> ?_,(fun _=>rfl),fun hc=>by cases hc⟩
  · rw [dB]
    show (w.heap.push _)[w.heap.size]? = _
    simp
  · rw [eD]
    simp only [Val.room,lF,Array.size_append,List.size_toArray,aM,hl,size_zeroCells,hz]
    omega
  · have h1:=yV ha
    have h2:=gP.1 hall a (List.mem_of_getElem? h1)
    refine ⟨?_,h2.mono s.dom⟩
    rw [eD,s.den h2,Nat.zero_add]
    have hlt:=(List.getElem?_eq_some_iff.1 h1).1
    rw [Array.getElem?_append_left (by simp [aM]; exact hlt)]
    simp [dD,h1]
  · obtain rfl:=some_inj hx; exact bS ..
theorem IX {h:H} {j:Nat}:∀i x,(h.drop j).t.get i=some x→h.t.get i=some x:=fun _i _x hx=>(fu hx).2
theorem VE (r:Rel P.globals.size σ h w) (hf:¬σ.dom h.nx) {t u ty e:TypeId} {te:TI} {i:TypeInfo} (ht:P.underlying t=some (.slice e)) (hi:P.info? e=some i) (hte:(ah P).t e=some te) {q:Option (Nat×Nat)} {len lo:Nat} {c:Option Nat} (hq:(A.sl q len lo c).ok σ.dom)
    {new:List A} {n:Nat} {x:Value} (hA:Adds P i u x n (A.aj σ new) w) (hnew:A.oks σ.dom new) (hlo:lo<len+n) {a:A} {k:H} (hg:vG h e te q len lo c new (len+n)=some (a,k)) :
    Does P σ h w (Builtin.append_ #[t,u] ty #[(A.sl q len lo c).den σ,x]) a k∧h.nx≤k.nx:=by
  obtain ⟨i',hi',hs,hb,hz⟩:=(dP hte).ex
  obtain rfl:i=i':=by rw [hi] at hi'; exact some_inj hi'
  unfold vG at hg
  obtain ⟨h1,h2⟩:=aD hg
  obtain ⟨h3,h4⟩:=and_true h1
  obtain ⟨h3,h5⟩:=and_true h3
  obtain ⟨h4,h6⟩:=and_true h4
  obtain ⟨h6,h7⟩:=and_true h6
  have h3:len+n≤100000:=fK h3
  have h5:te.bytes≤100000:=fK h5
  have h7:(len+n - len)*te.size=new.length:=aY h7
  rw [Nat.add_sub_cancel_left] at h7
  split at h2
  · cases h2
  · rename_i old hold
    obtain ⟨h8,h2⟩:=aD h2
    have holdl:old.length=len*te.size:=aY h8
    split at h2
    · cases h2
    · rename_i k' hk
      have:=some_inj h2
      injection this with q1 q2
      subst q1 q2
      obtain ⟨z,hzz,hzl⟩:∃z,te.zero=some z∧z.length=te.size:=by
        unfold XY at h4
        split at h4
        · rename_i z hzz; exact ⟨z,hzz,aY h4⟩
        · cases h4
      obtain ⟨zv,hzv,hzd,hzo,_⟩:=hz z hzz
      have hvs:zv.cells.size=te.size:=by
        have:=congrArg List.length (hzd σ)
        rw [aM,hzl] at this
        simpa using this.symm
      have hok:=(kH (P:=P) r hold).2
      have hold1:=(kH (P:=P) (r.drew (w.drawn+1)) hold).1
      have hall:A.oks σ.dom (old++new):=jk hok hnew
      have hden:A.aj σ old++A.aj σ new=A.aj σ (old++new):=by simp [dD]
      have hl:(old++new).length=(len+n)*te.size:=by rw [List.length_append,holdl,←h7,Nat.add_mul]
      have grow:lo+σ.ex c<len+n→(∀j x,k'.t.get j=some x→h.t.get j=some x)→k'.nx=h.nx →
          Does P σ h w (Builtin.append_ #[t,u] ty #[(A.sl q len lo c).den σ,x]) (.sl (some (h.nx,0)) (len+n) (len+n) (some h.nx)) (k'.new (.cells e (Tr.fC .lf 0 (old++new)) (Nat.mul (len+n) te.size) (some (h.nx,te.size)) true)):=by
        intro hlt hsub hnx
        have hcap:=grownCap_ge w (len+n) (lo+σ.ex c) e
        refine ⟨_,_,?_,TQ hf r hsub hnx e hall (len+n) te.size (grownCap w (len+n) (lo+σ.ex c) e) hl zv.cells hvs hcap,⟨fun x hx=>by obtain rfl:=some_inj hx; exact bS ..,fun x hx=>by obtain rfl:=some_inj hx; exact bS ..⟩⟩
        rw [A.den,TN (z:=zv) ht hi hzv hA (olds:=A.aj σ old) (by rw [hs]; exact hold1) hlt h3 (by rw [hb]; exact h5),hden]
        have e7:(σ.with h.nx w.heap.size 0 (grownCap w (len+n) (lo+σ.ex c) e - (len+n))).ex (some h.nx)=grownCap w (len+n) (lo+σ.ex c) e - (len+n):=lF ..
        rw [A.den,e7,Nat.add_sub_cancel' hcap,Option.map_some,mF]
      unfold FX at hk
      split at hk
      · obtain rfl:=some_inj hk
        refine ⟨grow (by simpa [Val.ex] using hlo) (fun _ _ h=>h) rfl,?_⟩
        simp [H.new]
      · rename_i x0
        split at hk
        · cases hk
        · rename_i j o
          split at hk
          · rename_i e' tr E cz wr hj
            split at hk
            · rename_i y z0
              obtain ⟨k1,k2⟩:=aD hk
              obtain rfl:=some_inj k2
              obtain ⟨k2,k3⟩:=and_true k1
              obtain ⟨m1,m4⟩:=and_true k2
              obtain ⟨m3,m5⟩:=and_true k3
              obtain ⟨m7,m6⟩:=and_true m5
              have k5:o+lo*te.size≤E:=fK m7
              have m4:=aY m4
              have m3:=aY m3
              have m6:=aY m6
              clear k1 k2 k3 m5 m7
              subst m4 m3 m6 m1
              refine ⟨?_,by simp [H.new,H.drop]⟩
              by_cases hroom:len+n≤lo+σ.cap x0
              · obtain ⟨cur,flo,fhi,b1,b2,b3,b4,b5,_⟩:=r.at_ j _ hj
                simp only [Val.room] at b2 b5
                have hm:(len+n)*te.size≤(lo+σ.cap x0)*te.size:=Nat.mul_le_mul_right _ hroom
                rw [Nat.add_mul,Nat.add_mul] at hm
                have hlen:=aM (σ:=σ) new
                have run:=ng (P:=P) (σ.blk j) (σ.off j+(o+len*te.size)) e' flo fhi (A.aj σ new) 0 cur w b1 (fun k h5 h6=>(by have:=b5 trivial; omega)) (by omega) (EB h6)
                simp only [Nat.add_zero] at run
                have s:=Val.je σ h.nx (σ.blk j) (σ.off j+o) (lo+σ.cap x0 - (len+n)) hf
                refine ⟨σ.with h.nx (σ.blk j) (σ.off j+o) (lo+σ.cap x0 - (len+n)),w.setRow (σ.blk j) (cur.toList.take (σ.off j+(o+len*te.size))++A.aj σ new++cur.toList.drop (σ.off j+(o+len*te.size)+(A.aj σ new).length)).toArray,?_,?_,⟨fun x hx=>by obtain rfl:=some_inj hx; exact bS ..,fun x hx=>by obtain rfl:=some_inj hx; exact bS ..⟩⟩
                · have e1:((A.sl (some (j,o)) len lo (some x0)).den σ)=.slice (some (σ.ad (j,o))) len (lo+σ.cap x0):=rfl
                  rw [e1,zY ht hi hA hroom (by rw [kV,hs]; exact run)]
                  have e7:(σ.with h.nx (σ.blk j) (σ.off j+o) (lo+σ.cap x0 - (len+n))).ex (some h.nx)=lo+σ.cap x0 - (len+n):=lF ..
                  have e8:(σ.with h.nx (σ.blk j) (σ.off j+o) (lo+σ.cap x0 - (len+n))).ad (h.nx,0)=σ.ad (j,o):=by simp [Val.ad,dB,eD]
                  rw [A.den,e7,Nat.add_sub_cancel' hroom,Option.map_some,e8]
                · refine Goes.fresh r IX rfl _ _ _ _ hf (fun i hi hn=>setRow_other w _ i _ (fun e=>hn j _ hj rfl e.symm)) (fun i x hx=>setRow_other w _ _ _ (fun e=>(fu hx).1 (r.inj i x j _ (fu hx).2 hj e)))
                    (fun i x hx e=>(fu hx).1 (r.inj i x j _ (fu hx).2 hj e)) (by rw [setRow_size]; exact Nat.le_refl _) rfl rfl rfl (.inr ⟨j,_,hj,rfl,rfl⟩) ⟨_,flo,fhi,by rw [dB]; exact setRow_heap w _ cur _ e' _ b1,?_,fun k a ha=> ?_,(fun x hx=>by obtain rfl:=some_inj hx; exact bS ..),fun _=>b5 trivial,fun hc=>by cases hc⟩
                  · rw [eD]
                    simp only [Val.room,lF,List.size_toArray,List.length_append,List.length_take,List.length_drop,Array.length_toList,hlen]
                    have:(lo+σ.cap x0 - (len+n))*te.size=(lo+σ.cap x0)*te.size - (len+n)*te.size:=Nat.sub_mul ..
                    rw [Nat.add_mul,Nat.add_mul] at this
                    have e9:Nat.mul (len+n) te.size=len*te.size+n*te.size:=Nat.add_mul ..
                    omega
                  · have h1:=yV ha
                    have h2:=gP.1 hall a (List.mem_of_getElem? h1)
                    refine ⟨?_,h2.mono s.dom⟩
                    rw [eD,s.den h2]
                    have hklt:=(List.getElem?_eq_some_iff.1 h1).1
                    rw [List.length_append] at hklt
                    simp only [List.getElem?_toArray]
                    rw [List.append_assoc]
                    by_cases hlt:k<old.length
                    · rw [List.getElem?_append_left hlt] at h1
                      have hb3:tr.get (o+k)=some a:=by
                        unfold cellsOf at hold
                        simp only [hj] at hold
                        have hold':cond (Nat.beq (len*te.size) 0) (some []) (rd tr o (len*te.size))=some old:=hold
                        cases hb:Nat.beq (len*te.size) 0 with
                        | true=>rw [hb] at hold'; obtain rfl:=some_inj hold'; simp at hlt
                        | false=>rw [hb] at hold'; exact (Bz hold').2 k a h1
                      obtain ⟨c1,c2⟩:=b3 _ a hb3
                      have:=(Array.getElem?_eq_some_iff.1 c1).1
                      rw [List.getElem?_append_left (by simp; omega),List.getElem?_take,if_pos (by omega)]
                      rw [←Nat.add_assoc] at c1
                      simpa using c1
                    · rw [List.getElem?_append_right (by omega)] at h1
                      rw [List.getElem?_append_right (by simp; omega),List.getElem?_append_left (by simp [hlen]; omega),dD,List.getElem?_map]
                      have:σ.off j+o+k - (List.take (σ.off j+(o+len*te.size)) cur.toList).length=k - old.length:=by simp; omega
                      rw [this,h1]; rfl
              · exact grow (by simp only [Val.ex]; omega) IX rfl
            · cases hk
          · cases hk
end
end Go.Proofs.YteemnmalikomgaaGreatDoor.Ev
namespace Go.Proofs.YteemnmalikomgaaGreatDoor.Ev
def Nx (h k:H):Prop:=k.nx=h.nx∨k.nx=h.nx+1
theorem Nx.le {h k:H} (x:Nx h k):h.nx≤k.nx:=by rcases x with h | h<;>omega
theorem rO {h k:H} {j o:Nat} {cs:List A} (hs:mE h j o cs=some k):k.nx=h.nx:=by
 unfold mE at hs
 split at hs
 ·obtain ⟨_,h2⟩:=aD hs
  obtain rfl:=some_inj h2
  rfl
 ·cases hs
theorem TS {h k:H} {e:TypeId} {te:TI} {r:Option (Nat×Nat)} {lo:Nat} {c:Option Nat} (hs:FX h e te r lo c=some k):k.nx=h.nx:=by
 unfold FX at hs
 split at hs
 ·obtain rfl:=some_inj hs; rfl
 ·split at hs
  ·cases hs
  ·split at hs
   ·split at hs
    ·obtain ⟨_,h2⟩:=aD hs
     obtain rfl:=some_inj h2
     rfl
    ·cases hs
   ·cases hs
theorem IY {h k:H} {e:TypeId} {te:TI} {r:Option (Nat×Nat)} {len lo:Nat} {c:Option Nat} {new:List A} {need:Nat} {a:A} (hs:vG h e te r len lo c new need=some (a,k)):k.nx=h.nx+1:=by
 unfold vG at hs
 obtain ⟨_,hs⟩:=aD hs
 split at hs
 ·cases hs
 ·obtain ⟨_,hs⟩:=aD hs
  split at hs
  ·cases hs
  ·rename_i k' hk
   have:=some_inj hs
   injection this with _ q
   subst q
   show k'.nx+1=_
   rw [TS hk]
theorem Xg {a b:Nat} (h:Nat.ble a b=false):b<a:=by
 rcases Nat.lt_or_ge b a with h1 | h1
 ·exact h1
 ·rw [Nat.ble_eq_true_of_le h1] at h; cases h
theorem ay {α β:Type} {a c:α} {b d:β} (h:some (a,b)=some (c,d)):a=c∧b=d:=by
 have:=some_inj h
 injection this with h1 h2
 exact ⟨h1,h2⟩
theorem TU {h k:H} {te:TI} {r:Option (Nat×Nat)} {len lo:Nat} {c:Option Nat} {new:List A} {n:Nat} {a:A} (hs:yQ h te r len lo c new n=some (a,k)):k.nx=h.nx:=by
 unfold yQ at hs
 split at hs
 ·rw [←(ay hs).2]
 ·split at hs
  ·rw [←(ay hs).2]
  ·split at hs
   ·rename_i k' hk
    rw [←(ay hs).2]; exact rO hk
   ·cases hs
theorem BG {h k:H} {e:TypeId} {te:TI} {r:Option (Nat×Nat)} {len lo:Nat} {c:Option Nat} {new:List A} {n:Nat} {a:A} (hs:Lf h e te r len lo c new n=some (a,k)):Nx h k:=by
 have hs':cond (Nat.ble (Nat.add len n) lo) (yQ h te r len lo c new n) (vG h e te r len lo c new (Nat.add len n))=some (a,k):=hs
 cases hb:Nat.ble (Nat.add len n) lo with
 | false=>rw [hb] at hs'; exact .inr (IY hs')
 | true=>rw [hb] at hs'; exact .inl (TU hs')
section
variable {P:Program} {σ:Val} {h:H} {w:World}
theorem Free.one (hf:Free σ h.nx (h.nx+1)):¬σ.dom h.nx:=hf _ (Nat.le_refl _) (Nat.lt_succ_self _)
theorem QA {ρ:Operand→Value} {env:Tr A} (he:dR P σ env ρ) (r:Rel P.globals.size σ h w) {t u ty:TypeId} {x y:Operand} {a:A} {k:H} (hs:tq (ah P) env h t u x y=some (a,k)) (hf:Free σ h.nx k.nx) :
  Does P σ h w (Builtin.append_ #[t,u] ty #[ρ x,ρ y]) a k∧Nx h k:=by
 unfold tq at hs
 split at hs
 ·cases hs
 ·rename_i e te hel
  obtain ⟨ht,hte⟩:=mZ hel
  obtain ⟨i,hi,hsz,hby,hz⟩:=(dP hte).ex
  split at hs
  ·cases hs
  ·rename_i v hv
   split at hs
   ·cases hs
   ·rename_i new n ha
    split at hs
    ·rename_i q len lo c hx
     obtain ⟨e1,o1⟩:=he x _ hx
     obtain ⟨e2,o2⟩:=he y _ hv
     obtain ⟨hA,hnew⟩:=Qz r hi hte ha o2
     refine ⟨?_,BG hs⟩
     rw [e1,e2]
     have hs':cond (Nat.ble (Nat.add len n) lo) (yQ h te q len lo c new n) (vG h e te q len lo c new (Nat.add len n))=some (a,k):=hs
     cases hb:Nat.ble (Nat.add len n) lo with
     | false =>
      rw [hb] at hs'
      have hlt:lo<len+n:=Xg hb
      have hn:=IY hs'
      exact (VE r (by rw [hn] at hf; exact hf.one) ht hi hte o1 hA hnew hlt hs').1
     | true =>
      have hle:len+n≤lo:=fK hb
      rw [hb,cond_true] at hs'
      unfold yQ at hs'
      split at hs'
      ·obtain ⟨rfl,rfl⟩:=ay hs'
       exact ⟨σ,w,TM ht hi hA (by omega),.refl r,⟨fun x hx=>(by cases hx),o1.2⟩⟩
      ·rename_i j o
       split at hs'
       ·obtain ⟨rfl,rfl⟩:=ay hs'
        exact ⟨σ,w,zY ht hi hA (by omega) (by simp [A.aj,storeCells]),.refl r,o1⟩
       ·split at hs'
        ·rename_i k' hk'
         obtain ⟨rfl,rfl⟩:=ay hs'
         obtain ⟨v',g1,g2,_⟩:=rM r hk' hnew
         refine ⟨σ,v',zY ht hi hA (by omega) ?_,g2,o1⟩
         rw [kV,hsz]; exact g1
        ·cases hs'
    ·cases hs
theorem VF {v:A} {m:Nat} (hv:lZ v=some m) (w:World):(Builtin.lenOf (v.den σ)).run P w=.ok m w:=by
 unfold lZ at hv
 split at hv
 ·obtain rfl:=some_inj hv; rfl
 ·obtain rfl:=some_inj hv; rfl
 ·cases hv
theorem zn (r:Rel P.globals.size σ h w) {q:Option (Nat×Nat)} {new:List A} {k:H} (hp:putCells h q new=some k) (hnew:A.oks σ.dom new) :
  ∃v,(match q.map σ.ad with | some a=>storeCells a (A.aj σ new) | none=>pure ():Sem Unit).run P w=.ok () v∧Goes P.globals.size σ h w σ k v∧k.nx=h.nx:=by
 unfold putCells at hp
 split at hp
 ·obtain rfl:=some_inj hp; exact ⟨w,rfl,.refl r,rfl⟩
 ·split at hp
  ·obtain rfl:=some_inj hp; exact ⟨w,rfl,.refl r,rfl⟩
  ·exact rM r hp hnew
theorem VG {ρ:Operand→Value} {env:Tr A} (he:dR P σ env ρ) (r:Rel P.globals.size σ h w) {t ty:TypeId} {ts:Array TypeId} (ht0:ts[0]? = some t) {x y:Operand} {a:A} {k:H} (hs:Bj (ah P) env h t x y=some (a,k)) :
  Does P σ h w (Builtin.copy_ ts ty #[ρ x,ρ y]) a k∧Nx h k:=by
 unfold Bj at hs
 split at hs
 ·cases hs
 ·rename_i e te hel
  obtain ⟨ht,hte⟩:=mZ hel
  split at hs
  ·cases hs
  ·rename_i v hv
   split at hs
   ·cases hs
   ·rename_i m hm
    split at hs
    ·rename_i q len lo c hx
     split at hs
     ·cases hs
     ·rename_i new hnew
      split at hs
      ·rename_i k' hk
       obtain ⟨rfl,rfl⟩:=ay hs
       obtain ⟨e1,o1⟩:=he x _ hx
       obtain ⟨e2,o2⟩:=he y _ hv
       obtain ⟨c1,c2⟩:=kH (P:=P) r hnew
       obtain ⟨v',g1,g2,g3⟩:=zn (P:=P) r hk c2
       refine ⟨⟨σ,v',?_,g2,by simp [A.ok]⟩,.inl g3⟩
       have hmin:Nat.min m len=cond (Nat.ble m len) m len:=by
        cases hb:Nat.ble m len with
        | true=>exact Nat.min_eq_left (fK hb)
        | false=>exact Nat.min_eq_right (Nat.le_of_lt (Xg hb))
       have e3:((A.sl q len lo c).den σ)=.slice (q.map σ.ad) len (lo+σ.ex c):=rfl
       have l1:=VF (P:=P) (σ:=σ) hm
       rw [e1,e2,e3]
       unfold Builtin.copy_
       simp only [ht0,List.getElem?_toArray,List.getElem?_cons_zero,List.getElem?_cons_succ,Sem.run_bind,run_underlying ht,Result.andThen_ok,l1,dY hte,hmin,c1]
       cases q with
       | none =>
        have:(Result.ok () w:Result Unit)=.ok () v':=g1
        injection this with _ q2
        subst q2
        simp [A.den,goInt]
       | some q =>
        have g1':(storeCells (σ.ad q) (A.aj σ new)).run P w=.ok () v':=g1
        simp [A.den,goInt,g1']
      ·cases hs
    ·cases hs
theorem Fz {z:List A} {v:Value} (hv:v.cells=⟨A.aj σ z⟩) (n:Nat):(Builtin.zeroCells v.cells n).toList=A.aj σ (iX z n):=by
 unfold Builtin.zeroCells
 rw [hv]
 by_cases h0:(⟨A.aj σ z⟩:Array Value).size=0
 ·have hz:A.aj σ z=[]:=List.eq_nil_of_length_eq_zero (by simpa using h0)
  have h2:z=[]:=List.eq_nil_of_length_eq_zero (by have:=aM (σ:=σ) z; rw [hz] at this; simpa using this.symm)
  subst h2
  have:iX ([]:List A) n=[]:=List.eq_nil_of_length_eq_zero (by rw [jF]; simp)
  rw [this]
  simp [A.aj]
 ·rw [vM _ n h0,og]
theorem TV {ρ:Operand→Value} {env:Tr A} (he:dR P σ env ρ) (r:Rel P.globals.size σ h w) {t ty:TypeId} {ts:Array TypeId} (ht0:ts[0]? = some t) {x:Operand} {a:A} {k:H} (hs:xK (ah P) env h t x=some (a,k)) :
  Does P σ h w (Builtin.clear_ ts ty #[ρ x]) a k∧Nx h k:=by
 unfold xK at hs
 split at hs
 ·cases hs
 ·rename_i e te hel
  obtain ⟨ht,hte⟩:=mZ hel
  split at hs
  ·rename_i q n lo c hx
   split at hs
   ·cases hs
   ·rename_i z hz
    split at hs
    ·rename_i k' hk
     obtain ⟨rfl,rfl⟩:=ay hs
     obtain ⟨e1,o1⟩:=he x _ hx
     obtain ⟨i,hi,hsz,hby,hzz⟩:=(dP hte).ex
     obtain ⟨zv,hzv,hzd,hzo,_⟩:=hzz z hz
     have hvc:zv.cells=⟨A.aj σ z⟩:=by apply Array.ext'; rw [←hzd σ]
     obtain ⟨v',g1,g2,g3⟩:=zn (P:=P) r hk (tO (hzo _) n)
     refine ⟨⟨σ,v',?_,g2,by simp [A.ok,A.oks]⟩,.inl g3⟩
     have e3:((A.sl q n lo c).den σ)=.slice (q.map σ.ad) n (lo+σ.ex c):=rfl
     rw [e1,e3]
     unfold Builtin.clear_
     simp only [ht0,List.getElem?_toArray,List.getElem?_cons_zero,Sem.run_bind,run_underlying ht,Result.andThen_ok]
     cases q with
     | none =>
      have:(Result.ok () w:Result Unit)=.ok () v':=g1
      injection this with _ q2
      subst q2
      simp [A.den,A.aj]
     | some q =>
      have g1':(storeCells (σ.ad q) (A.aj σ (iX z n))).run P w=.ok () v':=g1
      cases n with
      | zero =>
       have:(Result.ok () w:Result Unit)=.ok () v':=g1
       injection this with _ q2
       subst q2
       simp [A.den,A.aj]
      | succ n =>
       have hzr:∀w,(zeroValue e).run P w=.ok zv w:=fun w=>by simp [zeroValue,typeInfo,hi,hzv]
       simp [A.den,A.aj,hzr,Fz hvc,g1']
    ·cases hs
  ·cases hs
end
end Go.Proofs.YteemnmalikomgaaGreatDoor.Ev
namespace Go.Proofs.YteemnmalikomgaaGreatDoor.Ev
section
variable {P:Program} {σ:Val} {h:H} {w:World}
theorem EC (r:Rel P.globals.size σ h w) (hf:¬σ.dom h.nx) (e:TypeId) (l:List A) (hl:A.oks σ.dom l) (cap:Nat) (_hcap:l.length≤cap) (zv:Value) (fz:Nat×Nat) (wr:Bool) (hfz:wr=true→fz.2=0) :
  Goes P.globals.size σ h w (σ.with h.nx w.heap.size 0 (cap - l.length)) (h.new (.cells e (Tr.fC .lf 0 l) l.length (some (h.nx,1)) wr))
   {w with heap:=w.heap.push (.cells ((⟨A.aj σ l⟩:Array Value)++Array.replicate (cap - l.length) zv) e fz),drawn:=w.drawn+1 }:=by
 have s:=Val.je σ h.nx w.heap.size 0 (cap - l.length) hf
 have old:∀i,i<w.heap.size→({ w with heap:=w.heap.push (.cells ((⟨A.aj σ l⟩:Array Value)++Array.replicate (cap - l.length) zv) e fz),drawn:=w.drawn+1 }:World).heap[i]? = w.heap[i]?:=fun i hi=>by
  simp [Array.getElem?_push,Nat.ne_of_lt hi]
 refine Goes.fresh r (fun _ _ h=>h) rfl _ _ 0 (cap - l.length) hf (fun i hi _=>old i hi) (fun j x hj=>old _ (r.at_ j x hj).inside) (fun j x hj=>Nat.ne_of_lt (r.at_ j x hj).inside)
  (by simp) rfl rfl rfl (.inl (Nat.le_refl _)) ⟨(⟨A.aj σ l⟩:Array Value)++Array.replicate (cap - l.length) zv,fz.1,fz.2,by rw [dB]; simp,?_,fun k a ha=> ?_,fun x hx=> ?_,hfz,fun hc=>by cases hc⟩
 ·rw [eD]
  simp only [Val.room,lF,Array.size_append,List.size_toArray,aM,Array.size_replicate]
  omega
 ·have h1:=yV ha
  have h2:=gP.1 hl a (List.mem_of_getElem? h1)
  refine ⟨?_,h2.mono s.dom⟩
  rw [eD,s.den h2,Nat.zero_add]
  have hlt:=(List.getElem?_eq_some_iff.1 h1).1
  rw [Array.getElem?_append_left (by simp [aM]; exact hlt)]
  simp [dD,h1]
 ·obtain rfl:=some_inj hx; exact bS ..
theorem Ll (_hf:¬σ.dom h.nx) (n cap:Nat) (hcap:n≤cap):(A.sl (some (h.nx,0)) n n (some h.nx)).den (σ.with h.nx w.heap.size 0 (cap - n))=.slice (some ⟨w.heap.size,0,none⟩) n cap:=by
 have e7:(σ.with h.nx w.heap.size 0 (cap - n)).ex (some h.nx)=cap - n:=lF ..
 rw [A.den,e7,Nat.add_sub_cancel' hcap,Option.map_some,mF]
theorem QB (n B c:Nat):(A.sl (some (h.nx,0)) n n (some h.nx)).ok (σ.with h.nx B 0 c).dom :=
 ⟨fun x hx=>by obtain rfl:=some_inj hx; exact bS ..,fun x hx=>by obtain rfl:=some_inj hx; exact bS ..⟩
theorem I4 (n old:Nat) (e:TypeId) (t:Nat):n≤(Question.appendCap n old e).cut t:=by simp [Question.cut]
theorem TY (r:Rel P.globals.size σ h w) (hf:¬σ.dom h.nx) {s t e:TypeId} {si:TI} (hs:(ah P).t s=some si) (ht:P.underlying t=some (.slice e)) {l:List UInt8} {a:A} {k:H} (hr:rowOf (ah P) h e l=some (a,k)) :
  Does P σ h w (convert s t (.string ⟨⟨l⟩⟩)) a k:=by
 have us:=(dP hs).d
 unfold rowOf at hr
 split at hr
 ·cases hr
 ·rename_i te hte
  have ue:=(dP hte).d
  split at hr
  ·rename_i hd
   obtain ⟨rfl,rfl⟩:=ay hr
   rw [tQ hd] at ue
   have hb:(iE l).length=l.length:=by simp [iE]
   have hcap:(iE l).length≤(Question.appendCap l.length 0 e).cut (w.tape w.drawn (.appendCap l.length 0 e)):=by rw [hb]; exact I4 ..
   generalize hcc:(Question.appendCap l.length 0 e).cut (w.tape w.drawn (.appendCap l.length 0 e))=cap at hcap
   have g:=EC (P:=P) r hf e (iE l) (xR l) cap hcap (.int .u8 0) (cap,cap+1) false (fun hx=>by cases hx)
   rw [hb] at g hcap
   refine ⟨_,_,?_,g,QB ..⟩
   rw [Ll hf _ _ hcap]
   have hsz:((⟨⟨l⟩⟩:ByteArray)).size=l.length:=rfl
   have hmap:((⟨⟨l⟩⟩:ByteArray).data.map fun b=>Value.int .u8 b.toNat)=⟨A.aj σ (iE l)⟩:=by
    apply Array.ext'; rw [vN]; simp
   have hlen:(A.aj σ (iE l)).length=l.length:=by rw [aM,hb]
   have c1:(convert s t (.string ⟨⟨l⟩⟩)).run P w=(Conv.stringToBytes e ⟨⟨l⟩⟩).run P w:=by
    simp only [convert,Sem.run_bind,run_underlying us,run_underlying ht,Result.andThen_ok]
    cases si.d<;>simp [run_underlying ue]
   rw [c1]
   unfold Conv.stringToBytes markStringish
   simp only [Sem.run_bind,run_choose,Question.forced,Bool.false_eq_true,if_false,hsz,hcc,Result.andThen_ok,hmap,newRow,run_newObj,Sem.run_pure,run_shape]
   have sh:({ w with drawn:=w.drawn+1,heap:=w.heap.push (.cells ((⟨A.aj σ (iE l)⟩:Array Value)++Array.replicate (cap - l.length) (.int .u8 0)) e) }:World).shape? w.heap.size=some (e,cap):=by
    simp [World.shape?,hlen]
    omega
   have:({ w with drawn:=w.drawn+1 }:World).heap.size=w.heap.size:=rfl
   simp only [sh,Result.andThen_ok,run_freeze]
   congr 1
   simp only [World.freeze]
   rw [if_neg (by omega)]
   congr 1
   apply Array.ext_getElem?
   intro i
   rw [Array.getElem?_modify]
   by_cases hi:w.heap.size=i
   ·subst hi; simp
   ·simp [hi,Array.getElem?_push,Ne.symm hi]
  ·rename_i hd
   split at hr
   ·rename_i rs hrs
    obtain ⟨rfl,rfl⟩:=ay hr
    rw [tQ hd] at ue
    obtain ⟨d1,d2,_⟩:=lH (σ:=σ) (D:=σ.dom) hrs
    have hlen:rs.length=(Conv.runesFrom ⟨⟨l⟩⟩ l.length 0 #[]).size:=by
     have:=congrArg List.length d1
     rw [aM] at this
     simpa using this
    have hcap:rs.length≤(Question.appendCap (Conv.runesFrom ⟨⟨l⟩⟩ l.length 0 #[]).size 0 e).cut (w.tape w.drawn (.appendCap (Conv.runesFrom ⟨⟨l⟩⟩ l.length 0 #[]).size 0 e)):=by rw [hlen]; exact I4 ..
    generalize hcc:(Question.appendCap (Conv.runesFrom ⟨⟨l⟩⟩ l.length 0 #[]).size 0 e).cut (w.tape w.drawn (.appendCap (Conv.runesFrom ⟨⟨l⟩⟩ l.length 0 #[]).size 0 e))=cap at hcap
    have g:=EC (P:=P) r hf e rs d2 cap hcap (.int .i32 0) (0,0) true (fun _=>rfl)
    refine ⟨_,_,?_,g,QB ..⟩
    rw [Ll hf _ _ hcap]
    have hsz:((⟨⟨l⟩⟩:ByteArray)).size=l.length:=rfl
    have hmap:(Conv.runesFrom ⟨⟨l⟩⟩ l.length 0 #[])=⟨A.aj σ rs⟩:=by apply Array.ext'; rw [d1]
    have c1:(convert s t (.string ⟨⟨l⟩⟩)).run P w=(Conv.stringToRunes e ⟨⟨l⟩⟩).run P w:=by
     simp only [convert,Sem.run_bind,run_underlying us,run_underlying ht,Result.andThen_ok]
     cases si.d<;>simp [run_underlying ue]
    rw [c1]
    unfold Conv.stringToRunes
    simp only [hsz,Sem.run_bind,run_choose,Question.forced,Bool.false_eq_true,if_false,hcc,Result.andThen_ok,newRow,run_newObj,Sem.run_pure]
    rw [←hlen,hmap]
   ·cases hr
  ·cases hr
theorem BH:∀ {l:List A} {b:List UInt8},pz l=some b→∃ns:List Int,A.aj σ l=ns.map (Value.int .u8)∧ns.map (fun n=>UInt8.ofNat n.toNat)=b
 | [],b,h=>by obtain rfl:=some_inj h; exact ⟨[],rfl,rfl⟩
 | a::l,b,h=>by
  simp only [pz] at h
  split at h
  ·rename_i n
   cases hl:pz l with
   | none=>rw [hl] at h; cases h
   | some r =>
    rw [hl] at h
    obtain rfl:=some_inj h
    obtain ⟨ns,h1,h2⟩:=BH hl
    exact ⟨n::ns,by simp [A.aj,A.den,h1],by simp [h2]⟩
  ·cases h
theorem Lp:∀(ns:List Int) (b:ByteArray),ns.foldl (fun r n=>r.push (UInt8.ofNat n.toNat)) b=⟨b.data++⟨ns.map fun n=>UInt8.ofNat n.toNat⟩⟩
 | [],b=>by simp
 | x::l,b=>by
  simp only [List.foldl_cons]
  rw [Lp l]
  apply ByteArray.ext
  simp
theorem BJ:∀ {l:List A} {b:List UInt8},pE l=some b→∃ns:List Int,A.aj σ l=ns.map (Value.int .i32)∧ns.flatMap (fun n=>(Utf8.encode n).data.toList)=b
 | [],b,h=>by obtain rfl:=some_inj h; exact ⟨[],rfl,rfl⟩
 | a::l,b,h=>by
  simp only [pE] at h
  split at h
  ·rename_i n
   cases hl:pE l with
   | none=>rw [hl] at h; cases h
   | some r =>
    rw [hl] at h
    obtain rfl:=some_inj h
    obtain ⟨ns,h1,h2⟩:=BJ hl
    exact ⟨n::ns,by simp [A.aj,A.den,h1],by simp [h2]⟩
  ·cases h
theorem QD:∀(ns:List Int) (b:ByteArray),ns.foldl (fun r n=>r++Utf8.encode n) b=⟨b.data++⟨ns.flatMap fun n=>(Utf8.encode n).data.toList⟩⟩
 | [],b=>by simp
 | x::l,b=>by
  simp only [List.foldl_cons]
  rw [QD l]
  apply ByteArray.ext
  apply Array.ext'
  simp
theorem run_forIn_runes {w:World} (f:Value→ByteArray→Sem (ForInStep ByteArray)) (hf:∀(n:Int) (r:ByteArray),(f (.int .i32 n) r).run P w=.ok (.yield (r++Utf8.encode n)) w) :
  ∀(ns:List Int) (s:ByteArray),(forIn (ns.map (Value.int .i32)) s f).run P w=.ok (ns.foldl (fun r n=>r++Utf8.encode n) s) w:=by
 intro ns
 induction ns with
 | nil=>intro s; simp [Sem.run_pure]
 | cons n ns ih =>
  intro s
  simp only [List.map_cons,List.forIn_cons,Sem.run_bind,hf,Result.andThen,List.foldl_cons]
  exact ih _
theorem T9 (r:Rel P.globals.size σ h w) {s t e:TypeId} (hs:P.underlying s=some (.slice e)) (ht:P.underlying t=some .string) {q:Option (Nat×Nat)} {n lo:Nat} {c:Option Nat} {a:A} (hr:strOf (ah P) h e n (.sl q n lo c)=some a) :
  (convert s t ((A.sl q n lo c).den σ)).run P w=.ok (a.den σ) w∧a.ok σ.dom:=by
 have e3:((A.sl q n lo c).den σ)=.slice (q.map σ.ad) n (lo+σ.ex c):=rfl
 unfold strOf at hr
 split at hr
 ·cases hr
 ·rename_i te hte
  have ue:=(dP hte).d
  split at hr
  ·cases hr
  ·rename_i l hl
   have c1:=(kH (P:=P) r hl).1
   rw [e3] at c1 ⊢
   have c1':(Builtin.firstCells 1 n (.slice (q.map σ.ad) n (lo+σ.ex c))).run P w=.ok ⟨A.aj σ l⟩ w:=c1
   split at hr
   ·rename_i hd
    rw [tQ hd] at ue
    cases hb:pz l with
    | none=>rw [hb] at hr; cases hr
    | some b =>
     rw [hb] at hr
     obtain rfl:=some_inj hr
     obtain ⟨ns,h1,h2⟩:=BH (σ:=σ) hb
     refine ⟨?_,by simp [A.ok]⟩
     rw [run_convert_bytes_string w s t e _ n _ hs ue ht]
     cases q with
     | none =>
      have:(Result.ok #[] w:Result (Array Value))=.ok ⟨A.aj σ l⟩ w:=c1'
      injection this with q1 _
      have hl0:ns=[]:=by
       have:=congrArg Array.toList q1
       rw [h1] at this
       simpa using this.symm
      subst hl0
      rw [←h2]
      rfl
     | some q =>
      have c2:(loadCells (σ.ad q) n).run P w=.ok (ns.map (Value.int .u8)).toArray w:=by
       have:(loadCells (σ.ad q) (n*1)).run P w=.ok ⟨A.aj σ l⟩ w:=c1'
       rw [Nat.mul_one] at this
       rw [this,h1]
      rw [Option.map_some,run_bytesToString w _ n _ ns c2,Lp]
      rw [A.den,←h2]
      simp
   ·rename_i hd
    rw [tQ hd] at ue
    cases hb:pE l with
    | none=>rw [hb] at hr; cases hr
    | some b =>
     rw [hb] at hr
     obtain rfl:=some_inj hr
     obtain ⟨ns,h1,h2⟩:=BJ (σ:=σ) hb
     refine ⟨?_,by simp [A.ok]⟩
     have cv:(convert s t (.slice (q.map σ.ad) n (lo+σ.ex c))).run P w=(Conv.runesToString (.slice (q.map σ.ad) n (lo+σ.ex c))).run P w:=by
      simp [convert,run_underlying hs,run_underlying ht,run_underlying ue]
     rw [cv]
     cases q with
     | none =>
      have:(Result.ok #[] w:Result (Array Value))=.ok ⟨A.aj σ l⟩ w:=c1'
      injection this with q1 _
      have hl0:ns=[]:=by
       have:=congrArg Array.toList q1
       rw [h1] at this
       simpa using this.symm
      subst hl0
      rw [←h2]
      rfl
     | some q =>
      have c2:(loadCells (σ.ad q) n).run P w=.ok (ns.map (Value.int .i32)).toArray w:=by
       have:(loadCells (σ.ad q) (n*1)).run P w=.ok ⟨A.aj σ l⟩ w:=c1'
       rw [Nat.mul_one] at this
       rw [this,h1]
      unfold Conv.runesToString
      simp only [Option.map_some,Sem.run_bind,c2,Result.andThen,List.forIn_toArray]
      rw [run_forIn_runes _ (by intro n r; simp [Sem.run_pure]),QD]
      rw [A.den,←h2]
      simp [Sem.run_pure]
   ·cases hr
theorem Ua {ρ:Operand→Value} {env:Tr A} (he:dR P σ env ρ) (r:Rel P.globals.size σ h w) {s t:TypeId} {x:Operand} {a:A} {k:H} (hs:rC (ah P) env h s t x=some (a,k)) (hf:Free σ h.nx k.nx) (hn:Nx h k):Does P σ h w (convert s t (ρ x)) a k:=by
 have hc:∀ {a:A},q9 (ah P) env s t x=some a→Does P σ h w (convert s t (ρ x)) a h:=fun hh=>(Li (σ:=σ) he hh).does r
 unfold rC at hs
 split at hs
 ·cases hs
 ·rename_i y hy
  split at hs
  ·cases hs
  ·rename_i si hsi
   split at hs
   ·cases hs
   ·rename_i ti hti
    have plain:∀ {b:A},Bg ti.d y=some b→Does P σ h w (convert s t (ρ x)) b h:=fun hb=>hc (by simp only [q9,hy,hsi,hti]; exact hb)
    have fin:∀ {z:Option A},(z.map fun b=>(b,h))=some (a,k)→z=some a∧k=h:=fun {z} hz=>by
     cases z with
     | none=>cases hz
     | some b=>obtain ⟨rfl,rfl⟩:=ay hz; exact ⟨rfl,rfl⟩
    split at hs
    ·rename_i l
     split at hs
     ·rename_i e hd
      obtain ⟨e1,_⟩:=he x _ hy
      rw [e1]
      have hkn:k.nx=h.nx+1:=by
       unfold rowOf at hs
       split at hs
       ·cases hs
       ·split at hs
        ·rw [←(ay hs).2]; rfl
        ·split at hs
         ·rw [←(ay hs).2]; rfl
         ·cases hs
        ·cases hs
      exact TY r (by rw [hkn] at hf; exact hf.one) hsi (by rw [(dP hti).d,hd]) hs
     ·obtain ⟨h1,rfl⟩:=fin hs
      exact plain h1
    ·rename_i q n lo c
     split at hs
     ·rename_i e hd1 hd2
      obtain ⟨h1,rfl⟩:=fin hs
      obtain ⟨e1,_⟩:=he x _ hy
      rw [e1]
      obtain ⟨g1,g2⟩:=T9 r (by rw [(dP hsi).d,hd1]) (by rw [(dP hti).d,hd2]) h1
      exact ⟨σ,w,g1,.refl r,g2⟩
     ·cases hs
    ·obtain ⟨h1,rfl⟩:=fin hs
     exact plain h1
theorem Ub {ρ:Operand→Value} {env:Tr A} (he:dR P σ env ρ) (r:Rel P.globals.size σ h w) (hf:¬σ.dom h.nx) {t:TypeId} {x:Operand} {a:A} {k:H} (hs:kU (ah P) env h t x=some (a,k)):Does P σ h w (Instr.range t (ρ x)) a k:=by
 unfold kU at hs
 split at hs
 ·cases hs
 ·rename_i ti ht
  split at hs
  ·rename_i hd
   split at hs
   ·rename_i l hx
    obtain ⟨rfl,rfl⟩:=ay hs
    obtain ⟨e1,_⟩:=he x _ hx
    refine ⟨_,_,?_,Goes.new r (.stringIter ⟨⟨l⟩⟩ 0) (.iter l 0) 0 hf ⟨by rw [dB]; simp,eD ..⟩,bS ..⟩
    rw [e1]
    unfold Instr.range
    simp only [Sem.run_bind,fA ht,hd,Result.andThen_ok,A.den,Sem.run_pure,run_newObj,Option.map_some,mF]
   ·cases hs
  ·cases hs
theorem VI {ρ:Operand→Value} {env:Tr A} (he:dR P σ env ρ) (r:Rel P.globals.size σ h w) {ty:TypeId} {x:Operand} {b:Bool} {a:A} {k:H} (hs:rD (ah P) env h x b=some (a,k)):Does P σ h w (Instr.next (ρ x) b ty) a k:=by
 unfold rD at hs
 split at hs
 ·rename_i j o hx
  obtain ⟨h0,h2⟩:=aD hs
  obtain ⟨h1,h3⟩:=and_true h0
  have h3:=aY h3
  clear h0 hs
  subst h3 h1
  obtain ⟨e1,_⟩:=he x _ hx
  unfold Iy at h2
  split at h2
  ·rename_i s pos hj
   obtain ⟨b1,b2⟩:=r.at_ j _ hj
   have e2:σ.ad (j,0)=⟨σ.blk j,0,none⟩:=by simp [Val.ad,b2]
   have h2':cond (Nat.blt pos s.length) (some (A.tup [.b true,.i .i64 pos,.i .i32 (Utf8.decode ⟨⟨s⟩⟩ pos).1],h.turn j (.iter s (pos+(Utf8.decode ⟨⟨s⟩⟩ pos).2)))) (some (.tup [.b false],h))=some (a,k):=h2
   have go:(getObj (σ.blk j)).run P w=.ok (.stringIter ⟨⟨s⟩⟩ pos) w:=by simp [getObj,Sem.run,b1]
   have hsz:((⟨⟨s⟩⟩:ByteArray)).size=s.length:=rfl
   rw [e1,A.den,Option.map_some,e2]
   cases hb:Nat.blt pos s.length with
   | true =>
    rw [hb,cond_true] at h2'
    obtain ⟨rfl,rfl⟩:=ay h2'
    have hlt:=jw hb
    have hin:=(Array.getElem?_eq_some_iff.1 b1).1
    refine ⟨σ,{ w with heap:=w.heap.setIfInBounds (σ.blk j) (.stringIter ⟨⟨s⟩⟩ (pos+(Utf8.decode ⟨⟨s⟩⟩ pos).2)) },?_,?_,by simp [A.ok,A.oks]⟩
    ·simp only [Instr.next,Sem.run_bind,go,Result.andThen_ok,hsz,if_pos hlt]
     simp [setObj,Sem.run,b1,A.den,A.aj,goInt]
    ·exact Goes.turn (v:={ w with heap:=w.heap.setIfInBounds (σ.blk j) (.stringIter ⟨⟨s⟩⟩ (pos+(Utf8.decode ⟨⟨s⟩⟩ pos).2)) }) r hj rfl (fun i hi=>by simp [Array.getElem?_setIfInBounds_ne (Ne.symm hi)]) (by simp) rfl rfl rfl (.iter s (pos+(Utf8.decode ⟨⟨s⟩⟩ pos).2)) ⟨by simp [hin],b2⟩
   | false =>
    rw [hb,cond_false] at h2'
    obtain ⟨rfl,rfl⟩:=ay h2'
    have hge:¬pos<s.length:=by
     have:¬(Nat.blt pos s.length=true):=by rw [hb]; simp
     rwa [Nat.blt_eq] at this
    refine ⟨σ,w,?_,.refl r,by simp [A.ok,A.oks]⟩
    simp only [Instr.next,Sem.run_bind,go,Result.andThen_ok,hsz,if_neg hge]
    simp [A.den,A.aj]
  ·cases h2
 ·cases hs
theorem Xh {ρ:Operand→Value} {env:Tr A} (he:dR P σ env ρ) (r:Rel P.globals.size σ h w) (hf:¬σ.dom h.nx) {t:TypeId} {x:Operand} {lo hi mx:Option Operand} {a:A} {k:H} (hs:nX (ah P) env h t x lo hi mx=some (a,k)) :
  Does P σ h w (Instr.sliceAt t (ρ x) (lo.map ρ) (hi.map ρ) (mx.map ρ)) a k∧k.nx=h.nx+1:=by
 unfold nX at hs
 split at hs
 ·rename_i l
  split at hs
  ·cases hs
  ·rename_i hel0 hel
   obtain ⟨ht,hte⟩:=mZ (P:=P) (t:=t) (e:=hel0.1) (te:=hel0.2) hel
   split at hs
   ·rename_i q n lo c hx
    split at hs
    ·rename_i m hm
     obtain ⟨h1,h2⟩:=aD hs
     obtain ⟨h1,h3⟩:=and_true h1
     obtain ⟨rfl,rfl⟩:=ay h2
     have h1:=aY h1
     have h3:=aY h3
     subst h1 h3
     obtain ⟨kk,e2⟩:=xQ he hm
     obtain ⟨e1,o1⟩:=he x _ hx
     have od:σ.dom q.1:=o1.1 q rfl
     have s:=Val.je σ h.nx (σ.blk q.1) (if σ.cap c=0 then σ.off q.1+q.2 else σ.off q.1+q.2+m*hel0.2.size) (σ.cap c) hf
     refine ⟨⟨σ.with h.nx (σ.blk q.1) (if σ.cap c=0 then σ.off q.1+q.2 else σ.off q.1+q.2+m*hel0.2.size) (σ.cap c),w,?_,⟨⟨s,fun j hj=> ?_,Nat.le_refl _,rfl,rfl,rfl,fun _ _ _=>rfl,fun j y hj=>.inr ⟨j,y,hj,fun h=>h,(s.blk j (r.lt j y hj)).symm⟩⟩,⟨fun j b hb=>(r.at_ j b hb).keep (r.lt j b hb) s rfl,fun j b hb=>s.dom j (r.lt j b hb),fun j b i c hb hc e=>r.inj j b i c hb hc (by rw [←s.blk j (r.lt j b hb),←s.blk i (r.lt i c hc)]; exact e),fun j hj=> ?_⟩⟩,⟨fun x hx=>by obtain rfl:=some_inj hx; exact bS ..,fun x hx=>by obtain rfl:=some_inj hx; exact bS ..⟩⟩,rfl⟩
     ·have e3:((A.sl (some q) m m (some c)).den σ)=.slice (some (σ.ad q)) m (m+σ.cap c):=rfl
      rw [e1,e3]
      have hb:(0:Int)≤(m:Int)∧(m:Int)≤(m:Int):=by omega
      simp only [Instr.sliceAt,Sem.run_bind,run_underlying ht,Result.andThen_ok,Instr.slice,Option.map_some,Option.map_none,e2,Instr.sliceBounds,Instr.sliceBound,asIntOf,Sem.run_pure,Option.isSome_none,Bool.false_eq_true,if_false,if_pos hb,Int.toNat_natCast,dY hte]
      have e7:(σ.with h.nx (σ.blk q.1) (if σ.cap c=0 then σ.off q.1+q.2 else σ.off q.1+q.2+m*hel0.2.size) (σ.cap c)).ex (some h.nx)=σ.cap c:=lF ..
      rw [A.den,e7,Option.map_some]
      congr 1
      have e8:(σ.with h.nx (σ.blk q.1) (if σ.cap c=0 then σ.off q.1+q.2 else σ.off q.1+q.2+m*hel0.2.size) (σ.cap c)).ad (h.nx,0)=if m+σ.cap c=m then σ.ad q else (σ.ad q).add (m*hel0.2.size):=by
       by_cases hz:σ.cap c=0
       ·rw [if_pos (by omega)]; simp [Val.ad,dB,eD,hz]
       ·rw [if_neg (by omega),kV]; simp [Val.ad,dB,eD,hz,Nat.add_assoc]
      rw [e8]
      have e9:m+σ.cap c - m=0+σ.cap c:=by omega
      rw [e9,Nat.sub_self]
      by_cases hz:m+σ.cap c=m
      ·rw [if_pos hz,if_pos hz]
      ·rw [if_neg hz,if_neg hz]
     ·rcases hj with h1 | h1
      ·subst h1; exact .inr ⟨Nat.le_refl _,Nat.lt_succ_self _⟩
      ·exact .inl h1
     ·obtain ⟨h1,h2,h3⟩:=r.g j hj
      exact ⟨s.dom j h1,by rw [s.blk j h1]; exact h2,by rw [s.off j h1]; exact h3⟩
    ·cases hs
   ·cases hs
 ·cases hs
end
end Go.Proofs.YteemnmalikomgaaGreatDoor.Ev
