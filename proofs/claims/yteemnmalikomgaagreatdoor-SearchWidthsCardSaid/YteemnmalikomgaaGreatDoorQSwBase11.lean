import Derived.Test.YteemnmalikomgaaGreatDoorQSwBase10
set_option maxRecDepth 100000
set_option maxHeartbeats 3200000
namespace Go.Proofs.YteemnmalikomgaaGreatDoor
open Go.ChangeShapes Go.WideShapes Go.ChangeAt Go.RowKit
namespace NF
theorem qL (f:Nat→Nat→List St×Nat):∀c b nx,(aL f (c+1) b nx).1=(aL f c b nx).1++(f (b+(aL f c b nx).1.length) ((aL f c b nx).2.getLastD nx)).1∧(aL f (c+1) b nx).2=(aL f c b nx).2++[(f (b+(aL f c b nx).1.length) ((aL f c b nx).2.getLastD nx)).2]
 | 0,b,nx=>by simp [aL]
 | c+1,b,nx=>by
  obtain ⟨h1,h2⟩:=qL f c (b+(f b nx).1.length) (f b nx).2
  have e:aL f (c+2) b nx=((f b nx).1++(aL f (c+1) (b+(f b nx).1.length) (f b nx).2).1,(f b nx).2::(aL f (c+1) (b+(f b nx).1.length) (f b nx).2).2):=rfl
  have e2:aL f (c+1) b nx=((f b nx).1++(aL f c (b+(f b nx).1.length) (f b nx).2).1,(f b nx).2::(aL f c (b+(f b nx).1.length) (f b nx).2).2):=rfl
  rw [e,h1,h2,e2]
  dsimp only
  have hg:((f b nx).2::(aL f c (b+(f b nx).1.length) (f b nx).2).2).getLastD nx=(aL f c (b+(f b nx).1.length) (f b nx).2).2.getLastD (f b nx).2:=List.getLastD_cons ..
  rw [hg,List.length_append,←Nat.add_assoc,List.append_assoc]
  exact ⟨rfl,rfl⟩
def iy (t:Nd) (p gs cap:Nat) (ok:Nat→Prop) (S:List St) (nx:Nat) (w:World) (e:Ending) (w':World):Prop :=
 e=.returned (.int .i64 ((lead t S.length nx).2:Int))∧ak (fun k=>k=p∨k=gs) w w'∧∃ok':Nat→Prop,fZ w' p gs cap ok' (S++(lead t S.length nx).1)∧(∀b,ok b→ok' b)∧(∀b,ok' b→ok b∨w.heap.size≤b∧b<w'.heap.size)
structure nH (t:Nd) (x:Nv) (lo B p gs cap:Nat) (ok:Nat→Prop) (S:List St) (nx:Nat) (w:World):Prop where
 mki:fZ w p gs cap ok S
 may:may t=true
 room:S.length+wt t≤cap
 next:nx≤cap
 tree:bQ w lo B t x
 high:B≤w.heap.size
 low:p<lo∧gs<lo
 own:∀b,lo≤b→b<B→ok b
 okB:∀b,ok b→b<w.heap.size
def wO (t:Nd) (lo B:Nat):Prop:=∀(x:Nv) (p gs cap:Nat) (ok:Nat→Prop) (S:List St) (nx:Nat) (w:World),nH t x lo B p gs cap ok S nx w →
 Calls Tryz.prog 53 #[.pointer (some ⟨p,0,none⟩),x.v,.int .i64 (nx:Int)] w fun e w'=>iy t p gs cap ok S nx w e w'
theorem pJ {w w':World} {lo B p gs:Nat} {t:Nd} {x:Nv} (h:bQ w lo B t x) (ht:ak (fun k=>k=p∨k=gs) w w') (hB:B≤w.heap.size) (hlo:p<lo∧gs<lo):bQ w' lo B t x :=
 jh (fun q h1 h2=>by
  have e:=ht.block q.block (by omega) (by omega)
  unfold World.cell?
  rw [e]) h
theorem qM {t:Nd} {b nx:Nat} (hm:may t=true):(lead t b nx).1.length=wt t :=
 (lN (max (b+wt t) nx) (fun _=>True) trivial t b nx hm (pK.all_sets t) (Nat.le_max_left _ _) (Nat.le_max_right _ _)).1
theorem uF {t:Nd} {b nx E:Nat} (hm:may t=true) (h1:b+wt t≤E) (h2:nx≤E):(lead t b nx).2≤E :=
 (lN E (fun _=>True) trivial t b nx hm (pK.all_sets t) h1 h2).2.1
structure Wj (w wr:World) (p gs cap:Nat) (ok:Nat→Prop) (S:List St) (y:Nd) (nx i:Nat) (last:Nat) (s7:Value):Prop where
 aO:ak (fun k=>k=p∨k=gs) w wr
 is:last=(aL (fun b nx=>lead y b nx) i S.length nx).2.getLastD nx
 mki:∃ok':Nat→Prop,fZ wr p gs cap ok' (S++(aL (fun b nx=>lead y b nx) i S.length nx).1)∧(∀b,ok b→ok' b)∧(∀b,ok' b→ok b∨w.heap.size≤b∧b<wr.heap.size)∧∀b,s7.ownBlock=some b→¬ok' b
 row:wr.ownsRow w.heap.size 3 1 s7 (i+1) (nums (nx::(aL (fun b nx=>lead y b nx) i S.length nx).2))
theorem qN {y:Nd} (hm:may y=true):∀i b nx,(aL (fun b nx=>lead y b nx) i b nx).1.length=wt y*i
 | 0,b,nx=>by simp [aL]
 | i+1,b,nx=>by
  obtain ⟨h1,_⟩:=qL (fun b nx=>lead y b nx) i b nx
  rw [h1,List.length_append,qN hm i,qM hm,Nat.mul_add,Nat.mul_one]
theorem Ct (y:Nd) (lo B:Nat) (hC:wO y lo B) (s0:Sg) (nt0:Bool) (mn0 mx0:Int) (x:Nv) (p gs cap:Nat) (ok:Nat→Prop) (S:List St) (nx:Nat) (w:World) (hx0:¬mx0<0) (h:nH (.mk 5 s0 nt0 [y] mn0 mx0) x lo B p gs cap ok S nx w) :
  Calls Tryz.prog 95 #[.pointer (some ⟨p,0,none⟩),x.v,.int .i64 (nx:Int)] w fun e w'=>iy (.mk 5 s0 nt0 [y] mn0 mx0) p gs cap ok S nx w e w':=by
 have htree:=h.tree
 rw [bQ] at htree
 obtain ⟨e1,e2,e3,e4,xs,ho,hk⟩:=htree
 obtain ⟨k,A,n,c,nt,A2,n2,c2,mn,mx⟩:=x
 dsimp only at e1 e2 e3 e4
 subst e2 e3 e4
 obtain rfl:k=5:=e1
 obtain ⟨ma,mk⟩:=eP h.may
 have hmy:may y=true:=by rw [aW,aW,Bool.and_true] at mk; exact mk
 obtain ⟨_,r1,r2,r3⟩:=lJ ma
 obtain ⟨M,hM⟩:∃M:Nat,mx=(M:Int):=⟨mx.toNat,by omega⟩
 subst hM
 obtain ⟨N,hN⟩:∃N:Nat,mn=(N:Int):=⟨mn.toNat,by omega⟩
 subst hN
 have hwt:wt (.mk 5 s0 nt [y] (N:Int) (M:Int))=wt y*M+1:=by
  simp only [wt,bf,show ¬((5:Int)=3) by decide,if_false,if_true,hx0,Int.toNat_natCast,Nat.add_zero]
 have hld:lead (.mk 5 s0 nt [y] (N:Int) (M:Int)) S.length nx=((aL (fun b nx=>lead y b nx) M S.length nx).1++[⟨4,[],false,0,(nx::(aL (fun b nx=>lead y b nx) M S.length nx).2).drop N⟩],S.length+(aL (fun b nx=>lead y b nx) M S.length nx).1.length):=by
  rw [lead]
  simp only [show ¬((5:Int)=3) by decide,show ¬((5:Int)=4) by decide,if_false,if_true,hx0,Int.toNat_natCast,dx]
 have hroom:=h.room
 rw [hwt] at hroom
 have hkk:=hk
 rw [cO] at hkk
 obtain ⟨x1,_,rfl,hin1,hnil⟩:=hkk
 rw [cO] at hnil
 subst hnil
 have hn2:n2=1:=by have:=ho.len; simpa using this.symm
 subst hn2
 obtain ⟨b2,off,rfl,hb2,nv⟩:=nM (i:=0) ho.kids rfl (show 0<1 by omega)
 have hb2lo:=ho.lo2 b2 off rfl (show 0<1 by omega)
 obtain ⟨w1,hw1,k1,b1,z1⟩:=bX w 5 A n c nt (some ⟨b2,off,none⟩) 1 c2 (N:Int) (M:Int)
 obtain ⟨w2,hw2⟩:∃w2,w1.alloc (.cells #[.int .i64 (nx:Int)] 3)=w2:=⟨_,rfl⟩
 have bb2:Below w1.heap.size w1 w2:=by rw [←hw2]; exact (Below.refl _ _).alloc (Nat.le_refl _) _
 have kk2:Bk w2 3 w1.heap.size #[.int .i64 (nx:Int)]:=by rw [←hw2]; exact heap_alloc_new w1 _
 have z2:w2.heap.size=w.heap.size+2:=by rw [←hw2]; simp [z1]
 have b12:=b1.trans (bb2.mono b1.size)
 have k12:=aR.below k1 bb2 (by omega)
 obtain ⟨y0,y1,y2,y3,y4,y5⟩:=aB k12
 have I0:=Lib.hid (show Wj w w2 p gs cap ok S y nx 0 nx (.slice (some ⟨w1.heap.size,0,none⟩) 1 1) from by
  refine ⟨ak.aH b12 _,rfl,⟨ok,?_,fun b hb=>hb,fun b hb=>.inl hb,fun b hb hk=> ?_⟩,?_⟩
  ·rw [aL,List.append_nil]
   exact h.mki.turned (ak.aH b12 (fun _=>False)) (fun h=>h) (fun h=>h) (fun _ _ _ h=>h)
  ·have hb2:w1.heap.size=b:=by simpa [Value.ownBlock] using hb
   have:=h.okB b hk
   omega
  ·exact ⟨rfl,.inr ⟨w1.heap.size,1,_,rfl,by omega,kk2,Nat.le_refl _,by unfold maxLen; omega,rfl,rfl⟩⟩)
 have H:=Lib.hid h
 have K12:=Lib.hid k12
 have HY:=Lib.hid hmy
 have R:=Lib.hid (And.intro hroom (And.intro z2 (And.intro b1.size z1)))
 have HIN:=Lib.hid hin1
 have NV:=Lib.hid nv
 have BB:=Lib.hid (And.intro hb2 hb2lo)
 have HC:=Lib.hid hC
 have LD:=Lib.hid hld
 have hcap:=h.mki.big
 have NXB:=Lib.hid h.next
 obtain ⟨ki,Ai,ni,ci,nti,A2i,n2i,c2i,mni,mxi⟩:=x1
 have hM9:M≤9:=by omega
 have hNM:N≤M:=by omega
 dsimp only [Nv.v]
 clear h k1 b1 bb2 kk2 z1 z2 b12 k12 hmy ma mk hk ho hin1 nv hb2 hb2lo hC hld hwt hroom r1 r2 r3
 go_enter Tryz.func95,Tryz.ntmps95
 go_wp2_with fail
 go_loopw [2,7,12] (fun s2 s7 s12 wr=>∃i last:Nat,s12=.int .i64 (i:Int)∧s2=.int .i64 (last:Int)∧i≤M∧last≤cap∧Hid (Wj w wr p gs cap ok S y nx i last s7∧aR wr w.heap.size ⟨5,A,n,c,nt,some ⟨b2,off,none⟩,1,c2,(N:Int),(M:Int)⟩)) (fun _ _ s12 _=>M - (intOf s12).toNat)
 case atStart=>exact ⟨0,nx,rfl,rfl,Nat.zero_le _,NXB.out,Lib.hid ⟨I0.out,K12.out⟩⟩
 case round =>
  obtain ⟨i,last,rfl,rfl,hi,hlast,IB⟩:=hrel
  have I:=Lib.hid IB.out.1
  have KB:=Lib.hid IB.out.2
  clear I0 IB hw1 hw2 y0 y1 y2 y3 y4 y5
  have hi0:(0:Int)≤(i:Int):=by omega
  have hinc:IntKind.i64.wrap ((i:Int)+1)=(i:Int)+1:=IntWalk.i64_in _ (by omega)
  obtain ⟨A7,c7,rfl⟩:=jA I.out.row
  have hkw:∀q:Addr,q.block<w.heap.size→q.block≠p→q.block≠gs→wr.cell? q=w.cell? q:=fun q h1 h2 h3=>by
   have e:=I.out.aO.block q.block h1 (by omega)
   unfold World.cell?
   rw [e]
  by_cases hlt:i<M
  ·have hbB:b2<w.heap.size∧b2≠p∧b2≠gs:=by have:=BB.out; have:=H.out.high; have:=H.out.low; omega
   have nw:zC wr b2 (off+0*6) ⟨ki,Ai,ni,ci,nti,A2i,n2i,c2i,mni,mxi⟩:=⟨(hkw _ hbB.1 hbB.2.1 hbB.2.2).trans NV.out.c0,(hkw _ hbB.1 hbB.2.1 hbB.2.2).trans NV.out.c1,(hkw _ hbB.1 hbB.2.1 hbB.2.2).trans NV.out.c2,(hkw _ hbB.1 hbB.2.1 hbB.2.2).trans NV.out.c3,(hkw _ hbB.1 hbB.2.1 hbB.2.2).trans NV.out.c4,(hkw _ hbB.1 hbB.2.1 hbB.2.2).trans NV.out.c5⟩
   rw [Nat.zero_mul,Nat.add_zero] at nw
   obtain ⟨u0,u1,u2,u3,u4,u5⟩:=oG nw
   obtain ⟨y0,y1,y2,y3,y4,y5⟩:=aB KB.out
   obtain ⟨ok',m1,m2,m3,m4⟩:=I.out.mki
   have hrs:=qN HY.out i S.length nx
   obtain ⟨q1,q2⟩:=qL (fun b nx=>lead y b nx) i S.length nx
   rw [←I.out.is] at q1 q2
   have hmul:wt y*i+wt y≤wt y*M:=by
    have:wt y*(i+1)≤wt y*M:=Nat.mul_le_mul_left _ hlt
    rw [Nat.mul_add,Nat.mul_one] at this
    exact this
   have PRE:nH y ⟨ki,Ai,ni,ci,nti,A2i,n2i,c2i,mni,mxi⟩ lo B p gs cap ok' (S++(aL (fun b nx=>lead y b nx) i S.length nx).1) last wr :=
    ⟨m1,HY.out,by rw [List.length_append,hrs]; have:=R.out.1; omega,hlast,pJ HIN.out I.out.aO H.out.high H.out.low,Nat.le_trans H.out.high I.out.aO.size,H.out.low,fun b h1 h2=>m2 b (H.out.own b h1 h2),fun b hb=>(m3 b hb).elim (fun h1=>Nat.lt_of_lt_of_le (H.out.okB b h1) I.out.aO.size) (fun h1=>h1.2)⟩
   have LC:=Lib.hid (HC.out _ _ _ _ _ _ _ _ PRE)
   have hl1:(S++(aL (fun b nx=>lead y b nx) i S.length nx).1).length=S.length+(aL (fun b nx=>lead y b nx) i S.length nx).1.length:=List.length_append
   have LS:=Lib.hid (uF (nx:=last) (b:=S.length+(aL (fun b nx=>lead y b nx) i S.length nx).1.length) (E:=cap) HY.out (by rw [hrs]; have:=R.out.1; omega) hlast)
   have QQ:=Lib.hid (And.intro q1 (And.intro q2 hl1))
   have MM:=Lib.hid (And.intro m2 (And.intro m3 m4))
   dsimp only [Nv.v] at LC
   clear PRE m1 m2 m3 m4 hrs q1 q2 hl1 hmul nw hkw hbB
   go_wp2_with fail
   refine LC.out.mono ?_
   rintro e w5 ⟨rfl,t5,ok2,g1,g2,g3⟩
   rw [QQ.out.2.2] at g1 ⊢
   obtain ⟨l2,hl2⟩:∃l,(lead y (S.length+(aL (fun b nx=>lead y b nx) i S.length nx).1.length) last).2=l:=⟨_,rfl⟩
   have LS2:=Lib.hid (show l2≤cap from by rw [←hl2]; exact LS.out)
   have Q2:=Lib.hid (show (aL (fun b nx=>lead y b nx) (i+1) S.length nx).2=(aL (fun b nx=>lead y b nx) i S.length nx).2++[l2] from by rw [QQ.out.2.1,hl2])
   have G1:=Lib.hid (show fZ w5 p gs cap ok2 (S++(aL (fun b nx=>lead y b nx) (i+1) S.length nx).1) from by rw [QQ.out.1,←List.append_assoc]; exact g1)
   have O5:=Lib.hid (show w5.ownsRow w.heap.size 3 1 (.slice A7 (i+1) c7) (i+1) (nums (nx::(aL (fun b nx=>lead y b nx) i S.length nx).2)) from t5.own I.out.row (fun k hk e=>by
    obtain ⟨cs,h1,h2⟩:=iA I.out.row k hk
    have:=H.out.mki.lt
    rcases e with e | e<;>omega))
   have NOK:=Lib.hid (show ∀k,(Value.slice A7 (i+1) c7).ownBlock=some k→¬ok2 k∧k≠p∧k≠gs∧w.heap.size≤k∧k<w5.heap.size from fun k hk=>by
    obtain ⟨cs,h1,h2⟩:=iA I.out.row k hk
    have:=H.out.mki.lt
    have h3:=h1.lt
    refine ⟨fun hok=> ?_,by omega,by omega,h2,Nat.lt_of_lt_of_le h3 t5.size⟩
    rcases g3 k hok with h4 | h4
    ·exact MM.out.2.2 k hk h4
    ·omega)
   have KB5:=Lib.hid (show aR w5 w.heap.size _ from t5.bk KB.out (fun e=>by have:=H.out.mki.lt; rcases e with e | e<;>omega))
   have GG:=Lib.hid (show (∀b,ok b→ok2 b)∧(∀b,ok2 b→ok b∨w.heap.size≤b∧b<w5.heap.size) from ⟨fun b hb=>g2 b (MM.out.1 b hb),fun b hb=>by
    rcases g3 b hb with h1 | h1
    ·rcases MM.out.2.1 b h1 with h2 | h2
     ·exact .inl h2
     ·exact .inr ⟨h2.1,Nat.lt_of_lt_of_le h2.2 t5.size⟩
    ·exact .inr ⟨Nat.le_trans I.out.aO.size h1.1,h1.2⟩⟩)
   have T5:=Lib.hid (I.out.aO.trans t5 (fun _ _ h=>h))
   obtain ⟨i0,hii,hz0,hz1,hz2⟩:=info_parts yE
   have HW:=Lib.hid (And.intro (Nat.le_trans I.out.aO.size t5.size) H.out.mki.lt)
   rw [hl2]
   clear LC t5 g1 g2 g3 hl2 LS QQ KB MM u0 u1 u2 u3 u4 u5 y0 y1 y2 y3 y4 y5
   go_wp2_with (
    at_builtin
    refine wpList_append_own_at _ rfl _ _ 36 rfl w.heap.size 3 i0 (.int .i64 0) 1 8 Tryz.underlying36 hii hz0 hz1 hz2 rfl (by decide) (.slice A7 (i+1) c7) _ _ rfl (World.ownsRow.alloc O5.out _) ⟨w5.heap.size,0,none⟩ 1 1 [.int .i64 (l2:Int)] rfl rfl (Aj rfl _ _) (yF _) (Mj (by omega)) (Mk (by omega)) (by have:=HW.out; simp; omega) ?_
    intro v2 w6 hown hg _ hat
    have GT:=Lib.hid (show ak (fun k=>(Value.slice A7 (i+1) c7).ownBlock=some k) w5 w6 from (ak.aH ((Below.refl _ _).alloc (Nat.le_refl _) _) _).trans (ak.jB hg) (fun k _ e=>e))
    have I2:=Lib.hid (show Wj w w6 p gs cap ok S y nx (i+1) l2 v2∧aR w6 w.heap.size _ from by
     refine ⟨⟨(T5.out.trans GT.out (fun k hk e=>by have:=NOK.out k e; omega)),by rw [Q2.out,List.getLastD_concat],⟨ok2,G1.out.turned GT.out (fun e=>(NOK.out p e).2.1 rfl) (fun e=>(NOK.out gs e).2.2.1 rfl) (fun b hb _ e=>(NOK.out b e).1 hb),GG.out.1,fun b hb=> ?_,fun b hb=> ?_⟩,?_⟩,GT.out.bk KB5.out (fun e=>lQ O5.out KB5.out (by decide) _ e rfl)⟩
     ·rcases GG.out.2 b hb with h1 | h1
      ·exact .inl h1
      ·exact .inr ⟨h1.1,Nat.lt_of_lt_of_le h1.2 GT.out.size⟩
     ·rcases hat with h1 | h1
      ·exact (NOK.out b (by rw [←h1]; exact hb)).1
      ·rw [h1] at hb
       injection hb with hb
       simp at hb
       intro hok
       rcases GG.out.2 b hok with h2 | h2
       ·have:=H.out.okB b h2; have:=HW.out; omega
       ·omega
     ·rw [Q2.out,←List.cons_append]
      unfold nums at hown ⊢
      rw [List.map_append]
      exact hown)
    clear hown hg hat)
   go_roundw
   case rel=>exact ⟨i+1,l2,by first | rfl | (congr 1; done) | (congr 1; omega),rfl,by omega,LS2.out,I2⟩
   case measure=>first | (simp [intOf]; done) | (simp [intOf]; omega)
  ·obtain rfl:i=M:=by omega
   obtain ⟨y0,y1,y2,y3,y4,y5⟩:=aB KB.out
   obtain ⟨g7,cur7,rfl,w7,w8,w9,w10⟩:∃g cur,A7=some ⟨g,0,none⟩∧w.heap.size≤g∧Bk wr 3 g cur∧i+1≤c7∧cur.toList.take ((i+1)*1)=nums (nx::(aL (fun b nx=>lead y b nx) i S.length nx).2):=by
    rcases I.out.row.2 with ⟨_,h1⟩ | ⟨g,cp,cur,h1,e2,e3,e4,e5,e6,e7⟩
    ·omega
    ·injection h1 with h2 _ h4
     subst h2 h4
     exact ⟨g,cur,rfl,e2,e3,e4,e7⟩
   have f1:(N:Int)≤(i:Int)+1:=by omega
   have f2:(N:Int)≤((i+1:Nat):Int):=by omega
   have f3:(0:Int)≤(N:Int):=by omega
   have f4:((i+1:Nat):Int)≤(c7:Int):=by omega
   have f5:(i:Int)+1≤(c7:Int):=by omega
   have f6:¬c7=N:=by omega
   have f7:c7 - N≠0:=by omega
   have f8:N≤i+1:=by omega
   obtain ⟨ok',m1,m2,m3,m4⟩:=I.out.mki
   have hg7:=m4 g7 rfl
   have hlt7:=Bk.lt w8
   have hpg:=H.out.mki.lt
   have hwl:((nx::(aL (fun b nx=>lead y b nx) i S.length nx).2).drop N).length=i+1 - N:=by rw [List.length_drop,List.length_cons,uG]
   have hrs:=qN HY.out i S.length nx
   have PW:=uE p gs cap (fun b=>ok' b∨b=g7) (S++(aL (fun b nx=>lead y b nx) i S.length nx).1) ⟨4,[],false,0,(nx::(aL (fun b nx=>lead y b nx) i S.length nx).2).drop N⟩ 4 none (some ⟨g7,N,none⟩) 0 0 (i+1 - N) (c7 - N) false 0 wr
    (m1.mono (fun b hb=>.inl hb) (fun h=>h.elim m1.okp.1 (fun e=>by omega)) (fun h=>h.elim m1.okp.2 (fun e=>by omega)))
    (by rw [List.length_append,hrs]; have:=R.out.1; omega)
    ⟨⟨none,0,0,some ⟨g7,N,none⟩,c7 - N,by rw [←hwl],Nat.zero_le _,fF.nothing _ _ _ _,by unfold nums; rw [List.length_map,Nat.mul_one],fun _=>⟨g7,N,rfl,.inr rfl,hlt7,fun j u hu=>by
     rw [Bk.get w8]
     have h1:(cur7.toList.take ((i+1)*1))[N+j]? = some u:=by
      rw [w10]
      unfold nums at hu ⊢
      rw [List.getElem?_map,List.getElem?_drop] at hu
      rw [List.getElem?_map]
      exact hu
     rw [List.getElem?_take] at h1
     split at h1
     ·simpa using h1
     ·cases h1⟩⟩,by rw [hwl]; omega⟩
   have PWH:=Lib.hid PW
   have LEN:=Lib.hid (show (S++(aL (fun b nx=>lead y b nx) i S.length nx).1).length=S.length+(aL (fun b nx=>lead y b nx) i S.length nx).1.length from List.length_append)
   have OKK:=Lib.hid (And.intro m2 (And.intro m3 w7))
   have hcapl:S.length+(aL (fun b nx=>lead y b nx) i S.length nx).1.length≤cap:=by rw [hrs]; have:=R.out.1; omega
   have G7:=Lib.hid (And.intro hlt7 hpg)
   clear PW m1 m2 m3 m4 hg7 hlt7 hpg hwl hrs w7 w8 w9 w10 hkw
   go_wp2_with fail
   refine PWH.out.mono ?_
   rintro e w6 ⟨rfl,mk6,t6⟩
   rw [LEN.out]
   have FIN:=Lib.hid (show iy (.mk 5 s0 nt [y] (N:Int) (i:Int)) p gs cap ok S nx w (.returned (.int .i64 ((S.length+(aL (fun b nx=>lead y b nx) i S.length nx).1.length:Nat):Int))) w6 from by
    refine ⟨by rw [LD.out],I.out.aO.trans t6 (fun _ _ h=>h),(fun b=>ok' b∨b=g7),?_,fun b hb=>.inl (OKK.out.1 b hb),fun b hb=> ?_⟩
    ·rw [LD.out]
     dsimp only
     rw [←List.append_assoc]
     exact mk6
    ·rcases hb with hb | rfl
     ·rcases OKK.out.2.1 b hb with h1 | h1
      ·exact .inl h1
      ·exact .inr ⟨h1.1,Nat.lt_of_lt_of_le h1.2 t6.size⟩
     ·exact .inr ⟨OKK.out.2.2,Nat.lt_of_lt_of_le G7.out.1 t6.size⟩)
   clear PWH mk6 t6
   generalize S.length+(aL (fun b nx=>lead y b nx) i S.length nx).1.length=q at FIN ⊢
   go_wp2_with fail
   go_ret
   exact FIN.out
end NF
namespace NF
theorem fZ.ways {w w6:World} {p gs cap:Nat} {ok:Nat→Prop} {S:List St} {s:St} {q a b:Nat} (h:fZ w p gs cap ok S) (hs:S[q]? = some s) (_hok:∀b,ok b→b<w.heap.size)
  (hw:(w.alloc (.cells #[.int .i64 (a:Int),.int .i64 (b:Int)] 3)).setCell ⟨gs,q*5+4,none⟩ (.slice (some ⟨w.heap.size,0,none⟩) 2 2)=w6) :
  fZ w6 p gs cap (fun k=>ok k∨k=w.heap.size) (S.set q { s with ways:=[a,b] })∧ak (fun k=>k=p∨k=gs) w w6∧w6.heap.size=w.heap.size+1:=by
 obtain ⟨cur,r1,r2,r3⟩:=h.row
 have hlt:=h.lt
 obtain ⟨w1,hw1⟩:∃w1,w.alloc (.cells #[.int .i64 (a:Int),.int .i64 (b:Int)] 3)=w1:=⟨_,rfl⟩
 have b1:Below w.heap.size w w1:=by rw [←hw1]; exact (Below.refl _ _).alloc (Nat.le_refl _) _
 have k1:Bk w1 3 w.heap.size #[.int .i64 (a:Int),.int .i64 (b:Int)]:=by rw [←hw1]; exact heap_alloc_new w _
 have z1:w1.heap.size=w.heap.size+1:=by rw [←hw1]; simp
 rw [hw1] at hw
 have t6:ak (· = gs) w1 w6:=by rw [←hw]; exact ak.bR gs _ w1 _
 have r6:Bk w6 158 gs (cur.setIfInBounds (q*5+4) (.slice (some ⟨w.heap.size,0,none⟩) 2 2)):=by rw [←hw]; exact Bk.put ((b1.block gs hlt.2).trans r1) _ _
 have z6:w6.heap.size=w1.heap.size:=by rw [←hw]; simp
 have ht:ak (fun k=>k=p∨k=gs) w w6:=((ak.aH b1 (fun _=>False)).mono (M':=fun k=>k=p∨k=gs) (fun _ _ h=>h.elim)).trans t6 (fun _ _ h=>.inr h)
 have hokn:∀b,ok b→b<w.heap.size→¬(b=p∨b=gs):=fun b h1 _ h2=>by
  rcases h2 with rfl | rfl
  ·exact h.okp.1 h1
  ·exact h.okp.2 h1
 have hq:=(List.getElem?_eq_some_iff.1 hs).1
 have hroom:=h.room
 refine ⟨⟨by rw [List.length_set]; exact t6.bk ((b1.block p hlt.1).trans h.box) h.ne,⟨_,r6,by simp [r2],fun j t hj=> ?_⟩,by rw [List.length_set]; exact h.room,h.big,fun h1=>h1.elim h.okp.1 (fun e=>by omega),fun h1=>h1.elim h.okp.2 (fun e=>by omega)⟩,ht,by omega⟩
 rw [List.getElem?_set] at hj
 by_cases hqj:q=j
 ·subst hqj
  rw [if_pos rfl,if_pos hq] at hj
  cases hj
  obtain ⟨vs,h4,h5⟩:=r3 q s hs
  obtain ⟨A,n,c,A2,c2,e1,e2,e3,e4⟩:=h4.ex
  refine ⟨[.int .i64 s.kind,.slice A n c,.bool s.nt,.int .i64 (s.next:Int),.slice (some ⟨w.heap.size,0,none⟩) 2 2],⟨⟨A,n,c,some ⟨w.heap.size,0,none⟩,2,rfl,e2,(e3.turned ht hokn).mono (fun _ h=>.inl h),rfl,fun _=>⟨w.heap.size,0,rfl,.inr rfl,by omega,fun j u hu=> ?_⟩⟩,by show [a,b].length≤_; simp⟩,fun d hd=> ?_⟩
  ·have k6:Bk w6 3 w.heap.size _:=t6.bk k1 (by omega)
   rw [Nat.zero_add,Bk.get k6]
   match j,hu with
   | 0,hu=>exact hu
   | 1,hu=>exact hu
   | j+2,hu=>simp [nums] at hu
  ·by_cases hd4:d=4
   ·subst hd4
    rw [Array.getElem?_setIfInBounds_self_of_lt (by omega)]
    rfl
   ·rw [Array.getElem?_setIfInBounds_ne (by omega),h5 d hd,e1]
    match d,hd,hd4 with
    | 0,_,_=>rfl
    | 1,_,_=>rfl
    | 2,_,_=>rfl
    | 3,_,_=>rfl
    | 4,_,h=>exact absurd rfl h
 ·rw [if_neg hqj] at hj
  obtain ⟨vs,h4,h5⟩:=r3 j t hj
  refine ⟨vs,(h4.turned ht hokn).mono (fun _ h=>.inl h),fun d hd=> ?_⟩
  rw [Array.getElem?_setIfInBounds_ne (by omega)]
  exact h5 d hd
structure Wl (w wr:World) (p gs cap:Nat) (ok:Nat→Prop) (S3:List St) (y:Nd) (b0 i:Nat) (last:Nat):Prop where
 aO:ak (fun k=>k=p∨k=gs) w wr
 is:last=(aL (fun b nx=>lead y b nx) i S3.length b0).2.getLastD b0
 mki:∃ok':Nat→Prop,fZ wr p gs cap ok' (S3++(aL (fun b nx=>lead y b nx) i S3.length b0).1)∧(∀b,ok b→ok' b)∧(∀b,ok' b→ok b∨w.heap.size≤b∧b<wr.heap.size)
theorem Cu (y:Nd) (lo B:Nat) (hC:wO y lo B) (s0:Sg) (nt0:Bool) (mn0 mx0:Int) (x:Nv) (p gs cap:Nat) (ok:Nat→Prop) (S:List St) (nx:Nat) (w:World) (hx0:mx0<0) (h:nH (.mk 5 s0 nt0 [y] mn0 mx0) x lo B p gs cap ok S nx w) :
  Calls Tryz.prog 94 #[.pointer (some ⟨p,0,none⟩),x.v,.int .i64 (nx:Int)] w fun e w'=>iy (.mk 5 s0 nt0 [y] mn0 mx0) p gs cap ok S nx w e w':=by
 have htree:=h.tree
 rw [bQ] at htree
 obtain ⟨e1,e2,e3,e4,xs,ho,hk⟩:=htree
 obtain ⟨k,A,n,c,nt,A2,n2,c2,mn,mx⟩:=x
 dsimp only at e1 e2 e3 e4
 subst e2 e3 e4
 obtain rfl:k=5:=e1
 obtain ⟨ma,mk⟩:=eP h.may
 have hmy:may y=true:=by rw [aW,aW,Bool.and_true] at mk; exact mk
 obtain ⟨_,r1,r2,r3⟩:=lJ ma
 obtain ⟨N,hN⟩:∃N:Nat,mn=(N:Int):=⟨mn.toNat,by omega⟩
 subst hN
 obtain ⟨b0,hb0⟩:∃b0,S.length=b0:=⟨_,rfl⟩
 have hwt:wt (.mk 5 s0 nt [y] (N:Int) mx)=wt y*(N+1)+1:=by
  simp only [wt,bf,show ¬((5:Int)=3) by decide,if_false,if_true,hx0,Int.toNat_natCast,Nat.add_zero]
 have hld:lead (.mk 5 s0 nt [y] (N:Int) mx) b0 nx=(⟨4,[],false,0,[(lead y (b0+1) b0).2,nx]⟩::((lead y (b0+1) b0).1++(aL (fun b nx=>lead y b nx) N (b0+1+(lead y (b0+1) b0).1.length) b0).1),(aL (fun b nx=>lead y b nx) N (b0+1+(lead y (b0+1) b0).1.length) b0).2.getLastD b0):=by
  rw [lead]
  simp only [show ¬((5:Int)=3) by decide,show ¬((5:Int)=4) by decide,if_false,if_true,hx0,Int.toNat_natCast,dx]
 have hroom:=h.room
 rw [hwt,hb0,Nat.mul_add,Nat.mul_one] at hroom
 have hkk:=hk
 rw [cO] at hkk
 obtain ⟨x1,_,rfl,hin1,hnil⟩:=hkk
 rw [cO] at hnil
 subst hnil
 have hn2:n2=1:=by have:=ho.len; simpa using this.symm
 subst hn2
 obtain ⟨b2,off,rfl,hb2,nv⟩:=nM (i:=0) ho.kids rfl (show 0<1 by omega)
 have hb2lo:=ho.lo2 b2 off rfl (show 0<1 by omega)
 obtain ⟨w1,hw1,k1,b1,z1⟩:=bX w 5 A n c nt (some ⟨b2,off,none⟩) 1 c2 (N:Int) mx
 have mk1:=h.mki.turned (ak.aH b1 (fun _=>False)) (fun h=>h) (fun h=>h) (fun _ _ _ h=>h)
 have PW:=Lib.hid (uE p gs cap ok S ⟨4,[],false,0,[]⟩ 4 none none 0 0 0 0 false 0 w1 mk1 (by rw [hb0]; omega) ⟨⟨none,0,0,none,0,rfl,Nat.zero_le _,fF.nothing _ _ _ _,fF.nothing _ _ _ _⟩,by simp⟩)
 rw [hb0] at PW
 have H:=Lib.hid h
 have K1:=Lib.hid k1
 have HY:=Lib.hid hmy
 have R:=Lib.hid (And.intro hroom z1)
 have HIN:=Lib.hid hin1
 have NV:=Lib.hid nv
 have BB:=Lib.hid (And.intro hb2 hb2lo)
 have HC:=Lib.hid hC
 have LD:=Lib.hid hld
 have hcap:=h.mki.big
 have B1:=Lib.hid b1
 have HB0:=Lib.hid hb0
 have NXB:=Lib.hid h.next
 obtain ⟨ki,Ai,ni,ci,nti,A2i,n2i,c2i,mni,mxi⟩:=x1
 have hN9:N≤9:=by omega
 dsimp only [Nv.v]
 clear h k1 b1 z1 hmy ma mk hk ho hin1 nv hb2 hb2lo hC hld hwt hroom r1 r2 r3 mk1 hb0
 go_enter Tryz.func94,Tryz.ntmps94
 go_wp2_with fail
 refine PW.out.mono ?_
 rintro e w2 ⟨rfl,mk2,t2⟩
 have hpg:=H.out.mki.lt
 have T2:=Lib.hid (show ak (fun k=>k=p∨k=gs) w w2 from ((ak.aH B1.out (fun _=>False)).mono (fun _ _ h=>h.elim)).trans t2 (fun _ _ h=>h))
 have K2:=Lib.hid (show aR w2 w.heap.size _ from t2.bk K1.out (fun e=>by rcases e with e | e<;>omega))
 have cells:∀(wr:World),ak (fun k=>k=p∨k=gs) w wr→zC wr b2 (off+0*6) ⟨ki,Ai,ni,ci,nti,A2i,n2i,c2i,mni,mxi⟩:=fun wr t=>by
  have hh:b2<w.heap.size∧b2≠p∧b2≠gs:=by have:=BB.out; have:=H.out.high; have:=H.out.low; omega
  have hc:∀o,wr.cell? ⟨b2,o,none⟩=w.cell? ⟨b2,o,none⟩:=fun o=>by
   have e:=t.block b2 hh.1 (by omega)
   unfold World.cell?
   rw [e]
  exact ⟨(hc _).trans NV.out.c0,(hc _).trans NV.out.c1,(hc _).trans NV.out.c2,(hc _).trans NV.out.c3,(hc _).trans NV.out.c4,(hc _).trans NV.out.c5⟩
 have CELLS:=Lib.hid cells
 have nw:=cells w2 T2.out
 rw [Nat.zero_mul,Nat.add_zero] at nw
 obtain ⟨u0,u1,u2,u3,u4,u5⟩:=oG nw
 obtain ⟨y0,y1,y2,y3,y4,y5⟩:=aB K2.out
 have LC:=Lib.hid (HC.out ⟨ki,Ai,ni,ci,nti,A2i,n2i,c2i,mni,mxi⟩ p gs cap ok (S++[⟨4,[],false,0,[]⟩]) b0 w2
  ⟨mk2,HY.out,by rw [List.length_append,HB0.out]; have:=R.out.1; simp only [List.length_singleton]; omega,by have:=R.out.1; omega,pJ HIN.out T2.out H.out.high H.out.low,Nat.le_trans H.out.high T2.out.size,H.out.low,H.out.own,fun b hb=>Nat.lt_of_lt_of_le (H.out.okB b hb) T2.out.size⟩)
 have hS1:(S++[(⟨4,[],false,0,[]⟩:St)]).length=b0+1:=by rw [List.length_append,HB0.out]; rfl
 have HS1:=Lib.hid hS1
 dsimp only [Nv.v] at LC
 clear PW mk2 t2 nw hw1 hS1
 go_wp2_with fail
 refine LC.out.mono ?_
 rintro e w3 ⟨rfl,t3,ok3,g1,g2,g3⟩
 rw [HS1.out] at g1 ⊢
 obtain ⟨once,honce⟩:∃o,(lead y (b0+1) b0).2=o:=⟨_,rfl⟩
 obtain ⟨L1,hL1⟩:∃L,(lead y (b0+1) b0).1=L:=⟨_,rfl⟩
 have hL1z:L1.length=wt y:=by rw [←hL1]; exact qM HY.out
 rw [hL1] at g1
 rw [honce]
 have hlen3:(S++[(⟨4,[],false,0,[]⟩:St)]++L1).length=b0+1+wt y:=by rw [List.length_append,HS1.out,hL1z]
 obtain ⟨w4,hw4⟩:∃w4,w3.alloc (.cells #[.int .i64 (once:Int),.int .i64 (nx:Int)] 3)=w4:=⟨_,rfl⟩
 have b4:Below w3.heap.size w3 w4:=by rw [←hw4]; exact (Below.refl _ _).alloc (Nat.le_refl _) _
 obtain ⟨w5,hw5⟩:∃w5,w4.setCell ⟨gs,b0*5+4,none⟩ (.slice (some ⟨w3.heap.size,0,none⟩) 2 2)=w5:=⟨_,rfl⟩
 have hlt3:=g1.lt
 obtain ⟨cu,c1,cz,cv⟩:=g1.row
 have hb3:b0<(S++[(⟨4,[],false,0,[]⟩:St)]++L1).length:=by rw [hlen3]; omega
 have x0:w3.cell? ⟨p,0,none⟩=some (.slice (some ⟨gs,0,none⟩) (b0+1+wt y) cap):=by rw [←hlen3]; exact Bk.get g1.box 0
 have x0':w4.cell? ⟨p,0,none⟩=some (.slice (some ⟨gs,0,none⟩) (b0+1+wt y) cap):=(b4.cell (p:=⟨p,0,none⟩) hlt3.1).trans x0
 have c4:Bk w4 158 gs cu:=(b4.block gs hlt3.2).trans c1
 have hroom3:=g1.room
 rw [hlen3] at hroom3
 obtain ⟨ux,hux⟩:∃u,w4.cell? ⟨gs,b0*5+4,none⟩=some u:=⟨cu[b0*5+4]'(by omega),by rw [Bk.get c4,Array.getElem?_eq_getElem (by omega)]⟩
 have uf:=Bk.free c4 (b0*5+4)
 have hi0:(0:Int)≤(b0:Int):=by omega
 have hi1:(b0:Int)<((b0+1+wt y:Nat):Int):=by omega
 have hi2:(b0:Int)<(b0:Int)+1+(wt y:Int):=by omega
 have hsb:(S++[(⟨4,[],false,0,[]⟩:St)]++L1)[b0]? = some ⟨4,[],false,0,[]⟩:=by
  rw [List.append_assoc,List.getElem?_append_right (by rw [HB0.out]; exact Nat.le_refl _),HB0.out,Nat.sub_self]
  rfl
 have hok3:∀b,ok3 b→b<w3.heap.size:=fun b hb=>by
  rcases g3 b hb with h1 | h1
  ·exact Nat.lt_of_lt_of_le (H.out.okB b h1) (Nat.le_trans T2.out.size t3.size)
  ·exact h1.2
 obtain ⟨mk5,t5,z5⟩:=g1.ways (w6:=w5) (a:=once) (b:=nx) hsb hok3 (by rw [hw4]; exact hw5)
 have hset:(S++[(⟨4,[],false,0,[]⟩:St)]++L1).set b0 ⟨4,[],false,0,[once,nx]⟩=S++⟨4,[],false,0,[once,nx]⟩::L1:=by
  rw [List.append_assoc,List.set_append_right _ _ (by rw [HB0.out]; exact Nat.le_refl _),HB0.out,Nat.sub_self]
  rfl
 dsimp only at mk5
 rw [hset] at mk5
 have T5:=Lib.hid ((T2.out.trans t3 (fun _ _ h=>h)).trans t5 (fun _ _ h=>h))
 have K5:=Lib.hid (show aR w5 w.heap.size _ from t5.bk (t3.bk K2.out (fun e=>by rcases e with e | e<;>omega)) (fun e=>by rcases e with e | e<;>omega))
 have g5:w5.cell? ⟨w.heap.size,4,none⟩=some (.int .i64 (N:Int)):=K5.out.at.c4
 have hS3:(S++(⟨4,[],false,0,[once,nx]⟩:St)::L1).length=b0+1+wt y:=by rw [List.length_append,HB0.out,List.length_cons,hL1z]; omega
 have I0:=Lib.hid (show Wl w w5 p gs cap ok (S++(⟨4,[],false,0,[once,nx]⟩:St)::L1) y b0 0 b0 from ⟨T5.out,rfl,fun k=>ok3 k∨k=w3.heap.size,by rw [aL,List.append_nil]; exact mk5,fun b hb=>.inl (g2 b hb),fun b hb=>by
  rcases hb with hb | rfl
  ·rcases g3 b hb with h1 | h1
   ·exact .inl h1
   ·exact .inr ⟨Nat.le_trans T2.out.size h1.1,by omega⟩
  ·exact .inr ⟨Nat.le_trans T2.out.size t3.size,by omega⟩⟩)
 have LD2:=Lib.hid (show lead (.mk 5 s0 nt [y] (N:Int) mx) b0 nx=(⟨4,[],false,0,[once,nx]⟩::(L1++(aL (fun b nx=>lead y b nx) N (b0+1+wt y) b0).1),(aL (fun b nx=>lead y b nx) N (b0+1+wt y) b0).2.getLastD b0) from by rw [LD.out,honce,hL1,hL1z])
 have HS3:=Lib.hid (And.intro hS3 hL1z)
 clear LC t3 g1 g2 g3 hlen3 b4 c1 cz cv hb3 c4 hroom3 hsb hok3 mk5 t5 z5 hset hS3 hL1z honce hL1 LD u0 u1 u2 u3 u4 u5 y0 y1 y2 y3 y4 y5 hlt3 cells
 go_wp2_with fail
 go_loopw [9,33] (fun s9 s33 wr=>∃i last:Nat,s33=.int .i64 (i:Int)∧s9=.int .i64 (last:Int)∧i≤N∧last≤cap∧Hid (Wl w wr p gs cap ok (S++(⟨4,[],false,0,[once,nx]⟩:St)::L1) y b0 i last∧aR wr w.heap.size ⟨5,A,n,c,nt,some ⟨b2,off,none⟩,1,c2,(N:Int),mx⟩)) (fun _ s33 _=>N - (intOf s33).toNat)
 case atStart=>exact ⟨0,b0,rfl,rfl,Nat.zero_le _,by have:=R.out.1; omega,Lib.hid ⟨I0.out,K5.out⟩⟩
 case round =>
  obtain ⟨i,last,rfl,rfl,hi,hlast,IB⟩:=hrel
  have I:=Lib.hid IB.out.1
  have KB:=Lib.hid IB.out.2
  clear I0 IB hw4 hw5 g5 x0 x0' hux uf
  have hi0':(0:Int)≤(i:Int):=by omega
  have hinc:IntKind.i64.wrap ((i:Int)+1)=(i:Int)+1:=IntWalk.i64_in _ (by omega)
  by_cases hlt:i<N
  ·have nw:=CELLS.out wr I.out.aO
   rw [Nat.zero_mul,Nat.add_zero] at nw
   obtain ⟨u0,u1,u2,u3,u4,u5⟩:=oG nw
   obtain ⟨y0,y1,y2,y3,y4,y5⟩:=aB KB.out
   obtain ⟨ok',m1,m2,m3⟩:=I.out.mki
   have hrs:=qN HY.out i (S++(⟨4,[],false,0,[once,nx]⟩:St)::L1).length b0
   obtain ⟨q1,q2⟩:=qL (fun b nx=>lead y b nx) i (S++(⟨4,[],false,0,[once,nx]⟩:St)::L1).length b0
   rw [←I.out.is] at q1 q2
   have hmul:wt y*i+wt y≤wt y*N:=by
    have:wt y*(i+1)≤wt y*N:=Nat.mul_le_mul_left _ hlt
    rw [Nat.mul_add,Nat.mul_one] at this
    exact this
   have hl1:((S++(⟨4,[],false,0,[once,nx]⟩:St)::L1)++(aL (fun b nx=>lead y b nx) i (S++(⟨4,[],false,0,[once,nx]⟩:St)::L1).length b0).1).length=(S++(⟨4,[],false,0,[once,nx]⟩:St)::L1).length+(aL (fun b nx=>lead y b nx) i (S++(⟨4,[],false,0,[once,nx]⟩:St)::L1).length b0).1.length:=List.length_append
   have PRE:nH y ⟨ki,Ai,ni,ci,nti,A2i,n2i,c2i,mni,mxi⟩ lo B p gs cap ok' ((S++(⟨4,[],false,0,[once,nx]⟩:St)::L1)++(aL (fun b nx=>lead y b nx) i (S++(⟨4,[],false,0,[once,nx]⟩:St)::L1).length b0).1) last wr :=
    ⟨m1,HY.out,by rw [hl1,hrs,HS3.out.1]; have:=R.out.1; omega,hlast,pJ HIN.out I.out.aO H.out.high H.out.low,Nat.le_trans H.out.high I.out.aO.size,H.out.low,fun b h1 h2=>m2 b (H.out.own b h1 h2),fun b hb=>(m3 b hb).elim (fun h1=>Nat.lt_of_lt_of_le (H.out.okB b h1) I.out.aO.size) (fun h1=>h1.2)⟩
   have LC:=Lib.hid (HC.out _ _ _ _ _ _ _ _ PRE)
   have LS:=Lib.hid (uF (nx:=last) (b:=(S++(⟨4,[],false,0,[once,nx]⟩:St)::L1).length+(aL (fun b nx=>lead y b nx) i (S++(⟨4,[],false,0,[once,nx]⟩:St)::L1).length b0).1.length) (E:=cap) HY.out (by rw [hrs,HS3.out.1]; have:=R.out.1; omega) hlast)
   have QQ:=Lib.hid (And.intro q1 (And.intro q2 hl1))
   have MM:=Lib.hid (And.intro m2 m3)
   dsimp only [Nv.v] at LC
   clear PRE m1 m2 m3 hrs q1 q2 hl1 hmul nw
   go_wp2_with fail
   refine LC.out.mono ?_
   rintro e w6 ⟨rfl,t6,ok2,g1,g2,g3⟩
   rw [QQ.out.2.2] at g1 ⊢
   obtain ⟨l2,hl2⟩:∃l,(lead y ((S++(⟨4,[],false,0,[once,nx]⟩:St)::L1).length+(aL (fun b nx=>lead y b nx) i (S++(⟨4,[],false,0,[once,nx]⟩:St)::L1).length b0).1.length) last).2=l:=⟨_,rfl⟩
   have LS2:=Lib.hid (show l2≤cap from by rw [←hl2]; exact LS.out)
   have I2:=Lib.hid (show Wl w w6 p gs cap ok (S++(⟨4,[],false,0,[once,nx]⟩:St)::L1) y b0 (i+1) l2∧aR w6 w.heap.size _ from ⟨⟨I.out.aO.trans t6 (fun _ _ h=>h),by rw [QQ.out.2.1,List.getLastD_concat,hl2],ok2,by rw [QQ.out.1,←List.append_assoc]; exact g1,fun b hb=>g2 b (MM.out.1 b hb),fun b hb=>by
    rcases g3 b hb with h1 | h1
    ·rcases MM.out.2 b h1 with h2 | h2
     ·exact .inl h2
     ·exact .inr ⟨h2.1,Nat.lt_of_lt_of_le h2.2 t6.size⟩
    ·exact .inr ⟨Nat.le_trans I.out.aO.size h1.1,h1.2⟩⟩,t6.bk KB.out (fun e=>by rcases e with e | e<;>omega)⟩)
   rw [hl2]
   clear LC t6 g1 g2 g3 hl2 LS QQ KB MM u0 u1 u2 u3 u4 u5 y0 y1 y2 y3 y4 y5
   go_wp2_with fail
   go_roundw
   case rel=>exact ⟨i+1,l2,by first | rfl | (congr 1; done) | (congr 1; omega),rfl,by omega,LS2.out,I2⟩
   case measure=>first | (simp [intOf]; done) | (simp [intOf]; omega)
  ·obtain rfl:i=N:=by omega
   have FIN:=Lib.hid (show iy (.mk 5 s0 nt [y] (i:Int) mx) p gs cap ok S nx w (.returned (.int .i64 (last:Int))) wr from by
    obtain ⟨ok',m1,m2,m3⟩:=I.out.mki
    have his:=I.out.is
    rw [HS3.out.1] at his m1
    refine ⟨by rw [HB0.out,LD2.out,his],I.out.aO,ok',?_,m2,m3⟩
    rw [HB0.out,LD2.out]
    dsimp only
    rw [List.append_assoc,List.cons_append] at m1
    exact m1)
   clear I KB
   go_wp2_with fail
   go_ret
   exact FIN.out
end NF
namespace NF
theorem oI (w:World) (p:Nat) (k:Int) (A:Option Addr) (n c:Nat) (nt:Bool) (A2:Option Addr) (n2 c2:Nat) (mn mx:Int) (nx:Nat) :
  ∃w1 w2 w3,w.alloc (.cells #[.pointer (some ⟨p,0,none⟩)] 152)=w1∧w1.alloc (.cells #[.int .i64 k,.slice A n c,.bool nt,.slice A2 n2 c2,.int .i64 mn,.int .i64 mx] 29)=w2∧w2.alloc (.cells #[.int .i64 (nx:Int)] 3)=w3 ∧
   Below w.heap.size w w3∧w1.heap.size=w.heap.size+1∧w2.heap.size=w.heap.size+2∧w3.heap.size=w.heap.size+3∧Bk w3 152 w.heap.size #[.pointer (some ⟨p,0,none⟩)]∧aR w3 (w.heap.size+1) ⟨k,A,n,c,nt,A2,n2,c2,mn,mx⟩∧Bk w3 3 (w.heap.size+2) #[.int .i64 (nx:Int)]:=by
 obtain ⟨w1,hw1⟩:∃w1,w.alloc (.cells #[.pointer (some ⟨p,0,none⟩)] 152)=w1:=⟨_,rfl⟩
 obtain ⟨w2,hw2,k2,b2,z2⟩:=bX w1 k A n c nt A2 n2 c2 mn mx
 obtain ⟨w3,hw3⟩:∃w3,w2.alloc (.cells #[.int .i64 (nx:Int)] 3)=w3:=⟨_,rfl⟩
 have b1:Below w.heap.size w w1:=by rw [←hw1]; exact (Below.refl _ _).alloc (Nat.le_refl _) _
 have k1:Bk w1 152 w.heap.size #[.pointer (some ⟨p,0,none⟩)]:=by rw [←hw1]; exact heap_alloc_new w _
 have z1:w1.heap.size=w.heap.size+1:=by rw [←hw1]; simp
 have b3:Below w2.heap.size w2 w3:=by rw [←hw3]; exact (Below.refl _ _).alloc (Nat.le_refl _) _
 have k3:Bk w3 3 w2.heap.size #[.int .i64 (nx:Int)]:=by rw [←hw3]; exact heap_alloc_new w2 _
 have z3:w3.heap.size=w2.heap.size+1:=by rw [←hw3]; simp
 rw [z1] at k2
 have z2':w2.heap.size=w.heap.size+2:=by omega
 rw [z2'] at k3
 exact ⟨w1,w2,w3,hw1,hw2,hw3,(b1.trans (b2.mono b1.size)).trans (b3.mono (by omega)),z1,z2',by omega,(b3.block _ (by omega)).trans ((b2.block _ (by omega)).trans k1),k2.below b3 (by omega),k3⟩
theorem nH.at {t:Nd} {x:Nv} {lo B p gs cap:Nat} {ok:Nat→Prop} {S:List St} {nx:Nat} {w w3:World} (h:nH t x lo B p gs cap ok S nx w) (b:Below w.heap.size w w3):nH t x lo B p gs cap ok S nx w3:=by
 have ht:ak (fun k=>k=p∨k=gs) w w3:=(ak.aH b (fun _=>False)).mono (fun _ _ h=>h.elim)
 exact ⟨h.mki.turned (ak.aH b (fun _=>False)) (fun h=>h) (fun h=>h) (fun _ _ _ h=>h),h.may,h.room,h.next,pJ h.tree ht h.high h.low,Nat.le_trans h.high b.size,h.low,h.own,fun q hq=>Nat.lt_of_lt_of_le (h.okB q hq) b.size⟩
theorem iy.from {t:Nd} {p gs cap:Nat} {ok:Nat→Prop} {S:List St} {nx:Nat} {w w3 w':World} {e:Ending} (b:Below w.heap.size w w3) (h:iy t p gs cap ok S nx w3 e w'):iy t p gs cap ok S nx w e w':=by
 obtain ⟨h1,h2,ok',h3,h4,h5⟩:=h
 have ht:ak (fun k=>k=p∨k=gs) w w3:=(ak.aH b (fun _=>False)).mono (fun _ _ h=>h.elim)
 exact ⟨h1,ht.trans h2 (fun _ _ h=>h),ok',h3,h4,fun q hq=>(h5 q hq).imp id (fun h6=>⟨Nat.le_trans b.size h6.1,h6.2⟩)⟩
theorem R6 (y:Nd) (lo B:Nat) (hC:wO y lo B) (s0:Sg) (nt0:Bool) (mn0 mx0:Int):wO (.mk 5 s0 nt0 [y] mn0 mx0) lo B:=by
 intro x p gs cap ok S nx w h
 have htree:=h.tree
 rw [bQ] at htree
 obtain ⟨e1,e2,e3,e4,xs,ho,hk⟩:=htree
 obtain ⟨k,A,n,c,nt,A2,n2,c2,mn,mx⟩:=x
 dsimp only at e1 e2 e3 e4
 subst e2 e3 e4
 obtain rfl:k=5:=e1
 have hint:=ho.ints.2
 dsimp only at hint
 obtain ⟨w1,w2,w3,hw1,hw2,hw3,b3,z1,z2,z3,k1,k2,k3⟩:=oI w p 5 A n c nt A2 n2 c2 mn mx nx
 have c1:=Bk.get k1 0
 obtain ⟨y0,y1,y2,y3,y4,y5⟩:=aB k2
 have c3:=Bk.get k3 0
 have f1:=Bk.free k1 0
 have f3:=Bk.free k3 0
 have P3:=h.at b3
 have B3:=Lib.hid b3
 have N35:((5:Int) == 3)=false:=rfl
 by_cases hx:mx<0
 ·have LW:=Lib.hid (Cu y lo B hC s0 nt mn mx ⟨5,A,n,c,nt,A2,n2,c2,mn,mx⟩ p gs cap ok S nx w3 hx P3)
  dsimp only [Nv.v] at LW ⊢
  clear P3 h ho hk hC k1 k2 k3 b3 z3
  rw [show w.heap.size+1=w1.heap.size from z1.symm,show w.heap.size+2=w2.heap.size from z2.symm] at *
  clear z1 z2
  go_enter Tryz.func53,Tryz.ntmps53
  go_wp2_with fail
  refine LW.out.mono ?_
  intro e w' hp
  obtain ⟨rfl,hp2⟩:=hp
  have FIN:=Lib.hid (iy.from B3.out ⟨rfl,hp2⟩)
  clear hp2 LW
  generalize (lead (Nd.mk 5 s0 nt [y] mn mx) S.length nx).2=q at FIN ⊢
  go_wp2_with fail
  go_ret
  exact FIN.out
 ·have LW:=Lib.hid (Ct y lo B hC s0 nt mn mx ⟨5,A,n,c,nt,A2,n2,c2,mn,mx⟩ p gs cap ok S nx w3 hx P3)
  dsimp only [Nv.v] at LW ⊢
  clear P3 h ho hk hC k1 k2 k3 b3 z3
  rw [show w.heap.size+1=w1.heap.size from z1.symm,show w.heap.size+2=w2.heap.size from z2.symm] at *
  clear z1 z2
  go_enter Tryz.func53,Tryz.ntmps53
  go_wp2_with fail
  refine LW.out.mono ?_
  intro e w' hp
  obtain ⟨rfl,hp2⟩:=hp
  have FIN:=Lib.hid (iy.from B3.out ⟨rfl,hp2⟩)
  clear hp2 LW
  generalize (lead (Nd.mk 5 s0 nt [y] mn mx) S.length nx).2=q at FIN ⊢
  go_wp2_with fail
  go_ret
  exact FIN.out
theorem R7 (lo B:Nat) (k0:Int) (s0:Sg) (nt0:Bool) (ks:List Nd) (mn0 mx0:Int) (n3:k0≠3) (n4:k0≠4) (n5:k0≠5):wO (.mk k0 s0 nt0 ks mn0 mx0) lo B:=by
 intro x p gs cap ok S nx w h
 have htree:=h.tree
 rw [bQ] at htree
 obtain ⟨e1,e2,e3,e4,xs,ho,hk⟩:=htree
 obtain ⟨k,A,n,c,nt,A2,n2,c2,mn,mx⟩:=x
 dsimp only at e1 e2 e3 e4
 subst e1 e2 e3 e4
 obtain ⟨w1,w2,w3,hw1,hw2,hw3,b3,z1,z2,z3,k1,k2,k3⟩:=oI w p k A n c nt A2 n2 c2 mn mx nx
 have hwt:wt (.mk k s0 nt ks mn mx)=bf ks+1:=by rw [wt,if_neg n3,if_neg n5]
 have hld:lead (.mk k s0 nt ks mn mx) S.length nx=([⟨k,s0,nt,nx,[]⟩],S.length):=by rw [lead,if_neg n3,if_neg n4,if_neg n5]
 have hroom:=h.room
 rw [hwt] at hroom
 have P3:=h.at b3
 have N3:(k == 3)=false:=by rw [beq_eq_false_iff_ne]; exact n3
 have N4:(k == 4)=false:=by rw [beq_eq_false_iff_ne]; exact n4
 have N5:(k == 5)=false:=by rw [beq_eq_false_iff_ne]; exact n5
 have tr3:=P3.tree
 rw [bQ] at tr3
 obtain ⟨_,_,_,_,xs3,ho3,_⟩:=tr3
 have PW:=uE p gs cap ok S ⟨k,s0,nt,nx,[]⟩ k A none n c 0 0 nt nx w3 P3.mki (by omega) ⟨⟨A,n,c,none,0,rfl,ho3.many,⟨ho3.set.len,fun hn=>by
  obtain ⟨b,off,e,h1,h2⟩:=ho3.set.spot hn
  have hl:=ho3.lo1 b off e hn
  exact ⟨b,off,e,P3.own b hl h1,Nat.lt_of_lt_of_le h1 P3.high,h2⟩⟩,fF.nothing _ _ _ _⟩,by simp⟩
 have PWH:=Lib.hid PW
 have B3:=Lib.hid b3
 have LD:=Lib.hid hld
 have OK3:=Lib.hid P3.okB
 have c1:=Bk.get k1 0
 obtain ⟨y0,y1,y2,y3,y4,y5⟩:=aB k2
 have c3:=Bk.get k3 0
 have f1:=Bk.free k1 0
 have f3:=Bk.free k3 0
 dsimp only [Nv.v]
 clear PW P3 h ho hk ho3 k1 k2 k3 b3 z3 hwt hld hroom
 rw [show w.heap.size+1=w1.heap.size from z1.symm,show w.heap.size+2=w2.heap.size from z2.symm] at *
 clear z1 z2
 go_enter Tryz.func53,Tryz.ntmps53
 go_wp2_with fail
 refine PWH.out.mono ?_
 rintro e w' ⟨rfl,mk6,t6⟩
 have FIN:=Lib.hid (show iy (.mk k s0 nt ks mn mx) p gs cap ok S nx w (.returned (.int .i64 (S.length:Int))) w' from iy.from B3.out ⟨by rw [LD.out],t6,ok,by rw [LD.out]; exact mk6,fun _ h=>h,fun _ h=>.inl h⟩)
 clear mk6 t6 PWH
 generalize S.length=q at FIN ⊢
 go_wp2_with fail
 go_ret
 exact FIN.out
end NF
