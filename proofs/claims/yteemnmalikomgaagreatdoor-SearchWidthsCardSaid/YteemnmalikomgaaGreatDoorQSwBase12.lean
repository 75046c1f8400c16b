import Derived.Test.YteemnmalikomgaaGreatDoorQSwBase11
import Derived.Test.YteemnmalikomgaaGreatDoorQSwLine0
import Derived.RangeFuncCalls
import Derived.OwnWalkIn
import Derived.TacticsInMore
import Derived.LoopNIn
import Derived.LoopIn
import Derived.Stop.RegionWithIn
import Derived.RangeFuncWrites
import Derived.Test.YteemnmalikomgaaGreatDoorQSwLaw0
set_option maxRecDepth 100000
set_option maxHeartbeats 3200000
namespace Go.Proofs.YteemnmalikomgaaGreatDoor
open Go.ChangeShapes Go.WideShapes Go.ChangeAt Go.RowKit
namespace NF
mutual
theorem Gq:∀(t:Nd),may t=true→1≤wt t
 | .mk k s nt ks mn mx,h=>by
  obtain ⟨h1,h2⟩:=eP h
  have hs:=Al ks h2
  rw [wt]
  by_cases h3:k=3
  ·subst h3
   rw [if_pos rfl]
   unfold aP at h1
   simp at h1
   have:=h1.1.1.2
   omega
  ·rw [if_neg h3]
   split
   ·split<;>omega
   ·omega
theorem Al:∀(ks:List Nd),aW ks=true→ks.length≤bf ks
 | [],_=>Nat.zero_le _
 | x::xs,h=>by
  rw [aW,Bool.and_eq_true] at h
  have h1:=Gq x h.1
  have h2:=Al xs h.2
  rw [bf,List.length_cons]
  omega
end
theorem Cv:∀(a b:List Nd),bf (a++b)=bf a+bf b
 | [],b=>by rw [List.nil_append,bf,Nat.zero_add]
 | x::a,b=>by rw [List.cons_append,bf,bf,Cv a b]; omega
theorem zD:∀(a b:List Nd),aW (a++b)=(aW a && aW b)
 | [],b=>by rw [List.nil_append,aW,Bool.true_and]
 | x::a,b=>by rw [List.cons_append,aW,aW,zD a b,Bool.and_assoc]
theorem D6 {ks:List Nd} {i:Nat} {y:Nd} (h:aW ks=true) (hy:ks[i]? = some y):may y=true∧aW (ks.take i)=true:=by
 obtain ⟨hi,rfl⟩:=List.getElem?_eq_some_iff.1 hy
 have e:ks=ks.take i++(ks[i]::ks.drop (i+1)):=by rw [List.getElem_cons_drop,List.take_append_drop]
 rw [e,zD,aW,Bool.and_eq_true,Bool.and_eq_true] at h
 exact ⟨h.2.1,h.1⟩
theorem Wm {ks:List Nd} {i:Nat} {y:Nd} (hy:ks[i]? = some y):bf (ks.take i)+wt y≤bf ks:=by
 obtain ⟨hi,rfl⟩:=List.getElem?_eq_some_iff.1 hy
 have e:bf ks=bf (ks.take i++(ks[i]::ks.drop (i+1))):=by rw [List.getElem_cons_drop,List.take_append_drop]
 rw [e,Cv,bf]
 omega
theorem pO:∀(ks:List Nd) (b nx:Nat),aW ks=true→(aG ks b nx).1.length=bf ks∧(aG ks b nx).2.length=ks.length
 | [],b,nx,_=>by rw [aG]; exact ⟨rfl,rfl⟩
 | x::xs,b,nx,h=>by
  rw [aW,Bool.and_eq_true] at h
  obtain ⟨h1,h2⟩:=pO xs (b+(lead x b nx).1.length) nx h.2
  have h3:=qM (b:=b) (nx:=nx) h.1
  rw [aG]
  dsimp only
  rw [List.length_append,List.length_cons,List.length_cons,h1,h2,bf,h3]
  exact ⟨rfl,rfl⟩
theorem wP:∀(ks:List Nd) (y:Nd) (b nx:Nat),(aG (ks++[y]) b nx).1=(aG ks b nx).1++(lead y (b+(aG ks b nx).1.length) nx).1∧(aG (ks++[y]) b nx).2=(aG ks b nx).2++[(lead y (b+(aG ks b nx).1.length) nx).2]
 | [],y,b,nx=>by
  rw [List.nil_append,aG,aG,aG]
  simp
 | x::ks,y,b,nx=>by
  obtain ⟨h1,h2⟩:=wP ks y (b+(lead x b nx).1.length) nx
  rw [List.cons_append,aG,aG]
  dsimp only
  rw [h1,h2,List.length_append,←Nat.add_assoc,List.append_assoc]
  exact ⟨rfl,rfl⟩
theorem Ph {l:List Nd} {k:Nat} {c:Nd} (h:l[k]? = some c):l.take (k+1)=l.take k++[c]:=by
 obtain ⟨hi,rfl⟩:=List.getElem?_eq_some_iff.1 h
 rw [List.take_succ_eq_append_getElem hi]
structure Wn (w wr:World) (p gs cap:Nat) (ok:Nat→Prop) (S:List St) (ks:List Nd) (nx i:Nat) (s9:Value):Prop where
 aO:ak (fun k=>k=p∨k=gs) w wr
 mki:∃ok':Nat→Prop,fZ wr p gs cap ok' (S++(aG (ks.take i) S.length nx).1)∧(∀b,ok b→ok' b)∧(∀b,ok' b→ok b∨w.heap.size≤b∧b<wr.heap.size)∧∀b,s9.ownBlock=some b→¬ok' b
 row:wr.ownsRow w.heap.size 3 1 s9 i (nums (aG (ks.take i) S.length nx).2)
theorem R8 (ks:List Nd) (lo B:Nat) (hC:∀y∈ks,wO y lo B) (s0:Sg) (nt0:Bool) (mn0 mx0:Int):wO (.mk 4 s0 nt0 ks mn0 mx0) lo B:=by
 intro x p gs cap ok S nx w h
 have htree:=h.tree
 rw [bQ] at htree
 obtain ⟨e1,e2,e3,e4,xs,ho,hk⟩:=htree
 obtain ⟨k,A,n,c,nt,A2,n2,c2,mn,mx⟩:=x
 dsimp only at e1 e2 e3 e4
 subst e2 e3 e4
 obtain rfl:k=4:=e1
 obtain ⟨ma,mk⟩:=eP h.may
 have hlen:ks.length=n2:=ho.len
 have h2n:2≤n2:=by
  unfold aP at ma
  simp at ma
  have:=ma.1.1.2
  omega
 have hwt:wt (.mk 4 s0 nt ks mn mx)=bf ks+1:=by rw [wt,if_neg (by decide),if_neg (by decide)]
 have hld:lead (.mk 4 s0 nt ks mn mx) S.length nx=((aG ks S.length nx).1++[⟨4,[],false,0,(aG ks S.length nx).2⟩],S.length+(aG ks S.length nx).1.length):=by
  rw [lead,if_neg (by decide),if_pos rfl]
 have hroom:=h.room
 rw [hwt] at hroom
 have hcap:=h.mki.big
 have hle:=Al ks mk
 obtain ⟨w1,w2,w3,hw1,hw2,hw3,b3,z1,z2,z3,k1,k2,k3⟩:=oI w p 4 A n c nt A2 n2 c2 mn mx nx
 obtain ⟨i0,hii,hz0,hz1,hz2⟩:=info_parts yE
 have P3:=h.at b3
 have tr3:=P3.tree
 rw [bQ] at tr3
 obtain ⟨_,_,_,_,xs3,ho3,hk3⟩:=tr3
 have H:=Lib.hid P3
 have OW:=Lib.hid ho3
 have KW:=Lib.hid hk3
 have K1:=Lib.hid k1
 have K2:=Lib.hid k2
 have K3:=Lib.hid k3
 have HC:=Lib.hid hC
 have LD:=Lib.hid hld
 have B3:=Lib.hid b3
 have R:=Lib.hid (And.intro hroom (And.intro z3 (And.intro hlen hle)))
 have HM:=Lib.hid mk
 have NXB:=Lib.hid h.next
 have NLT:=Lib.hid h.mki.lt
 have c1:=Bk.get k1 0
 obtain ⟨y0,y1,y2,y3,y4,y5⟩:=aB k2
 have c3:=Bk.get k3 0
 have hn20:n2≤20000:=by omega
 dsimp only [Nv.v]
 clear P3 h ho hk ho3 hk3 k1 k2 k3 b3 z3 hC hld hwt hroom ma mk hlen hle
 have Z:=Lib.hid (show w.heap.size≤w1.heap.size∧w.heap.size≤w2.heap.size from ⟨by omega,by omega⟩)
 rw [show w.heap.size+1=w1.heap.size from z1.symm] at *
 rw [show w.heap.size+2=w2.heap.size from z2.symm] at *
 clear z1 z2
 go_enter Tryz.func53,Tryz.ntmps53
 go_wp2_with (refine wpList_make_own w3 rfl (.const (.int .i64 0)) (.tmp 30) 36 rfl w3.heap.size 3 i0 _ 1 Tryz.underlying36 hii hz0 hz1 .i64 .i64 (n2:Int) n2 rfl rfl rfl (by rw [hz2]; omega) (by unfold maxLen; omega) (Nat.le_refl _) ?_; intro w4 hown hg1; (have I0:=Lib.hid (show Wn w3 w4 p gs cap ok S ks nx 0 (.slice (some ⟨w3.heap.size,0,none⟩) 0 n2) from by
  have t4:ak (fun _=>False) w3 w4:=ak.aH ((Below.refl w3.heap.size w3).grown hg1 (Nat.le_refl _) (fun k e=>by cases e)) _
  refine ⟨t4.mono (fun _ _ h=>h.elim),⟨ok,?_,fun b hb=>hb,fun b hb=>.inl hb,fun b hb hk=> ?_⟩,?_⟩
  ·rw [List.take_zero,aG,List.append_nil]
   exact H.out.mki.turned t4 (fun h=>h) (fun h=>h) (fun _ _ _ h=>h)
  ·have hb2:w3.heap.size=b:=by simpa [Value.ownBlock] using hb
   have:=H.out.okB b hk
   omega
  ·rw [List.take_zero,aG]
   exact hown)); (have x4:w4.cell? ⟨w1.heap.size,3,none⟩=some (.slice A2 n2 c2):=(((Below.refl w3.heap.size w3).grown hg1 (Nat.le_refl _) (fun k e=>by cases e)).cell (p:=⟨w1.heap.size,3,none⟩) (Bk.lt K2.out)).trans y3); clear hown hg1)
 clear c1 c3 y0 y1 y2 y3 y4 y5 hw1 hw2 hw3
 go_loopw [9,35] (fun s9 s35 wr=>∃i:Nat,s35=.int .i64 (i:Int)∧i≤n2∧Hid (Wn w3 wr p gs cap ok S ks nx i s9)) (fun _ s35 _=>n2 - (intOf s35).toNat)
 case atStart=>exact ⟨0,rfl,Nat.zero_le _,I0⟩
 case round =>
  obtain ⟨i,rfl,hi,I⟩:=hrel
  clear I0
  have hi0:(0:Int)≤(i:Int):=by omega
  have hinc:IntKind.i64.wrap ((i:Int)+1)=(i:Int)+1:=IntWalk.i64_in _ (by omega)
  obtain ⟨A9,c9,rfl⟩:=jA I.out.row
  have hpg:=H.out.mki.lt
  have hkb:∀(wx:World),ak (fun k=>k=p∨k=gs) w3 wx→Bk wx 152 w.heap.size #[.pointer (some ⟨p,0,none⟩)]∧Bk wx 3 w2.heap.size #[.int .i64 (nx:Int)]:=fun wx t=>by
   have e1:=K1.out.lt
   have e2:=K3.out.lt
   have zz:=Z.out
   have q1:¬(w.heap.size=p∨w.heap.size=gs):=fun e=>by
    have:=NLT.out
    omega
   have q2:¬(w2.heap.size=p∨w2.heap.size=gs):=fun e=>by
    have:=NLT.out
    omega
   exact ⟨t.bk K1.out q1,t.bk K3.out q2⟩
  by_cases hlt:i<n2
  ·obtain ⟨y,hy⟩:∃y,ks[i]? = some y:=⟨_,List.getElem?_eq_getElem (by rw [R.out.2.2.1]; exact hlt)⟩
   obtain ⟨hmy,hmt⟩:=D6 HM.out hy
   have hwy:=Wm hy
   obtain ⟨hls,hl2⟩:=pO (ks.take i) S.length nx hmt
   obtain ⟨q1,q2⟩:=wP (ks.take i) y S.length nx
   rw [←Ph hy] at q1 q2
   obtain ⟨ok',m1,m2,m3,m4⟩:=I.out.mki
   obtain ⟨xi,hxi,hin⟩:=KW.out.at i y hy
   obtain ⟨b2,off,rfl,hb2,nv⟩:=nM OW.out.kids hxi hlt
   have hb2lo:=OW.out.lo2 b2 off rfl (show 0<n2 by omega)
   obtain ⟨ki,Ai,ni,ci,nti,A2i,n2i,c2i,mni,mxi⟩:=xi
   have hbB:b2<w3.heap.size∧b2≠p∧b2≠gs:=by have:=H.out.high; have:=H.out.low; omega
   have hkw:∀q:Addr,q.block<w3.heap.size→q.block≠p→q.block≠gs→wr.cell? q=w3.cell? q:=fun q h1 h2 h3=>by
    have e:=I.out.aO.block q.block h1 (by omega)
    unfold World.cell?
    rw [e]
   have nw:zC wr b2 (off+i*6) ⟨ki,Ai,ni,ci,nti,A2i,n2i,c2i,mni,mxi⟩:=⟨(hkw _ hbB.1 hbB.2.1 hbB.2.2).trans nv.c0,(hkw _ hbB.1 hbB.2.1 hbB.2.2).trans nv.c1,(hkw _ hbB.1 hbB.2.1 hbB.2.2).trans nv.c2,(hkw _ hbB.1 hbB.2.1 hbB.2.2).trans nv.c3,(hkw _ hbB.1 hbB.2.1 hbB.2.2).trans nv.c4,(hkw _ hbB.1 hbB.2.1 hbB.2.2).trans nv.c5⟩
   obtain ⟨u0,u1,u2,u3,u4,u5⟩:=oG nw
   obtain ⟨w5,hw5,k5,b5,z5⟩:=bX wr ki Ai ni ci nti A2i n2i c2i mni mxi
   obtain ⟨v0,v1,v2,v3,v4,v5⟩:=aB k5
   have t5:ak (fun k=>k=p∨k=gs) w3 w5:=I.out.aO.trans (ak.aH b5 (fun _=>False)) (fun _ _ h=>h.elim)
   obtain ⟨g1,g3⟩:=hkb w5 t5
   have d1:=Bk.get g1 0
   have d3:=Bk.get g3 0
   have hi1:(i:Int)<(n2:Int):=by omega
   have PRE:nH y ⟨ki,Ai,ni,ci,nti,A2i,n2i,c2i,mni,mxi⟩ lo B p gs cap ok' (S++(aG (ks.take i) S.length nx).1) nx w5 :=
    ⟨m1.turned (ak.aH b5 (fun _=>False)) (fun h=>h) (fun h=>h) (fun _ _ _ h=>h),hmy,by rw [List.length_append,hls]; have:=R.out.1; omega,NXB.out,pJ hin t5 H.out.high H.out.low,Nat.le_trans H.out.high t5.size,H.out.low,fun b h1 h2=>m2 b (H.out.own b h1 h2),fun b hb=>(m3 b hb).elim (fun h1=>Nat.lt_of_lt_of_le (H.out.okB b h1) t5.size) (fun h1=>by omega)⟩
   have LC:=Lib.hid (HC.out y (List.mem_of_getElem? hy) _ _ _ _ _ _ _ _ PRE)
   have hl1:(S++(aG (ks.take i) S.length nx).1).length=S.length+(aG (ks.take i) S.length nx).1.length:=List.length_append
   have QQ:=Lib.hid (And.intro q1 (And.intro q2 hl1))
   have MM:=Lib.hid (And.intro m2 (And.intro m3 m4))
   have T5:=Lib.hid t5
   have R5:=Lib.hid (show w5.ownsRow w3.heap.size 3 1 (.slice A9 i c9) i (nums (aG (ks.take i) S.length nx).2) from (ak.aH b5 (fun _=>False)).own I.out.row (fun _ _ e=>e))
   have SZ:=Lib.hid (And.intro z5 I.out.aO.size)
   dsimp only [Nv.v] at LC
   clear PRE m1 m2 m3 m4 q1 q2 hl1 hls hl2 hwy hmy hmt nw hkw hbB hxi hin nv hb2 hb2lo k5 b5 z5 t5 g1 g3 hkb hy
   go_wp2_with fail
   refine LC.out.mono ?_
   rintro e w6 ⟨rfl,t6,ok2,g1,g2,g3⟩
   rw [QQ.out.2.2] at g1 ⊢
   obtain ⟨l2,hl2⟩:∃l,(lead y (S.length+(aG (ks.take i) S.length nx).1.length) nx).2=l:=⟨_,rfl⟩
   have Q2:=Lib.hid (show (aG (ks.take (i+1)) S.length nx).2=(aG (ks.take i) S.length nx).2++[l2] from by rw [QQ.out.2.1,hl2])
   have G1:=Lib.hid (show fZ w6 p gs cap ok2 (S++(aG (ks.take (i+1)) S.length nx).1) from by rw [QQ.out.1,←List.append_assoc]; exact g1)
   have O6:=Lib.hid (show w6.ownsRow w3.heap.size 3 1 (.slice A9 i c9) i (nums (aG (ks.take i) S.length nx).2) from t6.own R5.out (fun k hk e=>by
    obtain ⟨cs,h1,h2⟩:=iA R5.out k hk
    rcases e with e | e<;>omega))
   have NOK:=Lib.hid (show ∀k,(Value.slice A9 i c9).ownBlock=some k→¬ok2 k∧k≠p∧k≠gs∧w3.heap.size≤k∧k<w6.heap.size from fun k hk=>by
    obtain ⟨cs,h1,h2⟩:=iA I.out.row k hk
    have h3:=h1.lt
    have:=SZ.out
    refine ⟨fun hok=> ?_,by omega,by omega,h2,by have:=t6.size; omega⟩
    rcases g3 k hok with h4 | h4
    ·exact MM.out.2.2 k hk h4
    ·omega)
   have GG:=Lib.hid (show (∀b,ok b→ok2 b)∧(∀b,ok2 b→ok b∨w3.heap.size≤b∧b<w6.heap.size) from ⟨fun b hb=>g2 b (MM.out.1 b hb),fun b hb=>by
    have:=SZ.out
    have:=t6.size
    rcases g3 b hb with h1 | h1
    ·rcases MM.out.2.1 b h1 with h2 | h2
     ·exact .inl h2
     ·exact .inr ⟨h2.1,by omega⟩
    ·exact .inr ⟨by omega,h1.2⟩⟩)
   have T6:=Lib.hid (T5.out.trans t6 (fun _ _ h=>h))
   have HW:=Lib.hid (Nat.le_trans T5.out.size t6.size)
   rw [hl2]
   clear LC t6 g1 g2 g3 hl2 QQ MM u0 u1 u2 u3 u4 u5 v0 v1 v2 v3 v4 v5 d1 d3 hw5 I R5
   go_wp2_with (
    at_builtin
    refine wpList_append_own_at _ rfl _ _ 36 rfl w3.heap.size 3 i0 (.int .i64 0) 1 8 Tryz.underlying36 hii hz0 hz1 hz2 rfl (by decide) (.slice A9 i c9) _ _ rfl (World.ownsRow.alloc O6.out _) ⟨w6.heap.size,0,none⟩ 1 1 [.int .i64 (l2:Int)] rfl rfl (Aj rfl _ _) (yF _) (Mj (by omega)) (Mk (by omega)) (by have:=HW.out; simp; omega) ?_
    intro v2 w7 hown hg _ hat
    have GT:=Lib.hid (show ak (fun k=>(Value.slice A9 i c9).ownBlock=some k) w6 w7 from (ak.aH ((Below.refl _ _).alloc (Nat.le_refl _) _) _).trans (ak.jB hg) (fun k _ e=>e))
    have I2:=Lib.hid (show Wn w3 w7 p gs cap ok S ks nx (i+1) v2 from by
     refine ⟨(T6.out.trans GT.out (fun k hk e=>by have:=NOK.out k e; omega)),⟨ok2,G1.out.turned GT.out (fun e=>(NOK.out p e).2.1 rfl) (fun e=>(NOK.out gs e).2.2.1 rfl) (fun b hb _ e=>(NOK.out b e).1 hb),GG.out.1,fun b hb=> ?_,fun b hb=> ?_⟩,?_⟩
     ·rcases GG.out.2 b hb with h1 | h1
      ·exact .inl h1
      ·exact .inr ⟨h1.1,Nat.lt_of_lt_of_le h1.2 GT.out.size⟩
     ·rcases hat with h1 | h1
      ·exact (NOK.out b (by rw [←h1]; exact hb)).1
      ·rw [h1] at hb
       injection hb with hb
       simp at hb
       intro hok
       rcases GG.out.2 b hok with h2 | h2
       ·have:=H.out.okB b h2; have:=HW.out; omega
       ·omega
     ·rw [Q2.out]
      unfold nums at hown ⊢
      rw [List.map_append]
      exact hown)
    clear hown hg hat)
   go_roundw
   case rel=>exact ⟨i+1,by first | rfl | (congr 1; done) | (congr 1; omega),by omega,I2⟩
   case measure=>first | (simp [intOf]; done) | (simp [intOf]; omega)
  ·obtain rfl:i=n2:=by omega
   obtain ⟨g9,cur9,rfl,w9,w10,w11,w12⟩:∃g cur,A9=some ⟨g,0,none⟩∧w3.heap.size≤g∧Bk wr 3 g cur∧i≤c9∧cur.toList.take (i*1)=nums (aG (ks.take i) S.length nx).2:=by
    rcases I.out.row.2 with ⟨_,h1⟩ | ⟨g,cp,cur,h1,e2,e3,e4,e5,e6,e7⟩
    ·omega
    ·injection h1 with h2 _ h4
     subst h2 h4
     exact ⟨g,cur,rfl,e2,e3,e4,e7⟩
   have htk:ks.take i=ks:=List.take_of_length_le (by rw [R.out.2.2.1]; exact Nat.le_refl _)
   obtain ⟨ok',m1,m2,m3,m4⟩:=I.out.mki
   rw [htk] at m1 w12
   obtain ⟨hls,hl2⟩:=pO ks S.length nx HM.out
   have hg9:=m4 g9 rfl
   have hlt9:=Bk.lt w10
   obtain ⟨L2,hL2⟩:∃L,(aG ks S.length nx).2=L:=⟨_,rfl⟩
   rw [hL2,R.out.2.2.1] at hl2
   rw [hL2] at w12
   obtain ⟨g1,g3⟩:=hkb wr I.out.aO
   have d1:=Bk.get g1 0
   have d3:=Bk.get g3 0
   have PW:=uE p gs cap (fun b=>ok' b∨b=g9) (S++(aG ks S.length nx).1) ⟨4,[],false,0,L2⟩ 4 none (some ⟨g9,0,none⟩) 0 0 i c9 false 0 wr
    (m1.mono (fun b hb=>.inl hb) (fun h=>h.elim m1.okp.1 (fun e=>by omega)) (fun h=>h.elim m1.okp.2 (fun e=>by omega)))
    (by rw [List.length_append,hls]; have:=R.out.1; omega)
    ⟨⟨none,0,0,some ⟨g9,0,none⟩,c9,by rw [hl2],Nat.zero_le _,fF.nothing _ _ _ _,by unfold nums; rw [List.length_map,Nat.mul_one],fun _=>⟨g9,0,rfl,.inr rfl,hlt9,fun j u hu=>by
     rw [Bk.get w10,Nat.zero_add]
     have h1:(cur9.toList.take (i*1))[j]? = some u:=by
      rw [w12]
      exact hu
     rw [List.getElem?_take] at h1
     split at h1
     ·simpa using h1
     ·cases h1⟩⟩,by rw [hl2]; omega⟩
   have PWH:=Lib.hid PW
   have LEN:=Lib.hid (show (S++(aG ks S.length nx).1).length=S.length+(aG ks S.length nx).1.length from List.length_append)
   have OKK:=Lib.hid (And.intro m2 (And.intro m3 w9))
   have G9:=Lib.hid hlt9
   have LD2:=Lib.hid (show lead (.mk 4 s0 nt ks mn mx) S.length nx=((aG ks S.length nx).1++[⟨4,[],false,0,L2⟩],S.length+(aG ks S.length nx).1.length) from by rw [LD.out,hL2])
   clear PW m1 m2 m3 m4 hg9 hlt9 hls w9 w10 w11 w12 hkb g1 g3 htk hL2
   go_wp2_with fail
   refine PWH.out.mono ?_
   rintro e w6 ⟨rfl,mk6,t6⟩
   rw [LEN.out]
   have FIN:=Lib.hid (show iy (.mk 4 s0 nt ks mn mx) p gs cap ok S nx w (.returned (.int .i64 ((S.length+(aG ks S.length nx).1.length:Nat):Int))) w6 from by
    refine iy.from B3.out ⟨by rw [LD2.out],I.out.aO.trans t6 (fun _ _ h=>h),(fun b=>ok' b∨b=g9),?_,fun b hb=>.inl (OKK.out.1 b hb),fun b hb=> ?_⟩
    ·rw [LD2.out]
     dsimp only
     rw [←List.append_assoc]
     exact mk6
    ·rcases hb with hb | rfl
     ·rcases OKK.out.2.1 b hb with h1 | h1
      ·exact .inl h1
      ·exact .inr ⟨h1.1,Nat.lt_of_lt_of_le h1.2 t6.size⟩
     ·exact .inr ⟨OKK.out.2.2,Nat.lt_of_lt_of_le G9.out t6.size⟩)
   clear PWH mk6 t6
   generalize S.length+(aG ks S.length nx).1.length=q at FIN ⊢
   go_wp2_with fail
   go_ret
   exact FIN.out
end NF
end Go.Proofs.YteemnmalikomgaaGreatDoor
namespace Go.Proofs.YteemnmalikomgaaGreatDoor
open Go.ChangeShapes Go.WideShapes Go.ChangeAt Go.RowKit
namespace NF
def lS (T:Nat) (M:Nat→Prop) (A B:World):Prop:=∀j,j<T→¬M j→B.heap[j]? = A.heap[j]?
theorem lS.trans {T:Nat} {M:Nat→Prop} {A B C:World} (h:lS T M A B) (h2:lS T M B C):lS T M A C:=fun j h3 h4=>(h2 j h3 h4).trans (h j h3 h4)
theorem lS.laid {T:Nat} {M:Nat→Prop} {A B:World} (h:Laid A B) (hT:T≤A.heap.size):lS T M A B:=fun j h3 _=>h.block j (by omega)
theorem lS.put {T l:Nat} {M:Nat→Prop} (W:World) (o:Obj) (h:T≤l):lS T M W (W.putObj l o):=fun j h3 _=>World.putObj_heap_other (by omega)
theorem lS.aO {T:Nat} {M:Nat→Prop} {A B:World} (h:ak M A B) (hT:T≤A.heap.size):lS T M A B:=fun j h3 h4=>h.block j (by omega) h4
theorem lS.cell {T:Nat} {M:Nat→Prop} {A B:World} (h:lS T M A B) (q:Addr) (h1:q.block<T) (h2:¬M q.block):B.cell? q=A.cell? q:=by
 have e:=h q.block h1 h2
 unfold World.cell?
 rw [e]
def Wo (xs:List Nv) (n2:Nat) (k:Nat) (x:Array Value) (_:World):Prop:=∃xi,xs[n2 - 1 - k]? = some xi∧x = #[.int .i64 ((n2 - 1 - k:Nat):Int),xi.v]
theorem Cw {w:World} {T Bx n2 c2 B:Nat} {M:Nat→Prop} {A2:Option Addr} {xs:List Nv} (hT:T≤w.heap.size) (hbx:Bk w 27 Bx #[.slice A2 n2 c2]) (hBx:Bx<T∧¬M Bx) (hsq:Sq w B 6 n2 A2 (bY xs)) (hxl:xs.length=n2) (hB:B≤T) (hne:∀b off,A2=some ⟨b,off,none⟩→0<n2→¬M b) (hn:n2≤20000) :
  bP Tryz.prog 135 #[.pointer (some ⟨Bx,0,none⟩)] n2 (Wo xs n2) (lS T M) w:=by
 intro l J Jx W hL hJ hJx hY h0
 have KP:=Lib.hid (lS.laid (M:=M) hL hT)
 have J0:=Lib.hid h0
 have YH:=Lib.hid hY
 have SQ:=Lib.hid hsq
 have BX:=Lib.hid (And.intro hbx hBx)
 have HH:=Lib.hid (And.intro hxl (And.intro hB hne))
 have c0:W.cell? ⟨Bx,0,none⟩=some (.slice A2 n2 c2):=(KP.out.cell ⟨Bx,0,none⟩ hBx.1 hBx.2).trans (Bk.get hbx 0)
 have hsub:IntKind.i64.wrap ((n2:Int) - 1)=(n2:Int) - 1:=IntWalk.i64_in _ (by omega)
 clear hY hJ hJx hL h0 hbx hBx hsq hxl hB hne hT
 refine callsIn_of_wp Tryz.func135 rfl trivial ?_ rfl
 simp only [Tryz.ntmps135,List.size_toArray,List.length_cons,List.length_nil,Nat.reduceAdd,Nat.reduceSub,Array.replicate_succ,Array.replicate_zero,List.push_toArray,List.append_toArray,List.nil_append,List.cons_append]
 gi_wp2
 gi_loopw [3] (fun t wr=>∃k:Nat,t=.int .i64 ((n2:Int) - 1 - (k:Int))∧k≤n2∧Hid (lS T M w wr)∧Hid (J k wr)) (fun t _=>(intOf t+1).toNat)
 case atStart=>exact ⟨0,by first | rfl | (congr 1; omega),Nat.zero_le _,KP,J0⟩
 case round =>
  obtain ⟨k,rfl,hk,K,JJ⟩:=hrel
  clear KP J0 c0 hsub
  by_cases hlt:k<n2
  ·obtain ⟨i,hi⟩:∃i,n2 - 1 - k=i:=⟨_,rfl⟩
   have hti:(n2:Int) - 1 - (k:Int)=(i:Int):=by omega
   have hin:i<n2:=by omega
   have hi0:(0:Int)≤(i:Int):=by omega
   have hi1:(i:Int)<(n2:Int):=by omega
   have hsub:IntKind.i64.wrap ((i:Int) - 1)=(i:Int) - 1:=IntWalk.i64_in _ (by omega)
   rw [hti]
   obtain ⟨xi,hxi⟩:∃xi,xs[i]? = some xi:=⟨_,List.getElem?_eq_getElem (by rw [HH.out.1]; exact hin)⟩
   obtain ⟨b,off,rfl,hb,nv⟩:=nM SQ.out hxi hin
   have hbn:=HH.out.2.2 b off rfl (by omega)
   have c0:wr.cell? ⟨Bx,0,none⟩=some (.slice (some ⟨b,off,none⟩) n2 c2):=(K.out.cell ⟨Bx,0,none⟩ BX.out.2.1 BX.out.2.2).trans (Bk.get BX.out.1 0)
   have hkw:∀o,wr.cell? ⟨b,o,none⟩=w.cell? ⟨b,o,none⟩:=fun o=>K.out.cell ⟨b,o,none⟩ (by have:=HH.out.2.1; show b<T; omega) hbn
   have nw:zC wr b (off+i*6) xi:=⟨(hkw _).trans nv.c0,(hkw _).trans nv.c1,(hkw _).trans nv.c2,(hkw _).trans nv.c3,(hkw _).trans nv.c4,(hkw _).trans nv.c5⟩
   obtain ⟨ki,Ai,ni,ci,nti,A2i,n2i,c2i,mni,mxi⟩:=xi
   obtain ⟨u0,u1,u2,u3,u4,u5⟩:=oG nw
   obtain ⟨fn,tmps,assign,body,hy,hR⟩:=YH.out k #[.int .i64 (i:Int),(⟨ki,Ai,ni,ci,nti,A2i,n2i,c2i,mni,mxi⟩:Nv).v] wr hlt JJ.out ⟨_,by rw [hi]; exact hxi,by rw [hi]⟩
   have RR:=Lib.hid hR
   have TI:=Lib.hid (And.intro hi hti)
   dsimp only [Nv.v] at hy
   clear hR JJ nw hkw nv hxi hb hbn hi hti
   have K0:=Lib.hid K.out
   clear K
   gi_wp2
   refine RR.out.mono ?_
   rintro e W5 (⟨rfl,hJ5,hk5⟩ | ⟨rfl,hJx5⟩)
   ·have K5:=Lib.hid (K0.out.trans hk5)
    have J5:=Lib.hid hJ5
    clear hJ5 hk5 hy RR K0 c0 u0 u1 u2 u3 u4 u5
    gi_wp2
    go_roundw
    case rel=>exact ⟨k+1,by have:=TI.out.2; first | (congr 1; omega) | omega,by omega,K5,J5⟩
    case measure=>first | (simp [intOf]; done) | (simp [intOf]; omega)
   ·have DX:=Lib.hid hJx5
    clear hJx5 hy RR K0 c0 u0 u1 u2 u3 u4 u5
    gi_wp2
    refine bodyPost_ret (results_none rfl _ _ _) rfl ?_
    exact ⟨⟨_,rfl⟩,.inr ⟨_,hlt,DX.out⟩⟩
  ·obtain rfl:k=n2:=by omega
   have hm1:(k:Int) - 1 - (k:Int) = -1:=by omega
   rw [hm1]
   gi_wp2
   go_end0
   exact ⟨⟨_,rfl⟩,.inl JJ.out⟩
end NF
namespace NF
attribute [local go_sem] Oper.semAt_some
theorem wQ:∀(ks:List Nd) (b nx:Nat),aW ks=true→(bC ks b nx).1.length=bf ks
 | [],b,nx,_=>by rw [bC]; rfl
 | x::xs,b,nx,h=>by
  rw [aW,Bool.and_eq_true] at h
  have h1:=wQ xs b nx h.2
  rw [bC]
  dsimp only
  rw [List.length_append,h1,bf,qM h.1,Nat.add_comm]
theorem drop_at {ks:List Nd} {i:Nat} {y:Nd} (hy:ks[i]? = some y):ks.drop i=y::ks.drop (i+1):=by
 obtain ⟨hi,rfl⟩:=List.getElem?_eq_some_iff.1 hy
 exact List.drop_eq_getElem_cons hi
theorem JD {ks:List Nd} (i:Nat) (h:aW ks=true):aW (ks.drop i)=true:=by
 rw [←List.take_append_drop i ks,zD,Bool.and_eq_true] at h
 exact h.2
theorem Ml {ks:List Nd} {i:Nat} {y:Nd} (hy:ks[i]? = some y):bf (ks.drop (i+1))+wt y≤bf ks:=by
 have e:bf ks=bf (ks.take i++ks.drop i):=by rw [List.take_append_drop]
 rw [e,Cv,drop_at hy,bf]
 omega
theorem ak.put {l:Nat} (W:World) (o:Obj):ak (· = l) W (W.putObj l o):=⟨rfl,rfl,rfl,by simp,fun k _ hk=>World.putObj_heap_other hk⟩
theorem Pj {w:World} {b off l:Nat} {o:Obj} {u:Value} (h:w.cell? ⟨b,off,none⟩=some u) (ho:w.heap[l]? = some o) (hc:o.isCells=false):b≠l:=by
 rintro rfl
 unfold World.cell? at h
 dsimp only at h
 rw [ho] at h
 cases o<;>first | (cases hc; done) | (simp at h; done) | cases h
theorem JE {w:World} {b off l:Nat} {o:Obj} (h:b≠l):(w.putObj l o).cell? ⟨b,off,none⟩=w.cell? ⟨b,off,none⟩:=by
 have e:(w.putObj l o).heap[b]? = w.heap[b]?:=World.putObj_heap_other (by omega)
 unfold World.cell?
 dsimp only
 rw [e]
theorem fF.put {w:World} {ok:Nat→Prop} {size n l:Nat} {A:Option Addr} {xs:List Value} {o:Obj} (h:fF w ok size n A xs) (hs:0<size) (o':Obj) (ho:w.heap[l]? = some o) (hc:o.isCells=false):fF (w.putObj l o') ok size n A xs :=
 ⟨h.len,fun hn=>by
  obtain ⟨b,off,e,h1,h2,h3⟩:=h.spot hn
  have hl:0<xs.length:=by rw [h.len]; exact Nat.mul_pos hn hs
  have h4:=h3 0 xs[0] (List.getElem?_eq_getElem hl)
  have h5:=Pj h4 ho hc
  exact ⟨b,off,e,h1,by simpa using h2,fun j u hu=>(JE h5).trans (h3 j u hu)⟩⟩
theorem fZ.put {w:World} {p gs cap l:Nat} {ok:Nat→Prop} {S:List St} {o:Obj} (h:fZ w p gs cap ok S) (o':Obj) (ho:w.heap[l]? = some o) (hc:o.isCells=false):fZ (w.putObj l o') p gs cap ok S:=by
 obtain ⟨cur,h1,h2,h3⟩:=h.row
 have hne:∀ {e:TypeId} {g:Nat} {cs:Array Value},Bk w e g cs→Bk (w.putObj l o') e g cs:=fun {e g cs} hb=>by
  have hg:g≠l:=by
   rintro rfl
   have hb2:w.heap[g]? = _:=hb
   rw [ho] at hb2
   cases hb2
   cases hc
  exact (World.putObj_heap_other hg).trans hb
 exact ⟨hne h.box,⟨cur,hne h1,h2,fun q s hs=>let ⟨vs,⟨⟨A,n,c,A2,c2,e1,e2,e3,e4⟩,hm⟩,h5⟩:=h3 q s hs; ⟨vs,⟨⟨A,n,c,A2,c2,e1,e2,e3.put (by decide) o' ho hc,e4.put (by decide) o' ho hc⟩,hm⟩,h5⟩⟩,h.room,h.big,h.okp⟩
theorem Fb (A:Option Addr) (n c:Nat) (w:World):Calls Tryz.prog 92 #[.slice A n c] w fun e w'=>e=.returned (.func (.func 135) #[] #[.pointer (some ⟨w.heap.size,0,none⟩)])∧w'=w.alloc (.cells #[.slice A n c] 27):=by
 go_enter Tryz.func92,Tryz.ntmps92
 go_wp2
 go_ret
 exact ⟨rfl,rfl⟩
theorem Vd {w w':World} {lo B:Nat} {M:Nat→Prop} {t:Nd} {x:Nv} (h:bQ w lo B t x) (ht:ak M w w') (hB:B≤w.heap.size) (hM:∀k,lo≤k→k<B→¬M k):bQ w' lo B t x :=
 jh (fun q h1 h2=>by
  have e:=ht.block q.block (by omega) (hM _ h1 h2)
  unfold World.cell?
  rw [e]) h
structure D7 (w4 W:World) (mb nb p gs cap:Nat) (ok:Nat→Prop) (S:List St) (ys:List Nd) (nx:Nat):Prop where
 aO:ak (fun k=>k=p∨k=gs∨k=nb) w4 W
 box:Bk W 3 nb #[.int .i64 ((bC ys S.length nx).2:Int)]
 me:Bk W 152 mb #[.pointer (some ⟨p,0,none⟩)]
 le:(bC ys S.length nx).2≤cap
 mki:∃ok':Nat→Prop,fZ W p gs cap ok' (S++(bC ys S.length nx).1)∧(∀b,ok b→ok' b)∧(∀b,ok' b→ok b∨w4.heap.size≤b∧b<W.heap.size)
theorem D7.laid {w4 W W':World} {mb nb p gs cap:Nat} {ok:Nat→Prop} {S:List St} {ys:List Nd} {nx:Nat} (h:D7 w4 W mb nb p gs cap ok S ys nx) (hb:Laid W W'):D7 w4 W' mb nb p gs cap ok S ys nx:=by
 obtain ⟨ok',m1,m2,m3⟩:=h.mki
 have t:ak (fun _=>False) W W':=ak.aH hb _
 exact ⟨h.aO.trans t (fun _ _ e=>e.elim),t.bk h.box (fun e=>e),t.bk h.me (fun e=>e),h.le,ok',m1.turned t (fun e=>e) (fun e=>e) (fun _ _ _ e=>e),m2,fun b hb=>(m3 b hb).imp id (fun e=>⟨e.1,Nat.lt_of_lt_of_le e.2 t.size⟩)⟩
theorem D7.put {w4 W:World} {mb nb p gs cap l:Nat} {ok:Nat→Prop} {S:List St} {ys:List Nd} {nx:Nat} {o:Obj} (h:D7 w4 W mb nb p gs cap ok S ys nx) (o':Obj) (hl:w4.heap.size≤l) (hlt:mb<w4.heap.size∧nb<w4.heap.size) (ho:W.heap[l]? = some o) (hc:o.isCells=false):D7 w4 (W.putObj l o') mb nb p gs cap ok S ys nx:=by
 obtain ⟨ok',m1,m2,m3⟩:=h.mki
 have t:=ak.put (l:=l) W o'
 exact ⟨h.aO.trans t (fun k hk e=>by omega),t.bk h.box (by omega),t.bk h.me (by omega),h.le,ok',m1.put o' ho hc,m2,fun b hb=>(m3 b hb).imp id (fun e=>⟨e.1,Nat.lt_of_lt_of_le e.2 t.size⟩)⟩
theorem Sb (ks:List Nd) (lo B:Nat) (hC:∀y∈ks,wO y lo B) (s0:Sg) (nt0:Bool) (mn0 mx0:Int):wO (.mk 3 s0 nt0 ks mn0 mx0) lo B:=by
 intro x p gs cap ok S nx w h
 have htree:=h.tree
 rw [bQ] at htree
 obtain ⟨e1,e2,e3,e4,xs,ho,hk⟩:=htree
 obtain ⟨k,A,n,c,nt,A2,n2,c2,mn,mx⟩:=x
 dsimp only at e1 e2 e3 e4
 subst e2 e3 e4
 obtain rfl:k=3:=e1
 obtain ⟨ma,mk⟩:=eP h.may
 have hlen:ks.length=n2:=ho.len
 have hwt:wt (.mk 3 s0 nt ks mn mx)=bf ks:=by rw [wt,if_pos rfl]
 have hld:lead (.mk 3 s0 nt ks mn mx) S.length nx=bC ks S.length nx:=by rw [lead,if_pos rfl]
 have hroom:=h.room
 rw [hwt] at hroom
 have hcap:=h.mki.big
 have hle:=Al ks mk
 obtain ⟨w1,w2,w3,hw1,hw2,hw3,b3,z1,z2,z3,k1,k2,k3⟩:=oI w p 3 A n c nt A2 n2 c2 mn mx nx
 obtain ⟨w4,hw4⟩:∃w4,w3.alloc (.cells #[.slice A2 n2 c2] 27)=w4:=⟨_,rfl⟩
 have b34:Below w3.heap.size w3 w4:=by rw [←hw4]; exact (Below.refl _ _).alloc (Nat.le_refl _) _
 have k4:Bk w4 27 w3.heap.size #[.slice A2 n2 c2]:=by rw [←hw4]; exact heap_alloc_new w3 _
 have z4:w4.heap.size=w.heap.size+4:=by rw [←hw4]; simp [z3]
 have b4:Below w.heap.size w w4:=b3.trans (b34.mono b3.size)
 have t4:ak (fun _=>False) w3 w4:=ak.aH b34 _
 have hn20:n2≤20000:=by omega
 have P4:=h.at b4
 have tr4:=P4.tree
 rw [bQ] at tr4
 obtain ⟨_,_,_,_,xs4,ho4,hk4⟩:=tr4
 have hpg:=h.mki.lt
 have hlw:=h.low
 have hhi:=h.high
 have TL:=Lib.hid (Cw (M:=fun k=>k=p∨k=gs∨k=w2.heap.size) (T:=w4.heap.size) (c2:=c2) (Nat.le_refl _) k4 ⟨by omega,by omega⟩ ho4.kids ho4.lZ P4.high (fun b off e h0=>by have:=ho4.lo2 b off e h0; obtain ⟨b',off',e',hb',_⟩:=ho4.kids.spot h0; rw [e] at e'; injection e' with e'; injection e' with e'; omega) hn20)
 have BW:=Lib.hid (Fb A2 n2 c2 w3)
 have I0:=Lib.hid (show D7 w4 w4 w.heap.size w2.heap.size p gs cap ok S (ks.drop (n2 - 0)) nx from by
  rw [Nat.sub_zero,List.drop_of_length_le (by omega)]
  have e0:bC [] S.length nx=([],nx):=by rw [bC]
  exact ⟨ak.refl _ _,by rw [e0,z2]; exact t4.bk k3 (fun e=>e),t4.bk k1 (fun e=>e),by rw [e0]; exact h.next,ok,by rw [e0,List.append_nil]; exact P4.mki,fun _ e=>e,fun _ e=>.inl e⟩)
 have H:=Lib.hid h
 have OW:=Lib.hid ho
 have KW:=Lib.hid hk
 have HC:=Lib.hid hC
 have LD:=Lib.hid hld
 have B4:=Lib.hid b4
 have R:=Lib.hid (And.intro hroom (And.intro z4 hlen))
 have HM:=Lib.hid mk
 have HX4:=Lib.hid (And.intro ho4.lZ (And.intro hk4 hk))
 have HW4:=Lib.hid hw4
 have NLT:=Lib.hid (And.intro hpg (And.intro hlw hhi))
 have Z:=Lib.hid (show w.heap.size<w4.heap.size∧w2.heap.size<w4.heap.size∧w.heap.size<w2.heap.size from ⟨by omega,by omega,by omega⟩)
 have c1:=Bk.get k1 0
 obtain ⟨y0,y1,y2,y3,y4,y5⟩:=aB k2
 have c3:=Bk.get k3 0
 dsimp only [Nv.v]
 clear P4 h ho hk ho4 hk4 k1 k2 k3 k4 b3 b34 b4 t4 z3 z4 hC hld hwt hroom ma mk hlen hle hw4 hpg hlw hhi
 rw [show w.heap.size+1=w1.heap.size from z1.symm] at *
 rw [show w.heap.size+2=w2.heap.size from z2.symm] at *
 clear z1 z2
 refine (callsIn_wide (n:=3)).1 (callsIn_of_wp_marks Tryz.func53 rfl trivial ?_ rfl)
 simp only [Tryz.ntmps53,List.size_toArray,List.length_cons,List.length_nil,Nat.reduceAdd,Nat.reduceSub,Array.replicate_succ,Array.replicate_zero,List.push_toArray,List.append_toArray,List.nil_append,List.cons_append]
 refine wpIn_wide.2 ?_
 go_wp2_with fail
 refine BW.out.mono ?_
 rintro e w' ⟨rfl,rfl⟩
 rw [HW4.out]
 clear BW HW4 hw1 hw2 hw3 c1 c3 y0 y1 y2 y3 y4 y5
 go_wp2_with fail
 refine Cx (Fit:=Wo xs4 n2) (Kp:=lS w4.heap.size (fun k=>k=p∨k=gs∨k=w2.heap.size)) (N:=n2) (gf:=135) (lb:= #[.pointer (some ⟨w3.heap.size,0,none⟩)]) rfl (enters_of Tryz.func135 (by kernel_rfl) rfl) TL.out lS.trans
  (fun A B hA h=>lS.laid h hA) (fun W l o o' hl ho hc=>lS.put W o' hl) (fun k x W h=>by obtain ⟨_,_,rfl⟩:=h; rfl)
  (fun k W=>Hid (D7 w4 W w.heap.size w2.heap.size p gs cap ok S (ks.drop (n2 - k)) nx)) (fun _ _ _=>False)
  (fun k A B h hb=>Lib.hid (h.out.laid hb)) (fun k W l o o' hl ho hc h=>Lib.hid (h.out.put o' hl ⟨Z.out.1,Z.out.2.1⟩ ho hc))
  (fun _ _ _ _ h _=>h) (fun _ _ _ _ _ _ _ _ _ h=>h) I0 ?round ?done (fun _ _ _ _ _ _ h _=>h.elim)
 case round =>
  rintro l2 k2 x W hk2 hl2 ⟨o,ho,hoc⟩ hi ⟨xi,hxi,rfl⟩
  clear I0 TL
  obtain ⟨ki,Ai,ni,ci,nti,A2i,n2i,c2i,mni,mxi⟩:=xi
  dsimp only [Nv.v]
  obtain ⟨i,hi1⟩:∃i,n2 - 1 - k2=i:=⟨_,rfl⟩
  have hin2:i<n2:=by omega
  have hk3:n2 - k2=i+1:=by omega
  have hk4:n2 - (k2+1)=i:=by omega
  rw [hi1] at hxi ⊢
  rw [hk3] at hi
  have HK4:=Lib.hid hk4
  have bb:Laid W (W.alloc (.cells #[.int .i64 ki,.slice Ai ni ci,.bool nti,.slice A2i n2i c2i,.int .i64 mni,.int .i64 mxi] 29)):=(Below.refl _ _).alloc (Nat.le_refl _) _
  have hlt2:l2<W.heap.size:=(Array.getElem?_eq_some_iff.1 ho).1
  gi_wp2
  refine ⟨bb,fun o1=> ?_⟩
  have H2:=Lib.hid ((hi.out.laid bb).put o1 hl2 ⟨Z.out.1,Z.out.2.1⟩ ((bb.block l2 hlt2).trans ho) hoc)
  have N2:=Lib.hid (show aR ((W.alloc (.cells #[.int .i64 ki,.slice Ai ni ci,.bool nti,.slice A2i n2i c2i,.int .i64 mni,.int .i64 mxi] 29)).putObj l2 o1) W.heap.size ⟨ki,Ai,ni,ci,nti,A2i,n2i,c2i,mni,mxi⟩ from (World.putObj_heap_other (by omega)).trans (heap_alloc_new W _))
  have G:=Lib.hid (show w4.heap.size≤W.heap.size from hi.out.aO.size)
  clear hi ho hoc bb hlt2 hl2 hk3 hk4 hi1
  generalize (W.alloc (.cells #[.int .i64 ki,.slice Ai ni ci,.bool nti,.slice A2i n2i c2i,.int .i64 mni,.int .i64 mxi] 29)).putObj l2 o1=W2 at H2 N2 ⊢
  obtain ⟨v0,v1,v2,v3,v4,v5⟩:=aB N2.out
  obtain ⟨y,hy⟩:∃y,ks[i]? = some y:=⟨_,List.getElem?_eq_getElem (by rw [R.out.2.2]; exact hin2)⟩
  have hmy:=(D6 HM.out hy).1
  have hmb:=JD (i+1) HM.out
  have hwy:=Ml hy
  obtain ⟨xj,hxj,hnd⟩:=HX4.out.2.1.at i y hy
  rw [hxi] at hxj
  injection hxj with hxj
  subst hxj
  obtain ⟨ok',m1,m2,m3⟩:=H2.out.mki
  have hls:=wQ (ks.drop (i+1)) S.length nx hmb
  have hle:=H2.out.le
  have d0:=H2.out.me.get 0
  have d5:=H2.out.box.get 0
  have f5:=H2.out.box.free 0
  have e2:bC (ks.drop i) S.length nx=((bC (ks.drop (i+1)) S.length nx).1++(lead y (S.length+(bC (ks.drop (i+1)) S.length nx).1.length) (bC (ks.drop (i+1)) S.length nx).2).1,(lead y (S.length+(bC (ks.drop (i+1)) S.length nx).1.length) (bC (ks.drop (i+1)) S.length nx).2).2):=by rw [drop_at hy,bC]
  obtain ⟨last,hlast⟩:∃l,(bC (ks.drop (i+1)) S.length nx).2=l:=⟨_,rfl⟩
  obtain ⟨L1,hL1⟩:∃l,(bC (ks.drop (i+1)) S.length nx).1=l:=⟨_,rfl⟩
  have HB:=Lib.hid H2.out.box
  rw [hlast] at hle d5 HB
  rw [hL1] at m1 hls
  rw [hlast,hL1] at e2
  have hl1:(S++L1).length=S.length+L1.length:=List.length_append
  have hrm:=R.out.1
  have PRE:nH y ⟨ki,Ai,ni,ci,nti,A2i,n2i,c2i,mni,mxi⟩ lo B p gs cap ok' (S++L1) last W2 :=
   ⟨m1,hmy,by omega,hle,Vd hnd H2.out.aO (Nat.le_trans NLT.out.2.2 B4.out.size) (fun k h1 h2 e=>by have:=NLT.out; have:=Z.out; omega),Nat.le_trans NLT.out.2.2 (Nat.le_trans B4.out.size H2.out.aO.size),NLT.out.2.1,fun b h1 h2=>m2 b (H.out.own b h1 h2),fun b hb=>(m3 b hb).elim (fun h1=>Nat.lt_of_lt_of_le (H.out.okB b h1) (Nat.le_trans B4.out.size H2.out.aO.size)) (fun h1=>h1.2)⟩
  have LC:=Lib.hid (HC.out y (List.mem_of_getElem? hy) _ _ _ _ _ _ _ _ PRE)
  have LS:=Lib.hid (uF (nx:=last) (b:=S.length+L1.length) (E:=cap) hmy (by omega) hle)
  have EE:=Lib.hid (And.intro e2 hl1)
  have MM:=Lib.hid (And.intro m2 m3)
  dsimp only [Nv.v] at LC
  clear PRE m1 m2 m3 hls hle hmy hmb hwy hnd hxi e2 hlast hL1 hl1 hrm hy
  gi_wp2_with (refine ⟨trivial,?_⟩; gi_at_call 53; refine (callsIn_wide.2 LC.out).mono ?_; rintro e W5 ⟨rfl,t5,ok2,g1,g2,g3⟩; (have g5:Bk W5 3 w2.heap.size #[.int .i64 (last:Int)]:=t5.bk HB.out (fun e=>by have:=NLT.out; have:=Z.out; omega)); (have j5:=g5.get 0); (have jf:=g5.free 0); (have T5:=Lib.hid t5); (have GG:=Lib.hid (And.intro g1 (And.intro g2 g3))); (have G5:=Lib.hid g5); clear t5 g1 g2 g3 g5)
  obtain ⟨l3,hl3⟩:∃l,(lead y (S.length+L1.length) last).2=l:=⟨_,rfl⟩
  have LS3:=Lib.hid (show l3≤cap from by rw [←hl3]; exact LS.out)
  have E2:=Lib.hid (show bC (ks.drop i) S.length nx=(L1++(lead y (S.length+L1.length) last).1,l3) from by rw [EE.out.1,hl3])
  rw [hl3]
  clear hl3 LS
  have tc:ak (fun k=>k=w2.heap.size) W5 (W5.setCell ⟨w2.heap.size,0,none⟩ (.int .i64 (l3:Int))):=ak.bR _ _ _ _
  have t6:ak (fun k=>k=p∨k=gs∨k=w2.heap.size) W2 (W5.setCell ⟨w2.heap.size,0,none⟩ (.int .i64 (l3:Int))):=(T5.out.mono (M':=fun k=>k=p∨k=gs∨k=w2.heap.size) (fun k _ e=>e.elim .inl (fun e=>.inr (.inl e)))).trans tc (fun k _ e=>.inr (.inr e))
  have hW2:w4.heap.size≤W2.heap.size:=H2.out.aO.size
  have nn:=NLT.out
  have zz:=Z.out
  refine ⟨⟨t6.size,fun k o hk h1 _=>(t6.block k (Array.getElem?_eq_some_iff.1 h1).1 (fun e=>by omega)).trans h1⟩,lS.aO t6 hW2,Lib.hid ?_⟩
  rw [HK4.out]
  obtain ⟨g1,g2,g3⟩:=GG.out
  rw [List.append_assoc,EE.out.2] at g1
  refine ⟨H2.out.aO.trans t6 (fun _ _ e=>e),by rw [E2.out]; exact Bk.put G5.out 0 _,tc.bk (T5.out.bk H2.out.me (fun e=>by omega)) (by omega),by rw [E2.out]; exact LS3.out,ok2,?_,fun b hb=>g2 b (MM.out.1 b hb),fun b hb=> ?_⟩
  ·rw [E2.out]
   refine g1.turned tc (by omega) (by omega) (fun b hb _ e=> ?_)
   rcases g3 b hb with h1 | h1
   ·rcases MM.out.2 b h1 with h2 | h2
    ·have:=H.out.okB b h2; omega
    ·omega
   ·omega
  ·have:=tc.size
   have:=T5.out.size
   rcases g3 b hb with h1 | h1
   ·rcases MM.out.2 b h1 with h2 | h2
    ·exact .inl h2
    ·exact .inr ⟨h2.1,by omega⟩
   ·exact .inr ⟨by omega,by omega⟩
 case done =>
  rintro D W hD hi hdef
  rw [Nat.sub_self,List.drop_zero] at hi
  have HI:=Lib.hid (And.intro hi.out hdef)
  have d5:=hi.out.box.get 0
  clear hi hdef TL I0
  obtain ⟨l3,hl3⟩:∃l,(bC ks S.length nx).2=l:=⟨_,rfl⟩
  rw [hl3] at d5
  have L3:=Lib.hid hl3
  clear hl3
  go_wp2_with fail
  refine ⟨by simp,.inl ⟨_,_,rfl,run_takeDeferred HI.out.2,?_⟩⟩
  have hl:=HI.out.1.put (.deferred none) hD ⟨Z.out.1,Z.out.2.1⟩ HI.out.2 rfl
  obtain ⟨ok',m1,m2,m3⟩:=hl.mki
  have nn:=NLT.out
  have zz:=Z.out
  have tw:ak (fun k=>k=p∨k=gs) w (W.putObj D (.deferred none)):=(ak.aH B4.out (fun k=>k=p∨k=gs)).trans hl.aO (fun k hk e=>by omega)
  refine ⟨.int .i64 (l3:Int),?_,by rw [LD.out,L3.out],tw,ok',by rw [LD.out]; exact m1,m2,fun b hb=>(m3 b hb).imp id (fun e=>⟨Nat.le_trans B4.out.size e.1,e.2⟩)⟩
  simp [results,go_sem]
mutual
theorem Gr (lo B:Nat):∀(t:Nd),may t=true→wO t lo B
 | .mk k s nt ks mn mx,h=>by
  obtain ⟨h1,h2⟩:=eP h
  have hE:=D8 lo B ks h2
  by_cases h3:k=3
  ·subst h3; exact Sb ks lo B hE s nt mn mx
  ·by_cases h4:k=4
   ·subst h4; exact R8 ks lo B hE s nt mn mx
   ·by_cases h5:k=5
    ·subst h5
     obtain ⟨hl,_⟩:=lJ h1
     obtain ⟨y,rfl⟩:=List.length_eq_one_iff.1 hl
     exact R6 y lo B (hE y (by simp)) s nt mn mx
    ·exact R7 lo B k s nt ks mn mx h3 h4 h5
theorem D8 (lo B:Nat):∀(ks:List Nd),aW ks=true→∀y∈ks,wO y lo B
 | [],_,y,hy=>by cases hy
 | x::xs,h,y,hy=>by
  rw [aW,Bool.and_eq_true] at h
  rcases List.mem_cons.1 hy with e | hy
  ·rw [e]; exact Gr lo B x h.1
  ·exact D8 lo B xs h.2 y hy
end
end NF
end Go.Proofs.YteemnmalikomgaaGreatDoor
namespace Go.Proofs.YteemnmalikomgaaGreatDoor
open Go.ChangeShapes Go.WideShapes Go.ChangeAt Go.RowKit
namespace NF
theorem fZ.machine {w:World} {p gs cap:Nat} {ok:Nat→Prop} {M:List St} (h:fZ w p gs cap ok M) (q:Nat) (s:St) (hs:M[q]? = some s):wR w w.heap.size gs (q*5) s:=by
 obtain ⟨cur,h1,h2,h3⟩:=h.row
 obtain ⟨vs,⟨⟨A,n,c,A2,c2,rfl,e2,e3,e4⟩,hm⟩,h5⟩:=h3 q s hs
 have g:∀d u,d<5→[Value.int .i64 s.kind,.slice A n c,.bool s.nt,.int .i64 (s.next:Int),.slice A2 s.ways.length c2][d]? = some u→w.cell? ⟨gs,q*5+d,none⟩=some u:=fun d u hd hu=>by
  rw [Bk.get h1,h5 d hd]
  exact hu
 exact ⟨g 0 _ (by decide) rfl,⟨⟨A,n,c,g 1 _ (by decide) rfl,by omega,e3.sq⟩,g 2 _ (by decide) rfl⟩,g 3 _ (by decide) rfl,⟨A2,c2,g 4 _ (by decide) rfl,e4.sq⟩,hm⟩
def XB (t:Nd) (w:World) (e:Ending) (w':World):Prop :=
 Below w.heap.size w w'∧(may t=false→e=.returned (.tuple #[.pointer none,.int .i64 5]))∧(may t=true→20000<wt t→e=.returned (.tuple #[.pointer none,.int .i64 3])) ∧
  (may t=true→wt t≤20000→∃(p:Nat) (t2:Nd),e=.returned (.tuple #[.pointer (some ⟨p,0,none⟩),.int .i64 0])∧lY t t2∧pQ w' w'.heap.size p (iJ t2) (start t2)∧(iJ t2).length=wt t∧w.heap.size≤p∧∀(G:Nat) (w2:World),G<w.heap.size→ak (· = G) w' w2→pQ w2 w2.heap.size p (iJ t2) (start t2))
theorem Gt (t:Nd) (x:Nv) (lo:Nat) (w:World) (hx:bQ w lo w.heap.size t x) (hd:deep t≤40) (hc:count t≤2000) :
  Calls Tryz.prog 15 #[x.v] w fun e w'=>XB t w e w':=by
 obtain ⟨k,A,n,c,nt,A2,n2,c2,mn,mx⟩:=x
 obtain ⟨w1,hw1,k1,b1,z1⟩:=bX w k A n c nt A2 n2 c2 mn mx
 have X1:=Lib.hid (hx.below b1)
 have MW:=Lib.hid (Sc t ⟨k,A,n,c,nt,A2,n2,c2,mn,mx⟩ lo w1 (lK (Nat.le_refl _) (by omega) X1.out) hd hc)
 have WW:=Lib.hid (fun (wx:World) (hb:Below w.heap.size w wx) (hm:may t=true)=>JB 40 t ⟨k,A,n,c,nt,A2,n2,c2,mn,mx⟩ lo w.heap.size wx hd hm hb.size (hx.below hb))
 have OW:=Lib.hid (fun (wx:World) (hb:Below w.heap.size w wx) (hm:may t=true)=>RZ 40 t ⟨k,A,n,c,nt,A2,n2,c2,mn,mx⟩ lo w.heap.size wx hd hm hb.size (hx.below hb))
 obtain ⟨y0,y1,y2,y3,y4,y5⟩:=aB k1
 have K1:=Lib.hid k1
 have B1:=Lib.hid b1
 have Z1:=Lib.hid z1
 obtain ⟨m,hm⟩:∃m,may t=m:=⟨_,rfl⟩
 dsimp only [Nv.v] at MW WW OW ⊢
 rw [hm] at MW
 have HM:=Lib.hid hm
 clear hx hd hc k1 b1 z1 X1 hm
 cases m
 ·go_enter Tryz.func15,Tryz.ntmps15
  go_wp2_with fail
  refine MW.out.mono ?_
  rintro e w2 ⟨rfl,b2⟩
  have B2:=Lib.hid (B1.out.trans (b2.mono B1.out.size))
  clear b2 MW
  go_wp2_with fail
  refine bodyPost_ret (results_tmp2 (t:=2) (u:=3) rfl _ _ _) rfl ?_
  exact ⟨B2.out,fun _=>rfl,fun h=>by (rw [HM.out] at h; cases h),fun h=>by (rw [HM.out] at h; cases h)⟩
 ·go_enter Tryz.func15,Tryz.ntmps15
  go_wp2_with fail
  refine MW.out.mono ?_
  rintro e w2 ⟨rfl,b2⟩
  have B2:=Lib.hid (B1.out.trans (b2.mono B1.out.size))
  have k2:aR w2 w.heap.size ⟨k,A,n,c,nt,A2,n2,c2,mn,mx⟩:=K1.out.below b2 (by have:=Z1.out; omega)
  have S2:=Lib.hid b2.size
  have WX:=Lib.hid (WW.out w2 B2.out HM.out)
  clear y0 y1 y2 y3 y4 y5 MW WW b2 hw1
  obtain ⟨y0,y1,y2,y3,y4,y5⟩:=aB k2
  have K2:=Lib.hid k2
  clear k2
  go_wp2_with fail
  refine WX.out.mono ?_
  rintro e w3 ⟨rfl,b3⟩
  have B3:=Lib.hid (B2.out.trans (b3.mono B2.out.size))
  have k3:aR w3 w.heap.size ⟨k,A,n,c,nt,A2,n2,c2,mn,mx⟩:=K2.out.below b3 (by have:=Z1.out; have:=S2.out; omega)
  have S3:=Lib.hid b3.size
  obtain ⟨N,hN⟩:∃N,wm t=N:=⟨_,rfl⟩
  have HN:=Lib.hid (show min (wt t) 20001=N from hN)
  rw [hN]
  clear y0 y1 y2 y3 y4 y5 WX b3 hN K2
  have K3:=Lib.hid k3
  by_cases hb:20000<N
  ·go_wp2_with fail
   refine bodyPost_ret (results_tmp2 (t:=2) (u:=3) rfl _ _ _) rfl ?_
   exact ⟨B3.out,fun h=>by (rw [HM.out] at h; cases h),fun _ _=>rfl,fun _ h=>by have:=HN.out; omega⟩
  ·obtain ⟨i0,hi,hz0,hz1,hz2⟩:=info_parts infoSt
   have hwt:wt t=N:=by have:=HN.out; omega
   have MK:=run_make w3 94 158 i0 (.agg #[.int .i64 0,.slice none 0 0,.bool false,.int .i64 0,.slice none 0 0]) Tryz.underlying94 hi hz0 .i64 .i64 0 (N:Int) (Int.le_refl _) (by omega) (by rw [hz2]; omega) (by omega)
   rw [hz1,Int.toNat_natCast] at MK
   have hN20:N≤20000:=by omega
   clear hi hz0 hz1 hz2
   obtain ⟨y0,y1,y2,y3,y4,y5⟩:=aB k3
   have WT:=Lib.hid hwt
   clear hwt k3 HN
   go_upto_region 7 with fail
   obtain ⟨w4,hw4⟩:∃w4,w3.alloc (.cells (madeCells #[.int .i64 0,.slice none 0 0,.bool false,.int .i64 0,.slice none 0 0] (N*5)) 158)=w4:=⟨_,rfl⟩
   have b4:Below w3.heap.size w3 w4:=by rw [←hw4]; exact (Below.refl _ _).alloc (Nat.le_refl _) _
   have k4:Bk w4 158 w3.heap.size (madeCells #[.int .i64 0,.slice none 0 0,.bool false,.int .i64 0,.slice none 0 0] (N*5)):=by rw [←hw4]; exact heap_alloc_new w3 _
   have z4:w4.heap.size=w3.heap.size+1:=by rw [←hw4]; simp
   obtain ⟨w5,hw5⟩:∃w5,w4.alloc (.cells #[.slice (some ⟨w3.heap.size,0,none⟩) 0 N] 96)=w5:=⟨_,rfl⟩
   have b5:Below w4.heap.size w4 w5:=by rw [←hw5]; exact (Below.refl _ _).alloc (Nat.le_refl _) _
   have k5:Bk w5 96 w4.heap.size #[.slice (some ⟨w3.heap.size,0,none⟩) 0 N]:=by rw [←hw5]; exact heap_alloc_new w4 _
   have z5:w5.heap.size=w4.heap.size+1:=by rw [←hw5]; simp
   rw [hw4,hw5,←z4]
   have b35:=b4.trans (b5.mono (by omega))
   have k3:=K3.out.below b35 (by have:=Z1.out; have:=S2.out; have:=S3.out; omega)
   clear y0 y1 y2 y3 y4 y5 MK
   obtain ⟨y0,y1,y2,y3,y4,y5⟩:=aB k3
   have B5:=Lib.hid (B3.out.trans (b35.mono B3.out.size))
   have OX:=Lib.hid (OW.out w5 B5.out HM.out)
   have K4:=Lib.hid ((b5.block _ (by omega)).trans k4)
   have K5:=Lib.hid k5
   have ZZ:=Lib.hid (And.intro z4 z5)
   clear b4 k4 b5 k5 b35 k3 hw4 hw5 OW z4 z5 K3
   go_wp2_with fail
   refine OX.out.mono ?_
   rintro e w6 ⟨x',t2,rfl,ho2,hin2,b6⟩
   obtain ⟨kx,Ax,nx,cx,ntx,A2x,n2x,c2x,mnx,mxx⟩:=x'
   obtain ⟨hm2,hw2,hs2,_⟩:=uH [] t t2 ho2 HM.out
   have hwN:wt t2=N:=hw2.trans WT.out
   have MI:fZ w6 w4.heap.size w3.heap.size N (fun b=>w5.heap.size≤b∧b<w6.heap.size) []:=by
    have zz:=ZZ.out
    refine ⟨(b6.block _ (by omega)).trans K5.out,⟨_,(b6.block _ (by omega)).trans K4.out,size_madeCells _ _,fun q s h=>by simp at h⟩,Nat.zero_le _,hN20,fun h=>by omega,fun h=>by omega⟩
   have LC:=Lib.hid (Gr w5.heap.size w6.heap.size t2 hm2 ⟨kx,Ax,nx,cx,ntx,A2x,n2x,c2x,mnx,mxx⟩ w4.heap.size w3.heap.size N (fun b=>w5.heap.size≤b∧b<w6.heap.size) [] N w6
    ⟨MI,hm2,by rw [hwN]; simp,Nat.le_refl _,hin2,Nat.le_refl _,by have:=ZZ.out; omega,fun b h1 h2=>⟨h1,h2⟩,fun b hb=>hb.2⟩)
   have OK:=Lib.hid (fun s hs=>(lN N dQ trivial t2 0 N hm2 hs2 (by omega) (Nat.le_refl _)).2.2 s hs)
   have ML:=Lib.hid (pK hm2)
   have HO:=Lib.hid ho2
   have WN:=Lib.hid hwN
   have B6:=Lib.hid (B5.out.trans (b6.mono B5.out.size))
   have S6:=Lib.hid b6.size
   dsimp only [Nv.v] at LC ⊢
   clear OX ho2 hin2 b6 hm2 hw2 hs2 hwN MI y0 y1 y2 y3 y4 y5
   go_wp2_with fail
   refine LC.out.mono ?_
   rintro e w7 ⟨rfl,t7,ok',g1,gk1,gk2⟩
   obtain ⟨st,hst⟩:∃st,(lead t2 ([]:List St).length N).2=st:=⟨_,rfl⟩
   have hM:iJ t2=(lead t2 0 N).1:=by unfold iJ; rw [WN.out]
   have hS:start t2=st:=by unfold start; rw [WN.out,←hst]; rfl
   have g2:fZ w7 w4.heap.size w3.heap.size N ok' (iJ t2):=by rw [hM]; exact g1
   have hl:(iJ t2).length=N:=ML.out.trans WN.out
   have hpb:=g2.box
   rw [hl] at hpb
   have c7:=hpb.get 0
   have OKM:=Lib.hid (show ∀s∈iJ t2,uI (iJ t2).length dQ s from by rw [hl,hM]; exact OK.out)
   have G2:=Lib.hid g2
   have GK:=Lib.hid (show ∀b,ok' b→w.heap.size≤b from fun b hb=>by
    rcases gk2 b hb with h | h
    ·have:=B5.out.size; omega
    ·have:=B6.out.size; omega)
   have T7:=Lib.hid t7
   have HL:=Lib.hid hl
   have HS:=Lib.hid hS
   rw [hst]
   clear LC g1 gk1 gk2 g2 t7 hM hS hl hst hpb
   go_wp2_with fail
   refine bodyPost_ret (results_tmp2 (t:=2) (u:=3) rfl _ _ _) rfl ?_
   obtain ⟨w8,hw8⟩:∃w8,w7.alloc (.cells #[.slice (some ⟨w3.heap.size,0,none⟩) N N,.int .i64 (st:Int)] 100)=w8:=⟨_,rfl⟩
   have b8:Below w7.heap.size w7 w8:=by rw [←hw8]; exact (Below.refl _ _).alloc (Nat.le_refl _) _
   have k8:Bk w8 100 w7.heap.size #[.slice (some ⟨w3.heap.size,0,none⟩) N N,.int .i64 (st:Int)]:=by rw [←hw8]; exact heap_alloc_new w7 _
   have z8:w8.heap.size=w7.heap.size+1:=by rw [←hw8]; simp
   rw [hw8]
   have hgl:=G2.out.lt
   have zz:=ZZ.out
   have hw3:=S3.out
   have hs2:=S2.out
   have hz1:=Z1.out
   have far:∀(w2:World),ak (fun k=>k<w.heap.size) w8 w2→pQ w2 w2.heap.size w7.heap.size (iJ t2) (start t2):=fun w2 t2w=>by
    have m8:=G2.out.turned (ak.aH b8 fun _=>False) (fun x=>x) (fun x=>x) (fun _ _ _ x=>x)
    have m2:=m8.turned t2w (by omega) (by omega) (fun b hb _ hx=>by have:=GK.out b hb; omega)
    have k2:Bk w2 100 w7.heap.size #[.slice (some ⟨w3.heap.size,0,none⟩) N N,.int .i64 (st:Int)]:=t2w.bk k8 (by omega)
    have hgl2:=m2.lt
    exact ⟨⟨w3.heap.size,N,by rw [HL.out]; exact k2.get 0,by omega,fun q s hs=>m2.machine q s hs⟩,by rw [HS.out]; exact k2.get 1,k2.lt,by rw [HL.out]; exact hN20,OKM.out⟩
   refine ⟨?_,fun h=>by (rw [HM.out] at h; cases h),fun _ h=>by have:=WT.out; omega,fun _ _=>⟨w7.heap.size,t2,rfl,HO.out,far w8 (ak.aH (Below.refl _ _) _),by rw [HL.out,WT.out],by have:=B6.out.size; have:=T7.out.size; omega,fun G w2 hG ht=>far w2 (ht.mono fun k _ hk=>by omega)⟩⟩
   have t8:ak (fun k=>k=w4.heap.size∨k=w3.heap.size) w w8:=((ak.aH B6.out _).trans T7.out (fun _ _ e=>e)).trans (ak.aH b8 (fun _=>False)) (fun _ _ e=>e.elim)
   exact t8.toBelow (Nat.le_refl _) (fun k hk e=>by omega)
end NF
namespace NF
theorem Pk (n:Nd):sets (fun _=>True) n:=by
 have key:∀(k:Nat) (n:Nd),deep n≤k→sets (fun _=>True) n:=by
  intro k
  induction k with
  | zero=>intro n h; cases n; rw [deep] at h; omega
  | succ k ih =>
   intro n h
   obtain ⟨a,s,nt,ks,mn,mx⟩:=n
   rw [deep] at h
   rw [sets]
   refine ⟨trivial,?_⟩
   have:∀(l:List Nd),dI l≤k→j3 (fun _=>True) l:=by
    intro l
    induction l with
    | nil=>intro _; rw [j3]; trivial
    | cons x xs ihl =>
     intro hl
     rw [dI] at hl
     rw [j3]
     exact ⟨ih x (by omega),ihl (by omega)⟩
   exact this ks (by omega)
 exact key (deep n) n (Nat.le_refl _)
def qO (w:World) (B p:Nat) (t:Nd):Prop:=may t=true∧∃t2,lY t t2∧pQ w B p (iJ t2) (start t2)∧(iJ t2).length=wt t
theorem qO.below {w w':World} {B p:Nat} {t:Nd} (h:qO w B p t) (hb:Below B w w'):qO w' B p t:=by
 obtain ⟨h1,t2,h2,h3,h4⟩:=h
 refine ⟨h1,t2,h2,?_,h4⟩
 obtain ⟨b,c,e1,e2,e3⟩:=h3.box
 exact ⟨⟨b,c,(hb.cell (p:=⟨p,_,none⟩) h3.low).trans e1,e2,fun q s hs=>(e3 q s hs).below hb e2⟩,(hb.cell (p:=⟨p,_,none⟩) h3.low).trans h3.start,h3.low,h3.big,h3.ok⟩
theorem qO.up {w:World} {B B' p:Nat} {t:Nd} (h:qO w B p t) (hB:B≤B'):qO w B' p t:=by
 obtain ⟨h1,t2,h2,h3,h4⟩:=h
 refine ⟨h1,t2,h2,?_,h4⟩
 obtain ⟨b,c,e1,e2,e3⟩:=h3.box
 exact ⟨⟨b,c,e1,by omega,fun q s hs=>(e3 q s hs).up hB⟩,h3.start,by have:=h3.low; omega,h3.big,h3.ok⟩
def X9 (t:Nd) (w w':World) (p:Nat):Prop:=∀(G:Nat) (w2:World),G<w.heap.size→ak (· = G) w' w2→qO w2 w2.heap.size p t
theorem Gu (t:Nd) (x:Nv) (lo:Nat) (w:World) (hx:bQ w lo w.heap.size t x) (hm:may t=true) (hd:deep t≤40) (hc:count t≤2000) (hw:wt t≤20000) :
  Calls Tryz.prog 15 #[x.v] w fun e w'=>∃p,e=.returned (.tuple #[.pointer (some ⟨p,0,none⟩),.int .i64 0])∧qO w' w'.heap.size p t∧X9 t w w' p∧Below w.heap.size w w':=by
 refine (Gt t x lo w hx hd hc).mono ?_
 rintro e w' ⟨b,_,_,h⟩
 obtain ⟨p,t2,rfl,h1,h2,h3,_,h4⟩:=h hm hw
 exact ⟨p,rfl,⟨hm,t2,h1,h2,h3⟩,fun G w2 hG ht=>⟨hm,t2,h1,h4 G w2 hG ht,h3⟩,b⟩
theorem Sd {w:World} {B p:Nat} {t:Nd} (h:qO w B p t) (A:Option Addr) (n c a:Nat) (l:List Int) (ha:a≤n) (hn:n≤1000000) (hB:B≤w.heap.size) (hl:l.length=n) (hq:Sq w w.heap.size 1 n A (bI l)) :
  Calls Tryz.prog 16 #[.pointer (some ⟨p,0,none⟩),.slice A n c,.int .i64 (a:Int)] w fun e w'=>jR (dJ (fun e=>jd l t a e) (n+1)) w e w':=by
 obtain ⟨h1,t2,h2,h3,h4⟩:=h
 obtain ⟨m1,m2,_,_⟩:=uH l t t2 h2 h1
 have hst:start t2≤(iJ t2).length:=by
  rw [pK m1]
  exact (lN (wt t2) (fun _=>True) trivial t2 0 (wt t2) m1 (Pk t2) (by omega) (Nat.le_refl _)).2.1
 have:=Ve B p (iJ t2) (start t2) A n c a l w h3 (by rw [h4]; exact Gq _ h1) ha hn hst hB hl hq
 rwa [JF (Q:=fun e=>jd l t a e) (n+1) fun e _=>Vf h1 h2 a e] at this
theorem Vg {w:World} {B p:Nat} {t:Nd} (h:qO w B p t) (A:Option Addr) (n c:Nat) (at':Int) (ho:at'<0∨(n:Int)<at') :
  Calls Tryz.prog 16 #[.pointer (some ⟨p,0,none⟩),.slice A n c,.int .i64 at'] w fun e w'=>jR [] w e w':=by
 obtain ⟨h1,t2,h2,h3,h4⟩:=h
 exact Si B p (iJ t2) (start t2) A n c at' w h3 (by rw [h4]; exact Gq _ h1) ho
end NF
namespace NF
theorem mod_range (y k:Int) (hk:0<k) (hk2:k≤1000):∃(r:Int) (d:Nat),y.tmod k=r∧IntKind.i64.wrap (r+k)=r+k∧(r+k).tmod k=(d:Int)∧(d:Int)<k:=by
 have h1:=Int.tmod_lt_of_pos y hk
 have h2:=Int.tmod_lt_of_pos (-y) hk
 rw [Int.neg_tmod] at h2
 obtain ⟨r,hr⟩:∃r,y.tmod k=r:=⟨_,rfl⟩
 rw [hr] at h1 h2
 have h3:=Int.tmod_nonneg k (show 0≤r+k by omega)
 have h4:=Int.tmod_lt_of_pos (r+k) hk
 exact ⟨r,((r+k).tmod k).toNat,hr,IntWalk.i64_in _ (by omega),by omega,by omega⟩
def l7 (s:ByteArray) (k:Nat):ByteArray:=s.extract 0 (min s.size k)
theorem zf (s:ByteArray) (k:Nat):(l7 s k).size≤k:=by unfold l7; rw [ByteArray.size_extract]; omega
theorem zh (s:ByteArray) (k:Nat) (w:World) :
  Calls Tryz.prog 18 #[.string s,.int .i64 k] w fun e w'=>e=.returned (.string (l7 s k))∧w=w':=by
 obtain ⟨m,hm⟩:∃m:Nat,min (s.size:Int) (k:Int)=(m:Int):=⟨min s.size k,by omega⟩
 have hm1:m≤s.size:=by omega
 have e:l7 s k=s.extract 0 m:=by unfold l7; congr 1; omega
 rw [e]
 clear e
 go_enter Tryz.func18,Tryz.ntmps18
 go_wp2
 go_ret
 exact ⟨rfl,rfl⟩
theorem parsed {s:ByteArray} {t:Nd} {w:World} {e:Ending} {w':World} (h:pR (l9 s) w e w') (ht:l9 s=.some t):∃k A n c nt A2 n2 c2 mn mx,e=.returned (.tuple #[Nv.v ⟨k,A,n,c,nt,A2,n2,c2,mn,mx⟩,.int .i64 0])∧gq w' (fun b=>w.heap.size≤b) t ⟨k,A,n,c,nt,A2,n2,c2,mn,mx⟩∧Below w.heap.size w w':=by
 rw [ht] at h
 obtain ⟨⟨k,A,n,c,nt,A2,n2,c2,mn,mx⟩,h1,h2,h3⟩:=h
 exact ⟨k,A,n,c,nt,A2,n2,c2,mn,mx,h1,h2,h3⟩
theorem Pm {L:List Nat} {w:World} {e:Ending} {w':World} (h:jR L w e w'):∃A c,e=.returned (.slice A L.length c)∧Sq w' w'.heap.size 1 L.length A (nums L)∧L.length≤c∧Below w.heap.size w w':=by
 obtain ⟨v,rfl,ho,hb⟩:=h
 obtain ⟨A,c,rfl⟩:=jA ho
 refine ⟨A,c,rfl,Sq.own ho,?_,hb⟩
 rcases ho.2 with ⟨h1,h2⟩ | ⟨g,cap,cur,h1,_,_,h3,_⟩
 ·rw [h2]; exact Nat.zero_le _
 ·injection h1 with _ _ h1; omega
end NF
