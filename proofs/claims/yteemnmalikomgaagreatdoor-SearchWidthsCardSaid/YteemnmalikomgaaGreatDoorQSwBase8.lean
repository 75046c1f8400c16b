import Derived.Test.YteemnmalikomgaaGreatDoorQSwBase7
import Derived.Laws.BytesString
import Derived.Lib.RuneBytes
import Derived.Lib.OthersKept
import Derived.Lib.IndexLaws
import Derived.WalkMore
import Derived.StillTailTactics
set_option maxRecDepth 100000
set_option maxHeartbeats 3200000
namespace Go.Proofs.YteemnmalikomgaaGreatDoor
open Go.ChangeShapes Go.WideShapes Go.ChangeAt Go.RowKit
namespace NF
theorem Vs:(Tryz.prog.info? 189).map (fun i=>(i.zero,i.size,i.bytes))=some (some (.agg #[.int .i32 0,.int .i32 0]),2,8):=by kernel_rfl
structure xC (w:World) (lo nb:Nat) (A:Option Addr) (c:Nat) (nt:Bool) (s:Sg):Prop where
 own:w.ownsRow lo 189 2 (.slice A s.length c) s.length (aN s)
 box:aR w nb ⟨2,A,s.length,c,nt,none,0,0,0,0⟩
 low:nb<lo
 signs:∀r∈s,(-2147483648≤r.1∧r.1≤2147483647)∧ -2147483648≤r.2∧r.2≤2147483647
theorem xC.turned {w w':World} {lo nb:Nat} {A:Option Addr} {c:Nat} {nt:Bool} {s:Sg} {M:Nat→Prop} (h:xC w lo nb A c nt s) (ht:ak M w w') (hm:∀b,nb≤b→¬M b):xC w' lo nb A c nt s :=
 ⟨ht.own h.own (fun k hk=>hm k (by obtain ⟨_,_,h3⟩:=iA h.own k hk; have:=h.low; omega)),ht.bk h.box (hm nb (Nat.le_refl _)),h.low,h.signs⟩
theorem xC.le {w:World} {lo nb:Nat} {A:Option Addr} {c:Nat} {nt:Bool} {s:Sg} (h:xC w lo nb A c nt s):s.length≤c:=by
 rcases h.own.2 with ⟨h1,h2⟩ | ⟨g,cap,cur,h1,_,_,h3,_⟩
 ·omega
 ·injection h1 with _ _ h1; omega
theorem Qg {w:World} {p:Nat} {r:PR} (h:aT w p r):(-2147483648≤(dG r).1.1∧(dG r).1.1≤2147483647)∧ -2147483648≤(dG r).1.2∧(dG r).1.2≤2147483647:=by
 have key:∀(q:PR),Runes q.left→(-2147483648≤q.next.1∧q.next.1≤2147483647)∧Runes q.next.2.left:=by
  intro q hq
  unfold PR.next
  cases e:q.left with
  | nil=>exact ⟨⟨(by decide:(-2147483648:Int)≤0),(by decide:(0:Int)≤2147483647)⟩,fun _ h=>by cases h⟩
  | cons s l=>exact ⟨hq s (by rw [e]; exact List.mem_cons_self),fun x hx=>hq x (by rw [e]; exact List.mem_cons_of_mem _ hx)⟩
 have key2:∀(q:PR),Runes q.left→(-2147483648≤(bG q).1∧(bG q).1≤2147483647)∧Runes (bG q).2.left:=by
  intro q hq
  have h1:=key q hq
  unfold bG
  split
  ·exact key _ h1.2
  ·exact h1
 have h1:=key2 r h.signs
 have h2:Runes ((bG r).2.need 45).left:=by
  unfold PR.need
  split
  ·exact AR h1.2
  ·intro x hx; cases hx
 have h3:=key2 _ h2
 unfold dG
 dsimp only
 split
 ·split<;>exact ⟨h1.1,h3.1⟩
 ·exact ⟨h1.1,h1.1⟩
theorem Nj (a b:Sg):aN (a++b)=aN a++aN b:=by unfold aN; rw [List.flatMap_append]
theorem Tc (p:Nat) (r:PR) (w:World) (h:aT w p r):Calls Tryz.prog 215 #[.pointer (some ⟨p,0,none⟩)] w fun e w'=>dA p (fun _=>False) (pV r).1 (pV r).2 w e w':=by
 obtain ⟨w1,hw1,e1⟩:=pY h
 have hl6:r.left.length≤1000000:=by obtain ⟨A,n,c,_,h2,_,h4⟩:=h.ex; have:=h2.len; simp [bI] at this; omega
 have TW:=Lib.hid (qX p r 94 w1 e1.rd)
 obtain ⟨nt,hnt⟩:∃b,r.sees 94=b:=⟨_,rfl⟩
 obtain ⟨r0,hr0⟩:∃r0,(if r.sees 94 then r.tail else r)=r0:=⟨_,rfl⟩
 have hlen:r0.left.length≤r.left.length:=by
  rw [←hr0]
  split
  ·have:=fU ‹_›; omega
  ·exact Nat.le_refl _
 unfold pV
 rw [hr0]
 unfold uP
 dsimp only
 obtain ⟨FL,hFL⟩:∃l,(aS setSt (setMu r0) r0).1=l:=⟨_,rfl⟩
 obtain ⟨FR,hFR⟩:∃r,(aS setSt (setMu r0) r0).2=r:=⟨_,rfl⟩
 have e0:aS setSt (setMu r0) r0=(FL,FR):=by rw [←hFL,←hFR]
 rw [e0]
 dsimp only
 obtain ⟨X,hX⟩:∃X:Sg×PR,(if FR.broken then (FL,FR) else (FL,FR.tail))=X:=⟨_,rfl⟩
 rw [hX]
 obtain ⟨Y,hY⟩:∃Y:PR,(if X.1.isEmpty then PR.none else X.2)=Y:=⟨_,rfl⟩
 rw [hY,hnt]
 have HX:=Lib.hid hX
 have HY:=Lib.hid hY
 have FF:=Lib.hid (And.intro hFL hFR)
 have NN:=Lib.hid (show r0.left.length≤1000000 by omega)
 have TT:=Lib.hid (show ∀e w',Taken p r 94 w1 e w'→e=.returned (.bool nt)∧aT w' p r0∧ak (· = p) w1 w' from fun e w' ⟨h1,h2,h3⟩=>⟨by rw [h1,hnt],by rw [hr0] at h2; exact h2,h3⟩)
 have E1:=Lib.hid e1
 obtain ⟨i0,hi,hz0,hz1,hz2⟩:=info_parts Vs
 clear e1 h hl6 hnt hr0 hlen hFL hFR e0 hX hY
 go_enter Tryz.func215,Tryz.ntmps215
 go_wp2_with fail
 refine TW.out.mono ?_
 intro e w2 ht
 obtain ⟨rfl,h2,t2⟩:=TT.out e w2 ht
 have E2:=Lib.hid (E1.out.step h2 t2)
 obtain ⟨w3,hw3,k3,b3,z3⟩:=dL w2 2 none 0 0 nt none 0 0 0 0
 have E3:=Lib.hid (E2.out.below b3)
 obtain ⟨nb,hnb⟩:∃b,w2.heap.size=b:=⟨_,rfl⟩
 have HN:=Lib.hid hnb
 rw [hnb] at k3
 have S3:=Lib.hid (show xC w3 (nb+1) nb none 0 nt [] from ⟨World.ownsRow_nil _ _ _ _,k3,Nat.lt_succ_self _,fun _ h=>by cases h⟩)
 have LB:=Lib.hid (show w.heap.size<nb∧p<w.heap.size from by have:=E2.out.kr.lt; have:=E2.out.lt; omega)
 have HW3:=Lib.hid hw3
 clear ht h2 t2 b3 k3 z3 TW TT hw3 hnb
 go_wp2_with fail
 rw [HN.out]
 first
  | rw [HW3.out]
  | (change Code.wp _ _ _ _ (w2.alloc (.cells #[.int .i64 2,.slice none 0 0,.bool nt,.slice none 0 0,.int .i64 0,.int .i64 0] 29)); rw [HW3.out])
 go_loopg [] (setMu r0) (fun k wr=>∃(L:Sg) (r':PR) (A:Option Addr) (c:Nat),k=setMu r'∧Hid (xC wr (nb+1) nb A c nt L)∧Hid (kN p w.heap.size w wr r')∧Hid (L++(aS setSt (setMu r') r').1=FL∧(aS setSt (setMu r') r').2=FR)∧Hid (L.length+setMu r'≤1000001))
 case atStart=>exact ⟨[],r0,none,0,rfl,S3,E3,Lib.hid FF.out,Lib.hid (by have:=NN.out; unfold setMu; simp; split<;>omega)⟩
 case round =>
  obtain ⟨L,r',A,c,hgk,K,E,F,N⟩:=hrel
  clear S3 E3 E2 E1 FF NN hw1
  have HG:=Lib.hid hgk
  obtain ⟨l,b⟩:=r'
  obtain ⟨Ar,nr,cr,hb1,_,_,_⟩:=E.out.rd.ex
  have c1:wr.cell? ⟨p,1,none⟩=some (.bool b):=hb1.get 1
  clear hb1
  obtain ⟨r',hr'⟩:∃r',(⟨l,b⟩:PR)=r':=⟨_,rfl⟩
  have hbr:r'.broken=b:=by rw [←hr']
  rw [hr'] at F E N HG hgk
  clear hr'
  cases b with
  | true =>
   have ST:setSt r'=.none:=by unfold setSt; rw [hbr]; rfl
   have FE:=Lib.hid (show L=FL∧r'=FR from by
    have:=F.out
    rw [gG ST,List.append_nil] at this
    exact this)
   have XE:=Lib.hid (show L=X.1∧r'=X.2 from by rw [←HX.out,←FE.out.1,←FE.out.2,hbr]; exact ⟨rfl,rfl⟩)
   have k1:=K.out.box.at.c1
   by_cases hL:L=[]
   ·subst hL
    have RW:=Lib.hid (gM p r' wr E.out.rd)
    go_wp2_with fail
    refine RW.out.mono ?_
    rintro e w5 ⟨rfl,h5,t5⟩
    have E5:=Lib.hid (E.out.step h5 t5)
    have K5:=Lib.hid (K.out.turned t5 (fun b hb=>by have:=LB.out; omega))
    have YE:=Lib.hid (show PR.none=Y from by rw [←HY.out,←XE.out.1]; rfl)
    have NM:=Lib.hid (show ([]:Sg).length≤2000000 from by simp)
    clear h5 t5 RW k1
    obtain ⟨y0,y1,y2,y3,y4,y5⟩:=aB K5.out.box
    have M:=Lib.hid (show dA p (fun _=>False) (.mk 2 X.1 nt [] 0 0) Y w (.returned (Nv.v ⟨2,A,([]:Sg).length,c,nt,none,0,0,0,0⟩)) (aA w5 w.heap.size 0 ⟨2,A,([]:Sg).length,c,nt,none,0,0,0,0⟩) from by
     rw [←XE.out.1,←YE.out]
     refine E5.out.done (okr:=fun b=>nb+1≤b) ?_ (fun b hb _=>by have:=LB.out; omega)
     rw [gq]
     have ho:=K5.out.own
     exact ⟨rfl,rfl,rfl,rfl,[],⟨⟨ho.1,fun hn=>by
      rcases ho.2 with ⟨_,h0⟩ | ⟨g,cap,cur,hv,hg,hc,hnc,_,_,htk⟩
      ·exact absurd (show 0<([]:Sg).length from hn) (by omega)
      ·injection hv with hv
       subst hv
       refine ⟨g,0,rfl,hg,(Array.getElem?_eq_some_iff.1 hc).1,fun j u hu=> ?_⟩
       rw [cell_of_row w5 g (0+j) cur _ (0,0) hc,Nat.zero_add]
       rw [←htk,List.getElem?_take] at hu
       split at hu
       ·simpa using hu
       ·cases hu⟩,K5.out.le,NM.out,fF.nothing _ _ _ _,Nat.le_refl _,Nat.zero_le _,rfl,rfl,K5.out.signs,⟨(by decide:(-9223372036854775808:Int)≤0),(by decide:(0:Int)≤9223372036854775807)⟩,(by decide:(-9223372036854775808:Int)≤0),(by decide:(0:Int)≤9223372036854775807)⟩,by rw [dn]⟩)
    obtain ⟨⟨m0,o0⟩,⟨m1,o1⟩,⟨m2,o2⟩,⟨m3,o3⟩,⟨m4,o4⟩,⟨m5,o5⟩,f0,f1,f2,f3,f4,f5⟩:=bE (o:=0) E5.out.kr (by simp)
    go_wp2_with fail
    have PN:=aQ E5.out.kr ⟨2,A,([]:Sg).length,c,nt,none,0,0,0,0⟩
    change bodyPost _ _ _ _ _ (aA w5 w.heap.size 0 ⟨2,A,([]:Sg).length,c,nt,none,0,0,0,0⟩)
    generalize aA w5 w.heap.size 0 ⟨2,A,([]:Sg).length,c,nt,none,0,0,0,0⟩=W at PN M ⊢
    obtain ⟨p0,p1,p2,p3,p4,p5⟩:=aB PN
    exact bodyPost_ret (by simp [results,Tryz.results215,go_sem,p0,p1,p2,p3,p4,p5]<;>rfl) rfl M.out
   ·have hz:((L.length:Int) == 0)=false:=by
     have:=List.length_pos_iff.2 hL
     simp
     exact hL
    have K5:=Lib.hid K.out
    have E5:=Lib.hid E.out
    have YE:=Lib.hid (show r'=Y from by rw [←HY.out,←XE.out.1,←XE.out.2,if_neg (by simpa using hL)])
    have NM:=Lib.hid (show L.length≤2000000 from by have:=N.out; omega)
    clear k1
    obtain ⟨y0,y1,y2,y3,y4,y5⟩:=aB K5.out.box
    have M:=Lib.hid (show dA p (fun _=>False) (.mk 2 X.1 nt [] 0 0) Y w (.returned (Nv.v ⟨2,A,L.length,c,nt,none,0,0,0,0⟩)) (aA wr w.heap.size 0 ⟨2,A,L.length,c,nt,none,0,0,0,0⟩) from by
     rw [←XE.out.1,←YE.out]
     refine E5.out.done (okr:=fun b=>nb+1≤b) ?_ (fun b hb _=>by have:=LB.out; omega)
     rw [gq]
     have ho:=K5.out.own
     exact ⟨rfl,rfl,rfl,rfl,[],⟨⟨ho.1,fun hn=>by
      rcases ho.2 with ⟨_,h0⟩ | ⟨g,cap,cur,hv,hg,hc,hnc,_,_,htk⟩
      ·exact absurd (show 0<L.length from hn) (by omega)
      ·injection hv with hv
       subst hv
       refine ⟨g,0,rfl,hg,(Array.getElem?_eq_some_iff.1 hc).1,fun j u hu=> ?_⟩
       rw [cell_of_row wr g (0+j) cur _ (0,0) hc,Nat.zero_add]
       rw [←htk,List.getElem?_take] at hu
       split at hu
       ·simpa using hu
       ·cases hu⟩,K5.out.le,NM.out,fF.nothing _ _ _ _,Nat.le_refl _,Nat.zero_le _,rfl,rfl,K5.out.signs,⟨(by decide:(-9223372036854775808:Int)≤0),(by decide:(0:Int)≤9223372036854775807)⟩,(by decide:(-9223372036854775808:Int)≤0),(by decide:(0:Int)≤9223372036854775807)⟩,by rw [dn]⟩)
    obtain ⟨⟨m0,o0⟩,⟨m1,o1⟩,⟨m2,o2⟩,⟨m3,o3⟩,⟨m4,o4⟩,⟨m5,o5⟩,f0,f1,f2,f3,f4,f5⟩:=bE (o:=0) E5.out.kr (by simp)
    go_wp2_with fail
    have PN:=aQ E5.out.kr ⟨2,A,L.length,c,nt,none,0,0,0,0⟩
    change bodyPost _ _ _ _ _ (aA wr w.heap.size 0 ⟨2,A,L.length,c,nt,none,0,0,0,0⟩)
    generalize aA wr w.heap.size 0 ⟨2,A,L.length,c,nt,none,0,0,0,0⟩=W at PN M ⊢
    obtain ⟨p0,p1,p2,p3,p4,p5⟩:=aB PN
    exact bodyPost_ret (by simp [results,Tryz.results215,go_sem,p0,p1,p2,p3,p4,p5]<;>rfl) rfl M.out
  | false =>
   cases n93:r'.sees 93 with
   | true =>
    have ST:setSt r'=.none:=by unfold setSt; rw [hbr,n93]; rfl
    have FE:=Lib.hid (show L=FL∧r'=FR from by
     have:=F.out
     rw [gG ST,List.append_nil] at this
     exact this)
    have TW:=Lib.hid (iP E.out.rd n93)
    go_wp2_with fail
    refine TW.out.mono ?_
    rintro e w4 ⟨rfl,h4,t4⟩
    have K4:=Lib.hid (K.out.turned t4 (fun b hb=>by have:=LB.out; omega))
    have E4:=Lib.hid (E.out.step h4 t4)
    clear K E h4 t4 TW c1
    have K:=K4
    have E:=E4
    clear K4 E4
    have XE:=Lib.hid (show L=X.1∧r'.tail=X.2 from by rw [←HX.out,←FE.out.1,←FE.out.2,hbr]; exact ⟨rfl,rfl⟩)
    have k1:=K.out.box.at.c1
    by_cases hL:L=[]
    ·subst hL
     have RW:=Lib.hid (gM p r'.tail w4 E.out.rd)
     go_wp2_with fail
     refine RW.out.mono ?_
     rintro e w5 ⟨rfl,h5,t5⟩
     have E5:=Lib.hid (E.out.step h5 t5)
     have K5:=Lib.hid (K.out.turned t5 (fun b hb=>by have:=LB.out; omega))
     have YE:=Lib.hid (show PR.none=Y from by rw [←HY.out,←XE.out.1]; rfl)
     have NM:=Lib.hid (show ([]:Sg).length≤2000000 from by simp)
     clear h5 t5 RW k1
     obtain ⟨y0,y1,y2,y3,y4,y5⟩:=aB K5.out.box
     have M:=Lib.hid (show dA p (fun _=>False) (.mk 2 X.1 nt [] 0 0) Y w (.returned (Nv.v ⟨2,A,([]:Sg).length,c,nt,none,0,0,0,0⟩)) (aA w5 w.heap.size 0 ⟨2,A,([]:Sg).length,c,nt,none,0,0,0,0⟩) from by
      rw [←XE.out.1,←YE.out]
      refine E5.out.done (okr:=fun b=>nb+1≤b) ?_ (fun b hb _=>by have:=LB.out; omega)
      rw [gq]
      have ho:=K5.out.own
      exact ⟨rfl,rfl,rfl,rfl,[],⟨⟨ho.1,fun hn=>by
       rcases ho.2 with ⟨_,h0⟩ | ⟨g,cap,cur,hv,hg,hc,hnc,_,_,htk⟩
       ·exact absurd (show 0<([]:Sg).length from hn) (by omega)
       ·injection hv with hv
        subst hv
        refine ⟨g,0,rfl,hg,(Array.getElem?_eq_some_iff.1 hc).1,fun j u hu=> ?_⟩
        rw [cell_of_row w5 g (0+j) cur _ (0,0) hc,Nat.zero_add]
        rw [←htk,List.getElem?_take] at hu
        split at hu
        ·simpa using hu
        ·cases hu⟩,K5.out.le,NM.out,fF.nothing _ _ _ _,Nat.le_refl _,Nat.zero_le _,rfl,rfl,K5.out.signs,⟨(by decide:(-9223372036854775808:Int)≤0),(by decide:(0:Int)≤9223372036854775807)⟩,(by decide:(-9223372036854775808:Int)≤0),(by decide:(0:Int)≤9223372036854775807)⟩,by rw [dn]⟩)
     obtain ⟨⟨m0,o0⟩,⟨m1,o1⟩,⟨m2,o2⟩,⟨m3,o3⟩,⟨m4,o4⟩,⟨m5,o5⟩,f0,f1,f2,f3,f4,f5⟩:=bE (o:=0) E5.out.kr (by simp)
     go_wp2_with fail
     have PN:=aQ E5.out.kr ⟨2,A,([]:Sg).length,c,nt,none,0,0,0,0⟩
     change bodyPost _ _ _ _ _ (aA w5 w.heap.size 0 ⟨2,A,([]:Sg).length,c,nt,none,0,0,0,0⟩)
     generalize aA w5 w.heap.size 0 ⟨2,A,([]:Sg).length,c,nt,none,0,0,0,0⟩=W at PN M ⊢
     obtain ⟨p0,p1,p2,p3,p4,p5⟩:=aB PN
     exact bodyPost_ret (by simp [results,Tryz.results215,go_sem,p0,p1,p2,p3,p4,p5]<;>rfl) rfl M.out
    ·have hz:((L.length:Int) == 0)=false:=by
      have:=List.length_pos_iff.2 hL
      simp
      exact hL
     have K5:=Lib.hid K.out
     have E5:=Lib.hid E.out
     have YE:=Lib.hid (show r'.tail=Y from by rw [←HY.out,←XE.out.1,←XE.out.2,if_neg (by simpa using hL)])
     have NM:=Lib.hid (show L.length≤2000000 from by have:=N.out; omega)
     clear k1
     obtain ⟨y0,y1,y2,y3,y4,y5⟩:=aB K5.out.box
     have M:=Lib.hid (show dA p (fun _=>False) (.mk 2 X.1 nt [] 0 0) Y w (.returned (Nv.v ⟨2,A,L.length,c,nt,none,0,0,0,0⟩)) (aA w4 w.heap.size 0 ⟨2,A,L.length,c,nt,none,0,0,0,0⟩) from by
      rw [←XE.out.1,←YE.out]
      refine E5.out.done (okr:=fun b=>nb+1≤b) ?_ (fun b hb _=>by have:=LB.out; omega)
      rw [gq]
      have ho:=K5.out.own
      exact ⟨rfl,rfl,rfl,rfl,[],⟨⟨ho.1,fun hn=>by
       rcases ho.2 with ⟨_,h0⟩ | ⟨g,cap,cur,hv,hg,hc,hnc,_,_,htk⟩
       ·exact absurd (show 0<L.length from hn) (by omega)
       ·injection hv with hv
        subst hv
        refine ⟨g,0,rfl,hg,(Array.getElem?_eq_some_iff.1 hc).1,fun j u hu=> ?_⟩
        rw [cell_of_row w4 g (0+j) cur _ (0,0) hc,Nat.zero_add]
        rw [←htk,List.getElem?_take] at hu
        split at hu
        ·simpa using hu
        ·cases hu⟩,K5.out.le,NM.out,fF.nothing _ _ _ _,Nat.le_refl _,Nat.zero_le _,rfl,rfl,K5.out.signs,⟨(by decide:(-9223372036854775808:Int)≤0),(by decide:(0:Int)≤9223372036854775807)⟩,(by decide:(-9223372036854775808:Int)≤0),(by decide:(0:Int)≤9223372036854775807)⟩,by rw [dn]⟩)
     obtain ⟨⟨m0,o0⟩,⟨m1,o1⟩,⟨m2,o2⟩,⟨m3,o3⟩,⟨m4,o4⟩,⟨m5,o5⟩,f0,f1,f2,f3,f4,f5⟩:=bE (o:=0) E5.out.kr (by simp)
     go_wp2_with fail
     have PN:=aQ E5.out.kr ⟨2,A,L.length,c,nt,none,0,0,0,0⟩
     change bodyPost _ _ _ _ _ (aA w4 w.heap.size 0 ⟨2,A,L.length,c,nt,none,0,0,0,0⟩)
     generalize aA w4 w.heap.size 0 ⟨2,A,L.length,c,nt,none,0,0,0,0⟩=W at PN M ⊢
     obtain ⟨p0,p1,p2,p3,p4,p5⟩:=aB PN
     exact bodyPost_ret (by simp [results,Tryz.results215,go_sem,p0,p1,p2,p3,p4,p5]<;>rfl) rfl M.out
   | false =>
    obtain ⟨a,ha⟩:∃a,(dG r').1.1=a:=⟨_,rfl⟩
    obtain ⟨b,hb⟩:∃b,(dG r').1.2=b:=⟨_,rfl⟩
    obtain ⟨r2,hr2⟩:∃r2,(dG r').2=r2:=⟨_,rfl⟩
    have ST:=Lib.hid (show setSt r'=.some ((a,b),r2) from by unfold setSt; rw [hbr,n93,←ha,←hb,←hr2]; rfl)
    have SG:=Lib.hid (show ∀W,aT W p r'→Calls Tryz.prog 263 #[.pointer (some ⟨p,0,none⟩)] W fun e w'=>fJ p (.agg #[.int .i32 a,.int .i32 b]) r2 W e w' from fun W hW=>by have:=uY p r' W hW; rw [ha,hb,hr2] at this; exact this)
    have SI:=Lib.hid (show (-2147483648≤a∧a≤2147483647)∧ -2147483648≤b∧b≤2147483647 from by have:=Qg E.out.rd; rw [ha,hb] at this; exact this)
    have TW:=Lib.hid (eO E.out.rd n93)
    clear ha hb hr2
    go_wp2_with fail
    refine TW.out.mono ?_
    rintro e w4 ⟨rfl,h4,t4⟩
    have K4:=Lib.hid (K.out.turned t4 (fun b hb=>by have:=LB.out; omega))
    have E4:=Lib.hid (E.out.step h4 t4)
    obtain ⟨n,hn⟩:∃n,L.length=n:=⟨_,rfl⟩
    have HLn:=Lib.hid hn
    have FIT:n+1≤maxLen∧(n+1)*8≤140737488355328:=by have:=N.out; unfold maxLen; omega
    have k1:w4.cell? ⟨nb,1,none⟩=some (.slice A n c):=hn ▸ K4.out.box.at.c1
    have k1d:w4.drew.cell? ⟨nb,1,none⟩=some (.slice A n c):=k1
    clear K E h4 t4 TW c1 hn hbr n93
    go_wp2_with fail
    go_upto_region 3 with fail
    go_region_law (first
     | (go_simp; go_at_call 263; refine (SG.out w4.drew (E4.out.rd.turned ((ak.refl (fun _=>False) w4).drew) (fun _ _ x=>x))).mono ?_; rintro e w5 ⟨rfl,h5,t5'⟩; (have t5:ak (· = p) w4 w5:=((ak.refl (· = p) w4).drew).trans t5' (fun _ _ e=>e)); (have K5:=Lib.hid (K4.out.turned t5 (fun b hb=>by have:=LB.out; omega))); (have E5:=Lib.hid (E4.out.step h5 t5)); (have b6:Below w5.heap.size w5 (w5.alloc (.cells #[.int .i32 a,.int .i32 b] 189)):=(Below.refl _ _).alloc (Nat.le_refl _) _); (have K6:=Lib.hid (K5.out.turned (ak.aH b6 fun _=>False) (fun _ _ x=>x))); (have E6:=Lib.hid (E5.out.below b6)); (have k5:w5.cell? ⟨nb,1,none⟩=some (.slice A n c):=HLn.out ▸ K5.out.box.at.c1); (have k6:(w5.alloc (.cells #[.int .i32 a,.int .i32 b] 189)).cell? ⟨nb,1,none⟩=some (.slice A n c):=HLn.out ▸ K6.out.box.at.c1); (have OWN:=Lib.hid (show World.ownsRow (w5.alloc (.cells #[.int .i32 a,.int .i32 b] 189)) (nb+1) 189 2 (.slice A n c) n (aN L) from HLn.out ▸ K6.out.own)); (have SQ:=Lib.hid (sU w5 #[.int .i32 a,.int .i32 b] 189 2 1 rfl).sq); (have BAS:=Lib.hid (show nb+1≤(w5.alloc (.cells #[.int .i32 a,.int .i32 b] 189)).heap.size from K6.out.box.lt)); clear h5 t5 t5' b6)
     | (refine Ta rfl _ _ 26 rfl (nb+1) 189 i0 (.agg #[.int .i32 0,.int .i32 0]) 2 8 Tryz.underlying26 hi hz0 hz1 hz2 rfl (by decide) (.slice A n c) n (aN L) rfl OWN.out (some ⟨w5.heap.size,0,none⟩) 1 1 [.int .i32 a,.int .i32 b] rfl (w5.alloc (.cells #[.int .i32 a,.int .i32 b] 189)).heap.size SQ.out (by intro u hu; simp at hu; rcases hu with rfl | rfl<;>rfl) FIT.1 FIT.2 BAS.out ?_; intro A' c' w7 hown hg ho; (have tg:=ak.jB hg); (have OB:=Lib.hid (show ∀k,(Value.slice A n c).ownBlock=some k→nb+1≤k from fun k e=>(World.ownsRow.lt OWN.out k e).1)); (have E7:=Lib.hid (show kN p w.heap.size w w7 r2 from ⟨E6.out.rd.turned tg (fun k hk e=>by have:=OB.out k e; have:=LB.out; omega),E6.out.aO.trans tg (fun k hk e=>by have:=OB.out k e; have:=LB.out; omega),tg.bk E6.out.kr (fun e=>by have:=OB.out _ e; have:=LB.out; omega),E6.out.lt⟩)); (have B7:=Lib.hid (show aR w7 nb ⟨2,A,n,c,nt,none,0,0,0,0⟩ from tg.bk (HLn.out ▸ K6.out.box) (fun e=>by have:=OB.out _ e; omega))); (have k7:w7.cell? ⟨nb,1,none⟩=some (.slice A n c):=B7.out.at.c1); (have f7:=Bk.free B7.out 1); (have O7:=Lib.hid hown); clear hown hg ho tg))
    all_goals
     obtain ⟨w8,hw8⟩:∃w8,w7.setCell ⟨nb,1,none⟩ (.slice A' (n+1) c')=w8:=⟨_,rfl⟩
     have t8:ak (· = nb) w7 w8:=by rw [←hw8]; exact ak.bR nb 1 w7 _
     have hln:(L++[(a,b)]).length=n+1:=by rw [List.length_append,HLn.out]; rfl
     have S8:=Lib.hid (show xC w8 (nb+1) nb A' c' nt (L++[(a,b)]) from by
      refine ⟨?_,?_,Nat.lt_succ_self _,fun r hr=> ?_⟩
      ·rw [hln,Nj]
       exact t8.own O7.out (fun k hk e=>by have:=(World.ownsRow.lt O7.out k hk).1; omega)
      ·rw [hln,←hw8]
       exact Bk.put B7.out 1 _
      ·rcases List.mem_append.1 hr with hr | hr
       ·exact K6.out.signs r hr
       ·simp at hr; subst hr; exact SI.out)
     have E8:=Lib.hid (show kN p w.heap.size w w8 r2 from by
      have h1:=LB.out
      exact ⟨E7.out.rd.turned t8 (fun k hk e=>by omega),E7.out.aO.trans t8 (fun k hk e=>by omega),t8.bk E7.out.kr (by omega),E7.out.lt⟩)
     have F8:=Lib.hid (show (L++[(a,b)])++(aS setSt (setMu r2) r2).1=FL∧(aS setSt (setMu r2) r2).2=FR from by
      have:=F.out
      rw [uQ Ho ST.out] at this
      exact ⟨by rw [List.append_assoc]; exact this.1,this.2⟩)
     have MU:=Lib.hid (Ho r' (a,b) r2 ST.out)
     have N8:=Lib.hid (show (L++[(a,b)]).length+setMu r2≤1000001 from by
      have h4:=N.out
      have h5:=MU.out
      have h6:=HLn.out
      rw [hln]
      omega)
     rw [hw8]
     clear t8 hln hw8
     go_wp2
     go_roundg (setMu r2)
     case measure=>have h5:=MU.out; have h6:=HG.out; omega
     case rel=>exact ⟨L++[(a,b)],r2,A',c',rfl,S8,E8,F8,N8⟩
end NF
theorem Ib (r:Int):Utf8.encode r=⟨(Lib.encodeRune r).toArray⟩:=by
 by_cases h0:r<0∨1114111<r∨(55296≤r∧r≤57343)
 ·have hv:Utf8.valid r=false:=by
   unfold Utf8.valid
   simp
   omega
  have e:Lib.encodeRune r=[239,191,189]:=by unfold Lib.encodeRune; rw [Lib.encodeRuneZ_bad (by omega)]; rfl
  rw [e]
  unfold Utf8.encode
  rw [hv]
  simp only [Bool.false_eq_true,if_false]
  decide +kernel
 ·obtain ⟨n,rfl⟩:=Int.eq_ofNat_of_zero_le (show 0≤r by omega)
  have hv:Utf8.valid (n:Int)=true:=by
   unfold Utf8.valid
   simp
   omega
  unfold Utf8.encode
  simp only [hv,if_true,Int.toNat_natCast]
  have cast:∀(a:Nat) (b:Int),b=(a:Int)→b.toNat.toUInt8=UInt8.ofNat a:=by rintro a b rfl; rfl
  unfold Lib.encodeRune
  by_cases h1:n<128
  ·rw [if_pos h1,Lib.encodeRuneZ_one (by omega) (by omega)]; rfl
  ·by_cases h2:n<2048
   ·rw [if_neg h1,if_pos h2,Lib.encodeRuneZ_two (by omega) (by omega)]
    simp only [List.map_cons,List.map_nil]
    rw [cast (192+n / 64) _ (by omega),cast (128+n % 64) _ (by omega)]
   ·by_cases h3:n<65536
    ·rw [if_neg h1,if_neg h2,if_pos h3,Lib.encodeRuneZ_three (by omega)]
     simp only [List.map_cons,List.map_nil]
     rw [cast (224+n / 4096) _ (by omega),cast (128+n / 64 % 64) _ (by omega),cast (128+n % 64) _ (by omega)]
    ·rw [if_neg h1,if_neg h2,if_neg h3,Lib.encodeRuneZ_four (by omega) (by omega)]
     simp only [List.map_cons,List.map_nil]
     rw [cast (240+n / 262144) _ (by omega),cast (128+n / 4096 % 64) _ (by omega),cast (128+n / 64 % 64) _ (by omega),cast (128+n % 64) _ (by omega)]
namespace NF
theorem Es {w:World} {k:Nat} {s:ByteArray} {p:Nat} (h:w.heap[k]? = some (.stringIter s p)):w.iterPos k=p:=by simp [World.iterPos,h]
abbrev fM:ByteArray:=⟨#[124,42,43,63,123,125,40,41,91,93,46,94,36,92]⟩
theorem Fu (r:Int) (w:World) (h:r<0∨128≤r) (h1:Lib.validRune r=false):Calls Tryz.prog 205 #[.string { data:= #[124,42,43,63,123,125,40,41,91,93,46,94,36,92] },.int .i32 r] w fun e w'=>e=.returned (.int .i64 (-1))∧Below w.heap.size w w':=by
 have VR:=Lib.hid (Tryz.utf8_ValidRune r w)
 rw [h1] at VR
 have hb:(r == 65533)=false:=by
  simp only [beq_eq_false_iff_ne]
  rintro rfl
  simp [Lib.validRune] at h1
 clear h1
 by_cases h0:r<0
 ·have h2:¬(0:Int)≤r:=by omega
  clear h
  go_enter Tryz.func205,Tryz.ntmps205
  go_wp2_with fail
  refine VR.out.mono ?_
  rintro e w' ⟨rfl,rfl⟩
  clear VR
  go_wp2
  go_ret
  exact ⟨rfl,Below.refl _ _⟩
 ·have h2:(0:Int)≤r:=by omega
  have h3:¬r<128:=by omega
  clear h
  go_enter Tryz.func205,Tryz.ntmps205
  go_wp2_with fail
  refine VR.out.mono ?_
  rintro e w' ⟨rfl,rfl⟩
  clear VR
  go_wp2
  go_ret
  exact ⟨rfl,Below.refl _ _⟩
theorem Nk:fM.size=14:=rfl
theorem Et:∀k:Nat,(hk:k<fM.size)→(fM[k]'hk).toNat<128:=by
 intro k hk
 have:k<14:=hk
 match k,this with
 | 0,_=>exact (show (124:UInt8).toNat<128 from by decide)
 | 1,_=>exact (show (42:UInt8).toNat<128 from by decide)
 | 2,_=>exact (show (43:UInt8).toNat<128 from by decide)
 | 3,_=>exact (show (63:UInt8).toNat<128 from by decide)
 | 4,_=>exact (show (123:UInt8).toNat<128 from by decide)
 | 5,_=>exact (show (125:UInt8).toNat<128 from by decide)
 | 6,_=>exact (show (40:UInt8).toNat<128 from by decide)
 | 7,_=>exact (show (41:UInt8).toNat<128 from by decide)
 | 8,_=>exact (show (91:UInt8).toNat<128 from by decide)
 | 9,_=>exact (show (93:UInt8).toNat<128 from by decide)
 | 10,_=>exact (show (46:UInt8).toNat<128 from by decide)
 | 11,_=>exact (show (94:UInt8).toNat<128 from by decide)
 | 12,_=>exact (show (36:UInt8).toNat<128 from by decide)
 | 13,_=>exact (show (92:UInt8).toNat<128 from by decide)
theorem Fv (w:World):Calls Tryz.prog 205 #[.string { data:= #[124,42,43,63,123,125,40,41,91,93,46,94,36,92] },.int .i32 65533] w fun e w'=>e=.returned (.int .i64 (-1))∧Below w.heap.size w w':=by
 obtain ⟨it,hit⟩:∃it,w.heap.size=it:=⟨_,rfl⟩
 obtain ⟨w2,hw2⟩:∃w2,w.iter ⟨#[124,42,43,63,123,125,40,41,91,93,46,94,36,92]⟩ 0=w2:=⟨_,rfl⟩
 have L0:=Lib.hid (show w2.heap[it]? = some (.stringIter fM 0)∧Below w.heap.size w w2 from by
  have hh:=World.iter_heap w fM 0
  rw [show w.iter fM 0=w2 from hw2,hit] at hh
  exact ⟨hh,by rw [←hw2]; exact (Below.refl _ _).alloc (Nat.le_refl _) _⟩)
 have HIT:=Lib.hid hit
 have HW:=Lib.hid hw2
 clear hit hw2
 go_enter Tryz.func205,Tryz.ntmps205
 go_wp2_with fail
 rw [HIT.out]
 change Code.wp _ _ _ _ (w.iter ⟨#[124,42,43,63,123,125,40,41,91,93,46,94,36,92]⟩ 0)
 rw [HW.out]
 clear HW
 go_loopw [5,6] (fun _ _ wr=>∃k:Nat,k≤14∧Hid (wr.heap[it]? = some (.stringIter fM k)∧Below w.heap.size w wr)) (fun _ _ wr=>14 - wr.iterPos it)
 case atStart=>exact ⟨0,Nat.zero_le _,L0⟩
 case round =>
  obtain ⟨k,hk,LR⟩:=hrel
  clear L0
  have hpos:wr.iterPos it=k:=Es LR.out.1
  by_cases hlt:k<14
  ·have hks:k<fM.size:=hlt
   have hlow:=Et k hks
   have hnx0:=fun ty=>Lib.run_next_ascii_at (P:=Tryz.prog) wr it fM k ty LR.out.1 hks hlow
   obtain ⟨r,hr⟩:∃r,(fM[k]'hks).toNat=r:=⟨_,rfl⟩
   rw [hr] at hnx0 hlow
   have hb:((r:Int) == 65533)=false:=by simp; omega
   have N1:=Lib.hid (show (wr.iterAt it fM (k+1)).heap[it]? = some (.stringIter fM (k+1))∧Below w.heap.size w (wr.iterAt it fM (k+1)) from by
    have T1:ak (· = it) wr (wr.iterAt it fM (k+1)):=⟨rfl,rfl,rfl,by rw [Lib.iterAt_size]; exact Nat.le_refl _,fun j _ hj=>Lib.iterAt_other wr it j fM (k+1) hj⟩
    exact ⟨Lib.iterAt_heap wr it fM k (k+1) LR.out.1,LR.out.2.trans (T1.toBelow LR.out.2.size (fun j hj m=>by have:=HIT.out; omega))⟩)
   obtain ⟨w3,hw3⟩:∃w3,wr.iterAt it fM (k+1)=w3:=⟨_,rfl⟩
   rw [hw3] at hnx0 N1
   have hpos3:w3.iterPos it=k+1:=Es N1.out.1
   clear LR hw3 hr hlow
   go_wp2
   go_roundw
   case rel=>exact ⟨k+1,by omega,N1⟩
   case measure=>rw [hpos,hpos3]; omega
  ·obtain rfl:k=14:=by omega
   have hnx0:=fun ty=>Lib.run_next_end_at (P:=Tryz.prog) wr it fM 14 ty LR.out.1 (by rw [Nk]; omega)
   clear hpos
   go_wp2
   go_ret
   exact ⟨rfl,LR.out.2⟩
theorem Kc (r:Int) (h:128≤r) (hv:Lib.validRune r=true):∃(S:ByteArray) (m:Nat) (b:UInt8),Utf8.encode r=S∧S.size=m+1∧m≤3∧1≤m∧S.data[m]? = some b∧128≤b.toNat:=by
 have hr:(0≤r∧r<0xD800)∨(0xDFFF<r∧r≤0x10FFFF):=by simpa [Lib.validRune] using hv
 have last:∀x:Int,128≤x→x≤191→128≤(UInt8.ofNat x.toNat).toNat:=by
  intro x h1 h2
  have e:(UInt8.ofNat x.toNat).toNat=x.toNat % 256:=UInt8.toNat_ofNat'
  omega
 rw [Ib]
 unfold Lib.encodeRune
 by_cases h1:r<2048
 ·rw [Lib.encodeRuneZ_two (by omega) (by omega)]
  exact ⟨_,1,_,rfl,rfl,by omega,by omega,rfl,last _ (by omega) (by omega)⟩
 ·by_cases h2:r<65536
  ·rw [Lib.encodeRuneZ_three (by omega)]
   exact ⟨_,2,_,rfl,rfl,by omega,by omega,rfl,last _ (by omega) (by omega)⟩
  ·rw [Lib.encodeRuneZ_four (by omega) (by omega)]
   exact ⟨_,3,_,rfl,rfl,by omega,by omega,rfl,last _ (by omega) (by omega)⟩
theorem sW:∀(l:List UInt8) (c:UInt8),(∀b∈l,b.toNat<128)→128≤c.toNat→Lib.indexByte l c = -1
 | [],_,_,_=>rfl
 | b::l,c,h,hc=>by
  have ih:=sW l c (fun x hx=>h x (List.mem_cons_of_mem _ hx)) hc
  have hb:=h b (List.mem_cons_self ..)
  have hne:(b == c)=false:=by
   simp only [beq_eq_false_iff_ne]
   rintro rfl
   omega
  rw [Lib.indexByte,hne,ih]
  rfl
theorem Td (i j:Nat):∀b∈(fM.extract i j).data.toList,b.toNat<128:=by
 intro b hb
 rw [ByteArray.data_extract,Array.toList_extract] at hb
 have h2:b∈fM.data.toList:=List.mem_of_mem_drop (List.mem_of_mem_take hb)
 simp at h2
 rcases h2 with rfl | rfl | rfl | rfl | rfl | rfl | rfl | rfl | rfl | rfl | rfl | rfl | rfl | rfl<;>decide
theorem CX (r:Int) (w:World) (h:128≤r) (h1:Lib.validRune r=true) (h2:r≠65533):Calls Tryz.prog 205 #[.string { data:= #[124,42,43,63,123,125,40,41,91,93,46,94,36,92] },.int .i32 r] w fun e w'=>e=.returned (.int .i64 (-1))∧Below w.heap.size w w':=by
 have VR:=Lib.hid (Tryz.utf8_ValidRune r w)
 rw [h1] at VR
 obtain ⟨S,m,b,hS,hm,hm3,hm1,hb,hb8⟩:=Kc r h h1
 have hb0:(r == 65533)=false:=by simpa using h2
 have hcv:∀w,(convert 21 9 (.int .i32 r)).run Tryz.prog w=.ok (.string S) w:=fun w=>by
  rw [←hS]
  go_simp
 have h3:(0:Int)≤r:=by omega
 have h4:¬r<128:=by omega
 clear h h1 h2
 go_enter Tryz.func205,Tryz.ntmps205
 go_wp2_with fail
 refine VR.out.mono ?_
 rintro e w' ⟨rfl,rfl⟩
 clear VR
 have hms:IntKind.i64.wrap ((m:Int)+1 - 1)=(m:Int):=by rw [IntWalk.i64_in _ (by omega)]; omega
 clear hS
 go_wp2_with fail
 go_step3
 go_wp2_with fail
 go_loopw [9] (fun v wr=>v=.int .i64 (m:Int)∧Hid (wr=w')) (fun _ _=>0)
 case atStart=>exact ⟨rfl,Lib.hid rfl⟩
 case round =>
  obtain ⟨rfl,hw⟩:=hrel
  obtain rfl:=hw.out
  clear hw
  have hm8:(m:Int)<14:=by omega
  have hm0:(0:Int)≤(m:Int):=by omega
  have hml:(m:Int)<(m:Int)+1:=by omega
  have hSm:∀h:m<S.size,(S[m]'h).toNat=b.toNat:=fun h=>by
   have e:S.data[m]? = some (S.data[m]'h):=Array.getElem?_eq_getElem h
   rw [e] at hb
   injection hb with hb
   rw [←hb]
   rfl
  obtain ⟨bn,hbn⟩:∃bn,b.toNat=bn:=⟨_,rfl⟩
  have BN:=Lib.hid (show 128≤((bn:Int).toNat.toUInt8).toNat from by
   have:=b.toNat_lt
   have e:((bn:Int).toNat.toUInt8).toNat=bn % 256:=by simp
   rw [e]; omega)
  rw [hbn] at hSm hb8
  have hm7:m<14:=by omega
  obtain ⟨ln,hln⟩:∃ln,((⟨#[124,42,43,63,123,125,40,41,91,93,46,94,36,92]⟩:ByteArray)[m]'hm7).toNat=ln:=⟨_,rfl⟩
  have hlm:∀h:m<(⟨#[124,42,43,63,123,125,40,41,91,93,46,94,36,92]⟩:ByteArray).size,((⟨#[124,42,43,63,123,125,40,41,91,93,46,94,36,92]⟩:ByteArray)[m]'h).toNat=ln:=fun _=>hln
  have hl8:ln<128:=by rw [←hln]; exact Et m hm7
  have hne:((ln:Int) != (bn:Int))=true:=by simp; omega
  clear hb hln
  go_wp2_with fail
  go_step3
  go_wp2_with fail
  go_region
  go_wp2_with fail
  have hs1:IntKind.i64.wrap ((m:Int)+1)=(m:Int)+1:=IntWalk.i64_in _ (by omega)
  have hml8:(m:Int)+1≤14:=by omega
  have hm10:(0:Int)≤(m:Int)+1:=by omega
  have hm18:m+1≤14:=by omega
  have IB:=Lib.hid (fun W:World=>(show Calls Tryz.prog 114 #[.string ((⟨#[124,42,43,63,123,125,40,41,91,93,46,94,36,92]⟩:ByteArray).extract (m+1) 14),.int .u8 (bn:Int)] W fun e w'=>e=.returned (.int .i64 (-1))∧w'=W from by
   refine (Tryz.strings_IndexByte _ (bn:Int) W).mono ?_
   rintro e w' ⟨rfl,rfl⟩
   rw [sW _ _ (Td (m+1) 14) BN.out]
   exact ⟨rfl,rfl⟩))
  go_region_with (go_at_call 114; refine (IB.out _).mono ?_; rintro e w7 ⟨rfl,hw7⟩; rw [hw7])
  all_goals
   go_wp2
   rw [Exit.noGoto_ret]
   go_wp2
   rw [Exit.noGoto_ret]
   go_ret
   exact ⟨rfl,(Below.refl _ _).drew.drew⟩
theorem Fw (r:Int) (w:World) (h:r<0∨128≤r):Calls Tryz.prog 167 #[.string { data:= #[124,42,43,63,123,125,40,41,91,93,46,94,36,92] },.int .i32 r] w fun e w'=>e=.returned (.bool false)∧Below w.heap.size w w':=by
 have IR:=Lib.hid (show Calls Tryz.prog 205 #[.string { data:= #[124,42,43,63,123,125,40,41,91,93,46,94,36,92] },.int .i32 r] w fun e w'=>e=.returned (.int .i64 (-1))∧Below w.heap.size w w' from by
  by_cases h1:Lib.validRune r=true
  ·have h3:128≤r:=by
    have:(0≤r∧r<0xD800)∨(0xDFFF<r∧r≤0x10FFFF):=by simpa [Lib.validRune] using h1
    omega
   by_cases h2:r=65533
   ·subst h2
    exact Fv w
   ·exact CX r w h3 h1 h2
  ·exact Fu r w h (by simpa using h1))
 clear h
 go_enter Tryz.func167,Tryz.ntmps167
 go_wp2_with fail
 refine IR.out.mono ?_
 rintro e w' ⟨rfl,b⟩
 have B:=Lib.hid b
 clear IR b
 go_wp2
 go_ret
 exact ⟨rfl,B.out⟩
def lastB:ByteArray:=⟨#[124,42,43,63,123,125,40,41,91,93,46,94,36,92]⟩
theorem Fx:((List.range 128).all fun k=>decide (0≤Lib.indexByte lastB.data.toList ((k:Int).toNat.toUInt8)) == special (k:Int))=true:=by decide +kernel
theorem Ic (r:Int) (h:r<0∨128≤r):special r=false:=by
 unfold special Hg
 simp
 omega
theorem Ie (r:Int) (w:World):Calls Tryz.prog 167 #[.string { data:= #[124,42,43,63,123,125,40,41,91,93,46,94,36,92] },.int .i32 r] w fun e w'=>e=.returned (.bool (special r))∧Below w.heap.size w w':=by
 by_cases h:0≤r∧r<128
 ·refine (Tryz.strings_ContainsRune_ascii lastB r w h.1 h.2).mono ?_
  rintro e w' ⟨rfl,rfl⟩
  obtain ⟨k,rfl⟩:∃k:Nat,r=(k:Int):=⟨r.toNat,by omega⟩
  have t:=Fx
  rw [List.all_eq_true] at t
  have:=t k (List.mem_range.2 (by omega))
  rw [beq_iff_eq] at this
  rw [this]
  exact ⟨rfl,Below.refl _ _⟩
 ·rw [Ic r (by omega)]
  exact Fw r w (by omega)
end NF
namespace NF
theorem Qh (p:Nat):∀f,pX 175 p (jN f) f:=by
 intro f
 induction f with
 | zero=>exact fun r w h hm=>absurd hm (Nat.not_lt_zero _)
 | succ f ih =>
  intro r w h hm
  have hgood:=nP f
  have AL:=Lib.hid (Ia hgood (H9 hgood (AZ ih)))
  obtain ⟨w1,hw1,e1⟩:=pY h
  have NW:=Lib.hid (nV p r w1 e1.rd)
  have hsi:=uW h
  have hrl:r.next.1=40→r.next.2.left.length<f:=fun h40=>by
   obtain ⟨l,b⟩:=r
   cases l with
   | nil=>simp [PR.next] at h40
   | cons x l=>simp [PR.next] at hm ⊢; omega
  obtain ⟨s,hs⟩:∃s,r.next.1=s:=⟨_,rfl⟩
  obtain ⟨r1,hr1⟩:∃r1,r.next.2=r1:=⟨_,rfl⟩
  unfold jN
  dsimp only
  rw [hs,hr1] at NW hrl ⊢
  rw [hs] at hsi
  have E1:=Lib.hid e1
  clear e1 h hm hs hr1 hgood ih
  by_cases h40:s=40
  ·subst h40
   rw [if_pos rfl]
   have HRL:=Lib.hid (hrl rfl)
   obtain ⟨t,ht⟩:∃t,(mh (jN f) r1).1=t:=⟨_,rfl⟩
   obtain ⟨r2,hr2⟩:∃r2,(mh (jN f) r1).2=r2:=⟨_,rfl⟩
   have AW:=Lib.hid (show ∀wx,aT wx p r1→Calls Tryz.prog 51 #[.pointer (some ⟨p,0,none⟩)] wx fun e w'=>dA p (fun _=>False) t r2 wx e w' from fun wx hx=>by have:=AL.out r1 wx hx HRL.out; rw [ht,hr2] at this; exact this)
   rw [ht,hr2]
   clear ht hr2 hrl hsi AL
   go_enter Tryz.func175,Tryz.ntmps175
   go_wp2_with fail
   refine NW.out.mono ?_
   rintro e w2 ⟨rfl,h2,t2⟩
   have E2:=Lib.hid (E1.out.step h2 t2)
   clear h2 t2 NW
   have AX:=Lib.hid (AW.out _ E2.out.rd)
   go_wp2_with fail
   refine AX.out.mono ?_
   intro e w3 hn
   obtain ⟨x,rfl,hx,h3,t3⟩:=hn.out
   have E3:=Lib.hid (E2.out.step h3 t3)
   obtain ⟨k',A',n',c',nt',A2',n2',c2',mn',mx'⟩:=x
   obtain ⟨w4,hw4,k4,b4,z4⟩:=dL w3 k' A' n' c' nt' A2' n2' c2' mn' mx'
   obtain ⟨nb,hnb⟩:∃b,w3.heap.size=b:=⟨_,rfl⟩
   have HW4:=Lib.hid hw4
   have HNB:=Lib.hid hnb
   have E4:=Lib.hid (E3.out.below b4)
   have hx4:=nN hx b4
   have NW:=Lib.hid (nU p r2 41 w4 E4.out.rd)
   have K4:=Lib.hid (hnb ▸ k4:aR w4 nb ⟨k',A',n',c',nt',A2',n2',c2',mn',mx'⟩)
   have HX:=Lib.hid hx4
   have OLD:=Lib.hid (show w.heap.size+1≤w2.heap.size∧w3.heap.size=nb from ⟨E2.out.kr.lt,hnb⟩)
   dsimp only [Nv.v]
   clear hn hx h3 t3 AX AW hw4 hnb k4 b4 z4 hx4
   go_wp2_with fail
   rw [HNB.out]
   first
    | rw [HW4.out]
    | (change Code.wp _ _ _ _ (w3.alloc (.cells #[.int .i64 k',.slice A' n' c',.bool nt',.slice A2' n2' c2',.int .i64 mn',.int .i64 mx'] 29)); rw [HW4.out])
   go_wp2_with fail
   refine NW.out.mono ?_
   rintro e w5 ⟨rfl,h5,t5⟩
   have E5:=Lib.hid (E4.out.step h5 t5)
   have hpn:¬nb=p:=by have:=E3.out.rd.lt; have:=OLD.out; omega
   have K5:=Lib.hid (t5.bk K4.out hpn)
   have hy:=gH t5 (fun b hb _ e=>by have:=E2.out.rd.lt; omega) HX.out
   obtain ⟨y0,y1,y2,y3,y4,y5⟩:=aB K5.out
   clear h5 t5 NW hpn
   have M:=Lib.hid (show dA p (fun _=>False) t (r2.need 41) w (.returned (Nv.v ⟨k',A',n',c',nt',A2',n2',c2',mn',mx'⟩)) (aA w5 w.heap.size 0 ⟨k',A',n',c',nt',A2',n2',c2',mn',mx'⟩) from E5.out.done hy (fun b hb _=>by have h3:=OLD.out; exact ⟨by omega,by omega⟩))
   clear hy
   obtain ⟨⟨m0,o0⟩,⟨m1,o1⟩,⟨m2,o2⟩,⟨m3,o3⟩,⟨m4,o4⟩,⟨m5,o5⟩,f0,f1,f2,f3,f4,f5⟩:=bE (o:=0) E5.out.kr (by simp)
   try dsimp only [Nv.v]
   go_wp2_with fail
   have PN:=aQ E5.out.kr ⟨k',A',n',c',nt',A2',n2',c2',mn',mx'⟩
   change bodyPost _ _ _ _ _ (aA w5 w.heap.size 0 ⟨k',A',n',c',nt',A2',n2',c2',mn',mx'⟩)
   generalize aA w5 w.heap.size 0 ⟨k',A',n',c',nt',A2',n2',c2',mn',mx'⟩=W at PN M ⊢
   obtain ⟨p0,p1,p2,p3,p4,p5⟩:=aB PN
   exact bodyPost_ret (by simp [results,Tryz.results175,go_sem,p0,p1,p2,p3,p4,p5]<;>rfl) rfl M.out
  ·rw [if_neg h40]
   have n40:(s == 40)=false:=by simp [h40]
   have SI0:=Lib.hid hsi
   clear hrl AL
   by_cases h46:s=46
   ·subst h46
    rw [if_pos rfl]
    clear n40
    go_enter Tryz.func175,Tryz.ntmps175
    go_wp2_with fail
    refine NW.out.mono ?_
    rintro e w2 ⟨rfl,h2,t2⟩
    have E2:=Lib.hid (E1.out.step h2 t2)
    clear h2 t2 NW
    have M:=Lib.hid (show dA p (fun _=>False) (.mk 2 [] true [] 0 0) r1 w (.returned (Nv.v ⟨2,none,0,0,true,none,0,0,0,0⟩)) (aA w2 w.heap.size 0 ⟨2,none,0,0,true,none,0,0,0,0⟩) from E2.out.done (qW _ (fun _=>False) 2 true 0 0 ⟨⟨(by decide:(-9223372036854775808:Int)≤0),(by decide:(0:Int)≤9223372036854775807)⟩,(by decide:(-9223372036854775808:Int)≤0),(by decide:(0:Int)≤9223372036854775807)⟩) (fun b h=>h.elim))
    obtain ⟨⟨m0,o0⟩,⟨m1,o1⟩,⟨m2,o2⟩,⟨m3,o3⟩,⟨m4,o4⟩,⟨m5,o5⟩,f0,f1,f2,f3,f4,f5⟩:=bE (o:=0) E2.out.kr (by simp)
    go_wp2_with fail
    have PN:=aQ E2.out.kr ⟨2,none,0,0,true,none,0,0,0,0⟩
    change bodyPost _ _ _ _ _ (aA w2 w.heap.size 0 ⟨2,none,0,0,true,none,0,0,0,0⟩)
    generalize aA w2 w.heap.size 0 ⟨2,none,0,0,true,none,0,0,0,0⟩=W at PN M ⊢
    obtain ⟨p0,p1,p2,p3,p4,p5⟩:=aB PN
    exact bodyPost_ret (by simp [results,Tryz.results175,go_sem,p0,p1,p2,p3,p4,p5]<;>rfl) rfl M.out
   ·rw [if_neg h46]
    have n46:(s == 46)=false:=by simp [h46]
    by_cases h91:s=91
    ·subst h91
     rw [if_pos rfl]
     clear n40 n46
     obtain ⟨t,ht⟩:∃t,(pV r1).1=t:=⟨_,rfl⟩
     obtain ⟨r2,hr2⟩:∃r2,(pV r1).2=r2:=⟨_,rfl⟩
     have SW:=Lib.hid (show ∀wx,aT wx p r1→Calls Tryz.prog 215 #[.pointer (some ⟨p,0,none⟩)] wx fun e w'=>dA p (fun _=>False) t r2 wx e w' from fun wx hx=>by have:=Tc p r1 wx hx; rw [ht,hr2] at this; exact this)
     rw [ht,hr2]
     clear ht hr2
     go_enter Tryz.func175,Tryz.ntmps175
     go_wp2_with fail
     refine NW.out.mono ?_
     rintro e w2 ⟨rfl,h2,t2⟩
     have E2:=Lib.hid (E1.out.step h2 t2)
     clear h2 t2 NW
     have SX:=Lib.hid (SW.out _ E2.out.rd)
     go_wp2_with fail
     refine SX.out.mono ?_
     intro e w3 hn
     obtain ⟨x,rfl,hy,h3,t3⟩:=hn.out
     have E3:=Lib.hid (E2.out.step h3 t3)
     obtain ⟨k',A',n',c',nt',A2',n2',c2',mn',mx'⟩:=x
     try dsimp only [Nv.v]
     clear hn h3 t3 SX SW
     have M:=Lib.hid (show dA p (fun _=>False) t r2 w (.returned (Nv.v ⟨k',A',n',c',nt',A2',n2',c2',mn',mx'⟩)) (aA w3 w.heap.size 0 ⟨k',A',n',c',nt',A2',n2',c2',mn',mx'⟩) from E3.out.done hy (fun b hb _=>by have h3:=E2.out.kr.lt; exact ⟨by omega,by omega⟩))
     clear hy
     obtain ⟨⟨m0,o0⟩,⟨m1,o1⟩,⟨m2,o2⟩,⟨m3,o3⟩,⟨m4,o4⟩,⟨m5,o5⟩,f0,f1,f2,f3,f4,f5⟩:=bE (o:=0) E3.out.kr (by simp)
     try dsimp only [Nv.v]
     go_wp2_with fail
     have PN:=aQ E3.out.kr ⟨k',A',n',c',nt',A2',n2',c2',mn',mx'⟩
     change bodyPost _ _ _ _ _ (aA w3 w.heap.size 0 ⟨k',A',n',c',nt',A2',n2',c2',mn',mx'⟩)
     generalize aA w3 w.heap.size 0 ⟨k',A',n',c',nt',A2',n2',c2',mn',mx'⟩=W at PN M ⊢
     obtain ⟨p0,p1,p2,p3,p4,p5⟩:=aB PN
     exact bodyPost_ret (by simp [results,Tryz.results175,go_sem,p0,p1,p2,p3,p4,p5]<;>rfl) rfl M.out
    ·rw [if_neg h91]
     have n91:(s == 91)=false:=by simp [h91]
     by_cases h92:s=92
     ·subst h92
      rw [if_pos rfl]
      clear n40 n46 n91
      obtain ⟨q,hq⟩:∃q,r1.next.1=q:=⟨_,rfl⟩
      obtain ⟨r2,hr2⟩:∃r2,r1.next.2=r2:=⟨_,rfl⟩
      have NX:=Lib.hid (show ∀wx,aT wx p r1→Calls Tryz.prog 213 #[.pointer (some ⟨p,0,none⟩)] wx fun e w'=>fJ p (.int .i32 q) r2 wx e w' from fun wx hx=>by have:=nV p r1 wx hx; rw [hq,hr2] at this; exact this)
      have NI:=Lib.hid (show ∀wx,aT wx p r1→ -2147483648≤q∧q≤2147483647 from fun wx hx=>by have:=uW hx; rw [hq] at this; exact this)
      rw [hq,hr2]
      clear hq hr2
      go_enter Tryz.func175,Tryz.ntmps175
      go_wp2_with fail
      refine NW.out.mono ?_
      rintro e w2 ⟨rfl,h2,t2⟩
      have E2:=Lib.hid (E1.out.step h2 t2)
      clear h2 t2 NW
      have NY:=Lib.hid (NX.out _ E2.out.rd)
      have SI:=NI.out _ E2.out.rd
      go_wp2_with fail
      refine NY.out.mono ?_
      rintro e w3 ⟨rfl,h3,t3⟩
      have E3:=Lib.hid (E2.out.step h3 t3)
      clear h3 t3 NY NX NI
      have OW:=Lib.hid (xB q SI w3)
      go_wp2_with fail
      refine OW.out.mono ?_
      rintro e w4 ⟨y,rfl,hy,b5⟩
      have E4:=Lib.hid (E3.out.below b5)
      obtain ⟨k',A',n',c',nt',A2',n2',c2',mn',mx'⟩:=y
      try dsimp only [Nv.v]
      clear b5 OW
      have M:=Lib.hid (show dA p (fun _=>False) (oz q) r2 w (.returned (Nv.v ⟨k',A',n',c',nt',A2',n2',c2',mn',mx'⟩)) (aA w4 w.heap.size 0 ⟨k',A',n',c',nt',A2',n2',c2',mn',mx'⟩) from E4.out.done hy (fun b hb _=>by have h3:=E3.out.kr.lt; exact hb.elim False.elim (fun hb=>⟨by omega,by omega⟩)))
      clear hy
      obtain ⟨⟨m0,o0⟩,⟨m1,o1⟩,⟨m2,o2⟩,⟨m3,o3⟩,⟨m4,o4⟩,⟨m5,o5⟩,f0,f1,f2,f3,f4,f5⟩:=bE (o:=0) E4.out.kr (by simp)
      try dsimp only [Nv.v]
      go_wp2_with fail
      have PN:=aQ E4.out.kr ⟨k',A',n',c',nt',A2',n2',c2',mn',mx'⟩
      change bodyPost _ _ _ _ _ (aA w4 w.heap.size 0 ⟨k',A',n',c',nt',A2',n2',c2',mn',mx'⟩)
      generalize aA w4 w.heap.size 0 ⟨k',A',n',c',nt',A2',n2',c2',mn',mx'⟩=W at PN M ⊢
      obtain ⟨p0,p1,p2,p3,p4,p5⟩:=aB PN
      exact bodyPost_ret (by simp [results,Tryz.results175,go_sem,p0,p1,p2,p3,p4,p5]<;>rfl) rfl M.out
     ·rw [if_neg h92]
      have n92:(s == 92)=false:=by simp [h92]
      have CW:=Lib.hid (fun wx=>Ie s wx)
      cases hsp:special s with
      | true =>
       rw [hsp] at CW
       rw [if_pos rfl]
       go_enter Tryz.func175,Tryz.ntmps175
       go_wp2_with fail
       refine NW.out.mono ?_
       rintro e w2 ⟨rfl,h2,t2⟩
       have E2:=Lib.hid (E1.out.step h2 t2)
       clear h2 t2 NW
       go_wp2_with fail
       refine (CW.out w2).mono ?_
       rintro e w3 ⟨rfl,b3⟩
       have E3:=Lib.hid (E2.out.below b3)
       have RW:=Lib.hid (gM p r1 w3 E3.out.rd)
       clear b3 CW
       go_wp2_with fail
       refine RW.out.mono ?_
       rintro e w4 ⟨rfl,h4,t4⟩
       have E4:=Lib.hid (E3.out.step h4 t4)
       clear h4 t4 RW
       have M:=Lib.hid (show dA p (fun _=>False) M4 .none w (.returned (Nv.v ⟨0,none,0,0,false,none,0,0,0,0⟩)) (aA w4 w.heap.size 0 ⟨0,none,0,0,false,none,0,0,0,0⟩) from E4.out.done (qW _ (fun _=>False) 0 false 0 0 ⟨⟨(by decide:(-9223372036854775808:Int)≤0),(by decide:(0:Int)≤9223372036854775807)⟩,(by decide:(-9223372036854775808:Int)≤0),(by decide:(0:Int)≤9223372036854775807)⟩) (fun b h=>h.elim))
       obtain ⟨⟨m0,o0⟩,⟨m1,o1⟩,⟨m2,o2⟩,⟨m3,o3⟩,⟨m4,o4⟩,⟨m5,o5⟩,f0,f1,f2,f3,f4,f5⟩:=bE (o:=0) E4.out.kr (by simp)
       go_wp2_with fail
       have PN:=aQ E4.out.kr ⟨0,none,0,0,false,none,0,0,0,0⟩
       change bodyPost _ _ _ _ _ (aA w4 w.heap.size 0 ⟨0,none,0,0,false,none,0,0,0,0⟩)
       generalize aA w4 w.heap.size 0 ⟨0,none,0,0,false,none,0,0,0,0⟩=W at PN M ⊢
       obtain ⟨p0,p1,p2,p3,p4,p5⟩:=aB PN
       exact bodyPost_ret (by simp [results,Tryz.results175,go_sem,p0,p1,p2,p3,p4,p5]<;>rfl) rfl M.out
      | false =>
       rw [hsp] at CW
       rw [if_neg (show ¬(false=true) by decide)]
       have SI:=hsi
       go_enter Tryz.func175,Tryz.ntmps175
       go_wp2_with fail
       refine NW.out.mono ?_
       rintro e w2 ⟨rfl,h2,t2⟩
       have E2:=Lib.hid (E1.out.step h2 t2)
       clear h2 t2 NW
       go_wp2_with fail
       refine (CW.out w2).mono ?_
       rintro e w3 ⟨rfl,b3⟩
       have E3:=Lib.hid (E2.out.below b3)
       clear b3 CW
       have OW:=Lib.hid (xB s SI w3)
       go_wp2_with fail
       refine OW.out.mono ?_
       rintro e w4 ⟨y,rfl,hy,b5⟩
       have E4:=Lib.hid (E3.out.below b5)
       obtain ⟨k',A',n',c',nt',A2',n2',c2',mn',mx'⟩:=y
       try dsimp only [Nv.v]
       clear b5 OW
       have M:=Lib.hid (show dA p (fun _=>False) (oz s) r1 w (.returned (Nv.v ⟨k',A',n',c',nt',A2',n2',c2',mn',mx'⟩)) (aA w4 w.heap.size 0 ⟨k',A',n',c',nt',A2',n2',c2',mn',mx'⟩) from E4.out.done hy (fun b hb _=>by have h3:=E3.out.kr.lt; exact hb.elim False.elim (fun hb=>⟨by omega,by omega⟩)))
       clear hy
       obtain ⟨⟨m0,o0⟩,⟨m1,o1⟩,⟨m2,o2⟩,⟨m3,o3⟩,⟨m4,o4⟩,⟨m5,o5⟩,f0,f1,f2,f3,f4,f5⟩:=bE (o:=0) E4.out.kr (by simp)
       try dsimp only [Nv.v]
       go_wp2_with fail
       have PN:=aQ E4.out.kr ⟨k',A',n',c',nt',A2',n2',c2',mn',mx'⟩
       change bodyPost _ _ _ _ _ (aA w4 w.heap.size 0 ⟨k',A',n',c',nt',A2',n2',c2',mn',mx'⟩)
       generalize aA w4 w.heap.size 0 ⟨k',A',n',c',nt',A2',n2',c2',mn',mx'⟩=W at PN M ⊢
       obtain ⟨p0,p1,p2,p3,p4,p5⟩:=aB PN
       exact bodyPost_ret (by simp [results,Tryz.results175,go_sem,p0,p1,p2,p3,p4,p5]<;>rfl) rfl M.out
end NF
end Go.Proofs.YteemnmalikomgaaGreatDoor
namespace Go.Proofs.YteemnmalikomgaaGreatDoor
namespace NF
structure Wt (st:Go.Proofs.YteemnmalikomgaaGreatDoor.St):Prop where
 lo:0<st.waits→128≤st.low∧st.high≤191∧0≤st.sign
 one:0<st.waits→st.missing=1→(st.sign≤863∨896≤st.sign)∧st.sign≤17407
 two:0<st.waits→st.missing=2→st.sign≤271∧(st.sign=13→st.high≤159)
 three:0<st.waits→st.missing=3→st.sign≤4∧(st.sign=0→144≤st.low)∧(st.sign=4→st.high≤143)
theorem Nl:Wt st0:=by constructor<;>simp [st0]
theorem Wz (b:Int) (_h:0≤b):Wt (fQ b):=by
 unfold fQ
 split
 ·exact Nl
 ·split
  ·exact Nl
  ·rename_i h1 h2
   rcases ig b with ⟨_,e⟩ | ⟨_,_,e⟩ | ⟨_,e⟩ | ⟨_,e⟩ | ⟨_,_,_,e⟩ | ⟨_,e⟩ | ⟨_,_,e⟩ | ⟨_,e⟩<;>rw [e] at h2 ⊢
   ·exact absurd rfl h2
   all_goals constructor<;>simp [Go.Proofs.YteemnmalikomgaaGreatDoor.lead]<;>omega
theorem XD (st:Go.Proofs.YteemnmalikomgaaGreatDoor.St) (b:Int) (h:Wt st) (hk:st.ok) (h0:0≤b):Wt (jc st b):=by
 unfold jc
 split
 ·rename_i hg
  obtain ⟨g1,g2,g3⟩:=hg
  obtain ⟨a1,a2,a3⟩:=h.lo g1
  unfold oF
  split
  ·exact Nl
  ·have hb:b % 64=b - 128:=by omega
   rw [hb]
   have b1:=h.two g1
   have b2:=h.three g1
   have b3:=hk.missing
   have b4:=hk.pos g1
   constructor
   ·simp; omega
   ·simp; omega
   ·simp; omega
   ·simp; omega
 ·exact Wz b h0
theorem UJ (r:Int) (h:(0≤r∧r≤55295)∨(57344≤r∧r≤1114111)):bL r=true∨r=65533:=by
 by_cases e:r=65533
 ·exact .inr e
 ·left
  unfold bL
  simp [e]
  omega
theorem Qi (st:Go.Proofs.YteemnmalikomgaaGreatDoor.St):∀r∈brk st,bL r=true∨r=65533:=by
 intro r hr
 unfold brk at hr
 split at hr
 ·cases hr
 ·simp at hr; exact .inr hr
theorem WA (st:Go.Proofs.YteemnmalikomgaaGreatDoor.St) (b:Int) (h:Wt st) (h0:0≤b):∀r∈kL st b,bL r=true∨r=65533:=by
 intro r hr
 unfold kL at hr
 split at hr
 ·rename_i hg
  obtain ⟨g1,g2,g3⟩:=hg
  obtain ⟨a1,a2,a3⟩:=h.lo g1
  unfold qK at hr
  split at hr
  ·rename_i hm
   have:=h.one g1 hm
   simp at hr
   subst hr
   exact UJ _ (by omega)
  ·cases hr
 ·rcases List.mem_append.1 hr with hr | hr
  ·exact Qi st r hr
  ·unfold gW at hr
   split at hr
   ·simp at hr; subst hr; exact UJ _ (by omega)
   ·split at hr
    ·simp at hr; exact .inr hr
    ·cases hr
theorem Qj:∀(l:List Int) (st:Go.Proofs.YteemnmalikomgaaGreatDoor.St),Wt st→st.ok→(∀x∈l,0≤x)→(∀r∈bW st l,bL r=true∨r=65533)
 | [],st,_,_,_=>by intro r hr; cases hr
 | b::l,st,h,hk,hb=>by
  intro r hr
  rw [bW] at hr
  rcases List.mem_append.1 hr with hr | hr
  ·exact WA st b h (hb b (List.mem_cons_self)) r hr
  ·exact Qj l (jc st b) (XD st b h hk (hb b (List.mem_cons_self))) (Wh st b hk (hb b (List.mem_cons_self))) (fun x hx=>hb x (List.mem_cons_of_mem _ hx)) r hr
theorem xD (l:List Int) (h:∀x∈l,0≤x):∀r∈lg l,bL r=true∨r=65533:=by
 intro r hr
 unfold lg at hr
 rcases List.mem_append.1 hr with hr | hr
 ·exact Qj l st0 Nl pG h r hr
 ·exact Qi _ r hr
theorem Te (l:List Int) (h:∀x∈l,0≤x) (hb:(65533:Int) ∉ lg l):∀r∈lg l,bL r=true:=by
 intro r hr
 rcases xD l h r hr with h2 | h2
 ·exact h2
 ·subst h2; exact absurd hr hb
theorem Vt (st:Go.Proofs.YteemnmalikomgaaGreatDoor.St):(brk st).length=if st.waits=0 then 0 else 1:=by unfold brk; split<;>rfl
theorem Tf (st:Go.Proofs.YteemnmalikomgaaGreatDoor.St) (b:Int):(kL st b).length+(brk (jc st b)).length≤1+(brk st).length:=by
 have key:∀c,(gW c).length+(brk (fQ c)).length=1:=by
  intro c
  unfold gW fQ
  split
  ·simp [brk,st0]
  ·split
   ·simp [brk,st0]
   ·simp [brk]
 unfold kL jc
 split
 ·rename_i g
  have hw:(brk st).length=1:=by rw [Vt,if_neg (by have:=g.1; omega)]
  unfold qK oF
  split
  ·simp [brk,st0]
  ·have:st.waits+1≠0:=by have:=g.1; omega
   simp [brk,this]
 ·have:=key b
  rw [List.length_append]
  omega
theorem La:∀(l:List Int) (st:Go.Proofs.YteemnmalikomgaaGreatDoor.St),(bW st l).length+(brk (dF st l)).length≤l.length+(brk st).length
 | [],st=>by simp [bW,dF]
 | b::l,st=>by
  have s:=Tf st b
  have r:=La l (jc st b)
  simp only [bW,dF,List.length_append,List.length_cons]
  omega
theorem Qk (l:List Int):(lg l).length≤l.length:=by
 have r:=La l st0
 have hb:(brk st0).length=0:=by simp [brk,st0]
 unfold lg
 rw [List.length_append]
 omega
end NF
