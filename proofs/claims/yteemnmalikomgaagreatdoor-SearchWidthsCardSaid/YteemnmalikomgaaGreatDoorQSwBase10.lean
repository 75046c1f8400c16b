import Derived.Test.YteemnmalikomgaaGreatDoorQSwBase9
set_option maxRecDepth 100000
set_option maxHeartbeats 6400000
namespace Go.Proofs.YteemnmalikomgaaGreatDoor
open Go.ChangeShapes Go.WideShapes Go.ChangeAt Go.RowKit
namespace NF
def wm (t:Nd):Nat:=min (wt t) 20001
def lu:List Nd→Nat
 | []=>0
 | y::ys=>wm y+lu ys
theorem Gl:∀ks:List Nd,min (lu ks) 20001=min (bf ks) 20001
 | []=>rfl
 | y::ys=>by
  have:=Gl ys
  rw [lu,bf]
  unfold wm
  omega
theorem Co:∀ks:List Nd,lu ks≤20001*ks.length
 | []=>Nat.le_refl _
 | y::ys=>by
  have:=Co ys
  rw [lu,List.length_cons]
  have:wm y≤20001:=Nat.min_le_right _ _
  omega
theorem DZ:∀ {ks:List Nd} {i:Nat} {y:Nd},ks[i]? = some y→lu (ks.take (i+1))=lu (ks.take i)+wm y
 | [],i,y,h=>by simp at h
 | z::zs,0,y,h=>by
  simp at h
  subst h
  simp [lu]
 | z::zs,i+1,y,h=>by
  have:=DZ (ks:=zs) (i:=i) (y:=y) (by simpa using h)
  simp only [List.take_succ_cons,lu] at this ⊢
  omega
theorem min_mul (a m c:Nat) (_hc:0<c):min (min a c*m+1) c=min (a*m+1) c:=by
 by_cases h:a≤c
 ·have e:min a c=a:=Nat.min_eq_left h
  rw [e]
 ·have e:min a c=c:=Nat.min_eq_right (by omega)
  rw [e]
  cases m with
  | zero=>simp
  | succ m =>
   have h1:c≤c*(m+1):=Nat.le_mul_of_pos_right c (by omega)
   have h2:a≤a*(m+1):=Nat.le_mul_of_pos_right a (by omega)
   omega
def yC (k:Int) (mn mx:Int) (S:Nat):Nat:=if k=5 then (if mx<0 then S*(mn.toNat+1)+1 else S*mx.toNat+1) else if k=3 then S else S+1
theorem RY {k:Int} {s:Sg} {nt:Bool} {ks:List Nd} {mn mx:Int} (h:aP k s nt ks.length mn mx=true):min (yC k mn mx (lu ks)) 20001=wm (.mk k s nt ks mn mx):=by
 have h1:=Gl ks
 unfold yC wm
 rw [wt]
 by_cases h5:k=5
 ·subst h5
  have hl:=(lJ h).1
  obtain ⟨y,rfl⟩:=List.length_eq_one_iff.1 hl
  simp only [show ¬((5:Int)=3) by decide,if_true,if_false,lu,bf,Nat.add_zero]
  unfold wm
  by_cases hx:mx<0
  ·simp only [hx,if_true]
   exact min_mul _ _ _ (by omega)
  ·simp only [hx,if_false]
   exact min_mul _ _ _ (by omega)
 ·by_cases h3:k=3
  ·subst h3
   simp only [show ¬((3:Int)=5) by decide,if_true,if_false]
   exact h1
  ·simp only [h5,h3,if_false]
   omega
theorem yD:∀ {ks:List Nd} {i:Nat} {y:Nd},aW ks=true→ks[i]? = some y→may y=true
 | [],i,y,_,h=>by simp at h
 | z::zs,0,y,hm,h=>by
  simp at h
  subst h
  rw [aW,Bool.and_eq_true] at hm
  exact hm.1
 | z::zs,i+1,y,hm,h=>by
  rw [aW,Bool.and_eq_true] at hm
  exact yD hm.2 (by simpa using h)
theorem uz:∀ {ks:List Nd} {i:Nat} {y:Nd},ks[i]? = some y→deep y≤dI ks:=fun h=>(zA h).2.2.1
theorem JB:∀(fuel:Nat) (t:Nd) (x:Nv) (lo B:Nat) (w:World),deep t≤fuel→may t=true→B≤w.heap.size→bQ w lo B t x →
  Calls Tryz.prog 52 #[x.v] w fun e w'=>e=.returned (.int .i64 (wm t:Int))∧Below w.heap.size w w':=by
 intro fuel
 induction fuel with
 | zero =>
  intro t x lo B w hf
  cases t
  rw [deep] at hf
  omega
 | succ fuel ih =>
  intro t x lo B w hf hmay hBw hx
  obtain ⟨k0,s0,nt0,ks,mn0,mx0⟩:=t
  rw [bQ] at hx
  obtain ⟨e1,e2,e3,e4,xs,ho,hk⟩:=hx
  obtain ⟨k,A,n,c,nt,A2,n2,c2,mn,mx⟩:=x
  dsimp only at e1 e2 e3 e4
  subst e1 e2 e3 e4
  obtain ⟨w1,hw1,k1,b1,z1⟩:=bX w k A n c nt A2 n2 c2 mn mx
  rw [deep] at hf
  obtain ⟨ma,mk⟩:=eP hmay
  have hlen:ks.length=n2:=ho.len
  have hm2:n2≤1759218604441:=ho.many2
  obtain ⟨y0,y1,y2,y3,y4,y5⟩:=aB k1
  have SL:=Lib.hid (Co ks)
  have WC:=Lib.hid (RY ma)
  have REP:=Lib.hid (show k=5→n2=1∧0≤mn∧mn≤9∧mx≤9 from fun h=>by subst h; have:=lJ ma; omega)
  have K1:=Lib.hid k1
  have OW:=Lib.hid ho
  have KW:=Lib.hid hk
  have HF:=Lib.hid hf
  have MK:=Lib.hid mk
  have HL:=Lib.hid hlen
  have HB:=Lib.hid hBw
  have Z1:=Lib.hid z1
  have I0:=Lib.hid (show Below w.heap.size w w1∧Below w1.heap.size w1 w1 from ⟨b1,Below.refl _ _⟩)
  obtain ⟨WM,hWM⟩:∃v,wm (.mk k s0 nt ks mn mx)=v:=⟨_,rfl⟩
  rw [hWM] at WC ⊢
  dsimp only [Nv.v]
  clear ho hk k1 b1 z1 hmay ma mk hlen hWM hBw hf
  have J0:((0:Nat):Int)=0:=rfl
  go_enter Tryz.func52,Tryz.ntmps52
  go_wp2_with fail
  go_loopw [9,3] (fun y s3 wr=>∃i:Nat,y=.int .i64 (i:Int)∧i≤n2∧s3=.int .i64 (lu (ks.take i):Int)∧Hid (Below w.heap.size w wr∧Below w1.heap.size w1 wr)) (fun y _ _=>n2 - (intOf y).toNat)
  case atStart=>exact ⟨0,rfl,Nat.zero_le _,rfl,I0⟩
  case round =>
   obtain ⟨i,rfl,hi,rfl,I⟩:=hrel
   clear I0 y0 y1 y2 y3 y4 y5 hw1
   have hi0:(0:Int)≤(i:Int):=by omega
   have hinc:IntKind.i64.wrap ((i:Int)+1)=(i:Int)+1:=IntWalk.i64_in _ (by omega)
   by_cases hlt:i<n2
   ·obtain ⟨y,hy⟩:∃y,ks[i]? = some y:=⟨_,List.getElem?_eq_getElem (by rw [HL.out]; exact hlt)⟩
    obtain ⟨xi,hxi,hin⟩:=(KW.out.below (I.out.1.mono HB.out)).at i y hy
    obtain ⟨b,off,rfl,_,nv⟩:=nM (OW.out.carry fun p hp=>I.out.1.cell (Nat.lt_of_lt_of_le hp HB.out)).kids hxi hlt
    obtain ⟨ki,Ai,ni,ci,nti,A2i,n2i,c2i,mni,mxi⟩:=xi
    obtain ⟨u0,u1,u2,u3,u4,u5⟩:=oG nv
    obtain ⟨w4,hw4,k4,b4,z4⟩:=bX wr ki Ai ni ci nti A2i n2i c2i mni mxi
    obtain ⟨v0,v1,v2,v3,v4,v5⟩:=aB k4
    have hi1:(i:Int)<(n2:Int):=by omega
    have b5:=I.out.1.trans (b4.mono I.out.1.size)
    have b6:=I.out.2.trans (b4.mono I.out.2.size)
    have IH:=Lib.hid (ih y ⟨ki,Ai,ni,ci,nti,A2i,n2i,c2i,mni,mxi⟩ lo B w4 (by have:=uz hy; have:=HF.out; omega) (yD MK.out hy) (Nat.le_trans HB.out b5.size) (hin.below (b4.mono (Nat.le_trans HB.out I.out.1.size))))
    have ST:=DZ hy
    have hsl:=Co (ks.take (i+1))
    have hsl2:(ks.take (i+1)).length≤i+1:=by rw [List.length_take]; omega
    obtain ⟨S0,hS0⟩:∃v,lu (ks.take i)=v:=⟨_,rfl⟩
    obtain ⟨S1,hS1⟩:∃v,lu (ks.take (i+1))=v:=⟨_,rfl⟩
    obtain ⟨m1,hm1⟩:∃v,wm y=v:=⟨_,rfl⟩
    rw [hS0,hS1,hm1] at ST
    rw [hS1] at hsl
    rw [hm1] at IH
    rw [hS0]
    have hadd:IntKind.i64.wrap ((S0:Int)+(m1:Int))=(S1:Int):=by rw [IntWalk.i64_in _ (by omega)]; omega
    have HS:=Lib.hid hS1
    have B5:=Lib.hid (And.intro b5 b6)
    dsimp only [Nv.v] at IH
    clear hin nv k4 b4 z4 b5 b6 I hy hxi hS0 hS1 hm1 ST hsl hsl2
    go_wp2_with fail
    refine IH.out.mono ?_
    rintro e w5 ⟨rfl,b7⟩
    have I5:=Lib.hid (show Below w.heap.size w w5∧Below w1.heap.size w1 w5 from ⟨B5.out.1.trans (b7.mono B5.out.1.size),B5.out.2.trans (b7.mono B5.out.2.size)⟩)
    clear IH b7 u0 u1 u2 u3 u4 u5 v0 v1 v2 v3 v4 v5 hw4 B5
    go_wp2_with fail
    go_roundw
    case rel=>exact ⟨i+1,by first | rfl | (congr 1; done) | (congr 1; omega),by omega,by rw [HS.out],I5⟩
    case measure=>first | (simp [intOf]; done) | (simp [intOf]; omega)
   ·obtain rfl:i=n2:=by omega
    rw [List.take_of_length_le (by rw [HL.out]; exact Nat.le_refl _)]
    have nb:=K1.out.below I.out.2 (by rw [Z1.out]; omega)
    obtain ⟨y0,y1,y2,y3,y4,y5⟩:=aB nb
    obtain ⟨S,hS⟩:∃v,lu ks=v:=⟨_,rfl⟩
    rw [hS] at WC SL ⊢
    have hSl:=SL.out
    rw [HL.out] at hSl
    have HSl:=Lib.hid hSl
    have BW:=Lib.hid I.out.1
    clear nb hS SL I hSl
    by_cases h5:k=5
    ·subst h5
     obtain ⟨r1,r2,r3,r4⟩:=REP.out rfl
     have hSb:S≤20001:=by have:=HSl.out; omega
     by_cases hx:mx<0
     ·have f1:IntKind.i64.wrap (mn+1)=mn+1:=IntWalk.i64_in _ (by omega)
      obtain ⟨q,hq⟩:∃q:Nat,mn+1=(q:Int):=⟨(mn+1).toNat,by omega⟩
      have hp:S*q≤20001*10:=Nat.mul_le_mul hSb (by omega)
      obtain ⟨P,hP⟩:∃P,S*q=P:=⟨_,rfl⟩
      have hPc:(S:Int)*(q:Int)=(P:Int):=by rw [←hP]; simp
      have f2:IntKind.i64.wrap (P:Int)=(P:Int):=IntWalk.i64_in _ (by omega)
      have f3:IntKind.i64.wrap ((P:Int)+1)=((P+1:Nat):Int):=by rw [IntWalk.i64_in _ (by omega)]; omega
      have R:=Lib.hid (show min (P+1) 20001=WM from by
       have h:=WC.out
       unfold yC at h
       rw [if_pos rfl,if_pos hx,show mn.toNat+1=q by omega,hP] at h
       exact h)
      clear WC hP hp
      go_wp2_with fail
      all_goals
       go_ret
       exact ⟨jZ (by have:=R.out; omega),BW.out⟩
     ·obtain ⟨q,hq⟩:∃q:Nat,mx=(q:Int):=⟨mx.toNat,by omega⟩
      subst hq
      have hp:S*q≤20001*10:=Nat.mul_le_mul hSb (by omega)
      obtain ⟨P,hP⟩:∃P,S*q=P:=⟨_,rfl⟩
      have hPc:(S:Int)*(q:Int)=(P:Int):=by rw [←hP]; simp
      have f2:IntKind.i64.wrap (P:Int)=(P:Int):=IntWalk.i64_in _ (by omega)
      have f3:IntKind.i64.wrap ((P:Int)+1)=((P+1:Nat):Int):=by rw [IntWalk.i64_in _ (by omega)]; omega
      have hx0:decide ((q:Int)<0)=false:=decide_eq_false (by omega)
      have R:=Lib.hid (show min (P+1) 20001=WM from by
       have h:=WC.out
       unfold yC at h
       rw [if_pos rfl,if_neg hx,Int.toNat_natCast,hP] at h
       exact h)
      clear WC hP hp hx
      go_wp2_with fail
      all_goals
       go_ret
       exact ⟨jZ (by have:=R.out; omega),BW.out⟩
    ·have r5:(k == 5)=false:=by rw [beq_eq_false_iff_ne]; exact h5
     by_cases h3:k=3
     ·subst h3
      have R:=Lib.hid (show min S 20001=WM from by
       have h:=WC.out
       unfold yC at h
       simpa using h)
      clear WC
      go_wp2_with fail
      all_goals
       go_ret
       exact ⟨jZ (by have:=R.out; omega),BW.out⟩
     ·have r3:(k == 3)=false:=by rw [beq_eq_false_iff_ne]; exact h3
      have r3':(k != 3)=true:=by rw [bne,r3]; rfl
      have f3:IntKind.i64.wrap ((S:Int)+1)=((S+1:Nat):Int):=by rw [IntWalk.i64_in _ (by have:=HSl.out; omega)]; omega
      have R:=Lib.hid (show min (S+1) 20001=WM from by
       have h:=WC.out
       unfold yC at h
       rw [if_neg h5,if_neg h3] at h
       exact h)
      clear WC
      go_wp2_with fail
      all_goals
       go_ret
       exact ⟨jZ (by have:=R.out; omega),BW.out⟩
end NF
namespace NF
theorem ze:∀ {al bs:List Nd} {y t:Nd},eu al bs→lY y t→eu (al++[y]) (bs++[t])
 | [],bs,y,t,h,h2=>by
  rw [eu] at h
  subst h
  rw [List.nil_append,eu]
  exact ⟨t,[],rfl,h2,by rw [eu]⟩
 | a::al,bs,y,t,h,h2=>by
  rw [eu] at h
  obtain ⟨b,bs',rfl,h3,h4⟩:=h
  rw [List.cons_append,eu]
  exact ⟨b,bs'++[t],rfl,h3,ze h4 h2⟩
theorem Ag {w:World} {lo B:Nat}:∀ {ts:List Nd} {xs:List Nv} {t:Nd} {x:Nv},cO w lo B ts xs→bQ w lo B t x→cO w lo B (ts++[t]) (xs++[x])
 | [],xs,t,x,h,h2=>by
  rw [cO] at h
  subst h
  rw [List.nil_append,cO]
  exact ⟨x,[],rfl,h2,by rw [cO]⟩
 | a::al,xs,t,x,h,h2=>by
  rw [cO] at h
  obtain ⟨b,bs',rfl,h3,h4⟩:=h
  rw [List.cons_append,cO]
  exact ⟨b,bs'++[x],rfl,h3,Ag h4 h2⟩
structure KM (wL wr:World) (gk ck n2 i:Nat) (ks:List Nd) (xs:List Nv):Prop where
 aO:ak (· = gk) wL wr
 row:∃(cur:Array Value) (xs':List Nv) (ts:List Nd),Bk wr 29 gk cur∧cur.size=ck*6∧xs'.length=i∧eu (ks.take i) ts∧cO wr wL.heap.size wr.heap.size ts xs'∧(∀j,j<i*6→cur[j]? = (bY xs')[j]?)∧∀j,i*6≤j→j<n2*6→cur[j]? = (bY xs)[j]?
theorem KM.next {wL wr w5:World} {gk ck n2 i:Nat} {ks:List Nd} {xs:List Nv} {y t:Nd} {x:Nv} (h:KM wL wr gk ck n2 i ks xs) (hgk:gk<wL.heap.size) (hy:ks[i]? = some y) (ho:lY y t) (b5:Below wr.heap.size wr w5) (hin:bQ w5 wr.heap.size w5.heap.size t x) (hi:i<n2) (hn:n2≤ck) :
  KM wL (aA w5 gk (i*6) x) gk ck n2 (i+1) ks xs:=by
 obtain ⟨cur,xs',ts,k1,k2,k3,k4,k5,k6,k7⟩:=h.row
 obtain ⟨hi1,hi2⟩:=List.getElem?_eq_some_iff.1 hy
 have hb5:Bk w5 29 gk cur:=(b5.block gk k1.lt).trans k1
 obtain ⟨cur',p1,p2,p3,p4⟩:=Va (o:=i*6) x hb5 (by rw [k2]; omega)
 have t6:=dK w5 gk (i*6) x
 have hsz:(aA w5 gk (i*6) x).heap.size=w5.heap.size:=by unfold aA; simp only [World.size_setCell]
 generalize aA w5 gk (i*6) x=w6 at p1 t6 hsz ⊢
 have hc:∀p:Addr,wL.heap.size≤p.block→p.block<w5.heap.size→w6.cell? p=w5.cell? p:=fun p hp hp2=>by
  have e:=t6.block p.block hp2 (by omega)
  unfold World.cell?
  rw [e]
 refine ⟨((h.aO.trans (ak.aH b5 (fun _=>False)) (fun _ _ h=>h.elim)).trans t6 (fun _ _ h=>h)),cur',xs'++[x],ts++[t],p1,p2.trans k2,by rw [List.length_append,k3]; rfl,?_,?_,fun j hj=> ?_,fun j h1 h2=> ?_⟩
 ·rw [List.take_succ_eq_append_getElem hi1,hi2]
  exact ze k4 ho
 ·have hz:w6.heap.size=w5.heap.size:=hsz
  rw [hz]
  exact Ag (uD (Nat.le_refl _) b5.size (kQ (fun p h1 h2=>hc p h1 (Nat.lt_of_lt_of_le h2 b5.size)) (k5.below b5))) (lK h.aO.size (Nat.le_refl _) (jh (fun p h1 h2=>hc p (Nat.le_trans h.aO.size h1) h2) hin))
 ·rw [D5]
  by_cases hj2:j<i*6
  ·rw [List.getElem?_append_left (by rw [lM,k3]; exact hj2),p4 j (.inl hj2),k6 j hj2]
  ·rw [List.getElem?_append_right (by rw [lM,k3]; omega),lM,k3]
   obtain ⟨d,rfl⟩:∃d,j=i*6+d:=⟨j - i*6,by omega⟩
   rw [p3 d (by omega),show i*6+d - i*6=d by omega]
   unfold bY
   simp
 ·rw [p4 j (.inr (by omega)),k7 j (by omega) h2]
def Mh (w:World) (t:Nd) (e:Ending) (w':World):Prop:=∃(x':Nv) (t':Nd),e=.returned x'.v∧lY t t'∧bQ w' w.heap.size w'.heap.size t' x'∧Below w.heap.size w w'
theorem Gm {s:Sg} (h:bK s=true):∀r∈s,(-2147483648≤r.1∧r.1≤2147483647)∧ -2147483648≤r.2∧r.2≤2147483647:=by
 intro r hr
 unfold bK at h
 have:=List.all_eq_true.1 h r hr
 simp [bL] at this
 omega
theorem Pb {k:Int} {s:Sg} {nt:Bool} {n:Nat} {mn mx:Int} (h:aP k s nt n mn mx=true):bK s=true:=by
 by_cases h2:k=2
 ·subst h2
  unfold aP at h
  simp at h
  exact h.1.1.1.1
 ·rw [(wM h h2).1]
  rfl
theorem Gn {w w2 w3 wr:World} {q L n' c' n2 ck:Nat} {k mn mx:Int} {s0 s2:Sg} {nt:Bool} {ks ts:List Nd} {A' Ak:Option Addr} {xs':List Nv} (RP:Cq w2 w3 s0 s2 A' n' c') (hq:q<w2.heap.size) (hqw:w.heap.size≤q)
  (hEq:∀p:Addr,w2.heap.size≤p.block→p.block<w3.heap.size→wr.cell? p=w3.cell? p) (h3r:w3.heap.size≤wr.heap.size) (hold:Below w.heap.size w wr) (hk:Sq wr wr.heap.size 6 n2 Ak (bY xs')) (hlo:∀b off,Ak=some ⟨b,off,none⟩→0<n2→q<b)
  (hK:cO wr L wr.heap.size ts xs') (hL:q<L) (ho:eu ks ts) (hn2:ks.length=n2) (hxl:xs'.length=n2) (hle:n2≤ck) (hm2:n2≤1759218604441) (hn:s0.length≤17592186044416)
  (ints:(-9223372036854775808≤mn∧mn≤9223372036854775807)∧ -9223372036854775808≤mx∧mx≤9223372036854775807) :
  Mh w (.mk k s0 nt ks mn mx) (.returned (Nv.v ⟨k,A',n',c',nt,Ak,n2,ck,mn,mx⟩)) (aA wr q 0 ⟨k,A',n',c',nt,Ak,n2,ck,mn,mx⟩):=by
 have t9:=dK wr q 0 ⟨k,A',n',c',nt,Ak,n2,ck,mn,mx⟩
 have z9:(aA wr q 0 ⟨k,A',n',c',nt,Ak,n2,ck,mn,mx⟩).heap.size=wr.heap.size:=by unfold aA; simp only [World.size_setCell]
 generalize aA wr q 0 ⟨k,A',n',c',nt,Ak,n2,ck,mn,mx⟩=W at t9 z9 ⊢
 have hc:∀p:Addr,q<p.block→p.block<wr.heap.size→W.cell? p=wr.cell? p:=fun p hp hp2=>by
  have e:=t9.block p.block hp2 (by omega)
  unfold World.cell?
  rw [e]
 refine ⟨_,.mk k s2 nt ts mn mx,rfl,?_,?_,hold.trans (t9.toBelow hold.size (fun j hj e=>by omega))⟩
 ·rw [lY]
  exact ⟨s2,ts,rfl,RP.any,RP.ok,RP.empty,RP.rise,ho⟩
 ·rw [bQ]
  refine ⟨rfl,rfl,rfl,rfl,xs',⟨?_,RP.le,?_,?_,hle,hm2,?_,hxl,Gm RP.ok,ints,fun b off e h=> ?_,fun b off e h=> ?_⟩,?_⟩
  ·refine (oH (lo:=w2.heap.size) RP.sq RP.low fun p h1 h2=> ?_).up (by rw [z9]; exact h3r)
   rw [hc p (by omega) (by omega),hEq p h1 h2]
  ·have:=RP.len; show n'≤_; omega
  ·rw [z9]
   exact oH (lo:=q+1) hk (fun b off e h=>hlo b off e h) (fun p h1 h2=>hc p h1 h2)
  ·rw [zB ho]; exact hn2
  ·have:=RP.low b off e h; omega
  ·have:=hlo b off e h; omega
  ·rw [z9]
   exact uD (by omega) (Nat.le_refl _) (kQ (fun p h1 h2=>hc p (by omega) h2) hK)
theorem RZ:∀(fuel:Nat) (t:Nd) (x:Nv) (lo B:Nat) (w:World),deep t≤fuel→may t=true→B≤w.heap.size→bQ w lo B t x →
  Calls Tryz.prog 54 #[x.v] w fun e w'=>Mh w t e w':=by
 intro fuel
 induction fuel with
 | zero =>
  intro t x lo B w hf
  cases t
  rw [deep] at hf
  omega
 | succ fuel ih =>
  intro t x lo B w hf hmay hBw hx
  obtain ⟨k0,s0,nt0,ks,mn0,mx0⟩:=t
  rw [bQ] at hx
  obtain ⟨e1,e2,e3,e4,xs,ho,hk⟩:=hx
  obtain ⟨k,A,n,c,nt,A2,n2,c2,mn,mx⟩:=x
  dsimp only at e1 e2 e3 e4
  subst e1 e2 e3 e4
  obtain ⟨w1,hw1,k1,b1,z1⟩:=bX w k A n c nt A2 n2 c2 mn mx
  obtain ⟨w2,hw2,k2,b2,z2⟩:=bX w1 0 none 0 0 false none 0 0 0 0
  obtain ⟨q1,hq1⟩:∃q,w.heap.size=q:=⟨_,rfl⟩
  have b12:=b1.trans (b2.mono b1.size)
  have k12:=aR.below k1 b2 (by omega)
  rw [deep] at hf
  obtain ⟨ma,mk⟩:=eP hmay
  have hlen:ks.length=n2:=ho.len
  have hm2:n2≤1759218604441:=ho.many2
  obtain ⟨y0,y1,y2,y3,y4,y5⟩:=aB k12
  have RW:=Lib.hid (JC A n c s0 w2 ((ho.set.below (b12.mono hBw)).up (Nat.le_trans hBw b12.size)) (Pb ma) ho.many)
  have OW:=Lib.hid ho
  have KW:=Lib.hid hk
  have HF:=Lib.hid hf
  have MK:=Lib.hid mk
  have HL:=Lib.hid hlen
  have HB:=Lib.hid hBw
  have B12:=Lib.hid b12
  have K12:=Lib.hid k12
  have K2:=Lib.hid k2
  have Z:=Lib.hid (show w2.heap.size=w.heap.size+2∧w1.heap.size=w.heap.size+1 from by omega)
  dsimp only [Nv.v]
  clear ho hk k1 b1 z1 k2 b2 z2 b12 k12 hmay ma mk hlen hBw hf hq1
  go_enter Tryz.func54,Tryz.ntmps54
  go_wp2_with fail
  refine RW.out.mono ?_
  rintro e w3 ⟨s2,A',n',c',rfl,rp⟩
  have k3:aR w3 w.heap.size ⟨k,A,n,c,nt,A2,n2,c2,mn,mx⟩:=K12.out.below rp.old (by have:=Z.out; omega)
  have f3:=Bk.free k3 1
  have e3:=Bk.get k3 1
  obtain ⟨w4,hw4⟩:∃w4,w3.setCell ⟨w.heap.size,1,none⟩ (.slice A' n' c')=w4:=⟨_,rfl⟩
  have k4:aR w4 w.heap.size ⟨k,A',n',c',nt,A2,n2,c2,mn,mx⟩:=by rw [←hw4]; exact Bk.put k3 1 _
  have t4:ak (· = w.heap.size) w3 w4:=by rw [←hw4]; exact ak.bR _ 1 w3 _
  have b24:Below w.heap.size w w4:=(B12.out.trans (rp.old.mono B12.out.size)).trans (t4.toBelow (B12.out.trans (rp.old.mono B12.out.size)).size (fun k hk e=>by omega))
  have d3:w4.cell? ⟨w.heap.size,3,none⟩=some (.slice A2 n2 c2):=k4.at.c3
  have CL:=Lib.hid (Gp (c:=c2) w4 ((OW.out.kids.below (b24.mono HB.out)).up (Nat.le_trans HB.out b24.size)) (Pf xs) hm2)
  have RP:=Lib.hid rp
  have K4:=Lib.hid k4
  have T4:=Lib.hid t4
  have B24:=Lib.hid b24
  clear rp k3 k4 t4 b24 RW y0 y1 y2 y3 y4 y5 hw1 hw2
  go_wp2_with fail
  refine CL.out.mono ?_
  rintro e w5 ⟨Ak,ck,rfl,o5,b5⟩
  have hq4:w.heap.size<w4.heap.size:=(K4.out:aR w4 _ _).lt
  have k5:=K4.out.below b5 hq4
  have f5:=Bk.free k5 3
  have e5:=Bk.get k5 3
  obtain ⟨w6,hw6⟩:∃w6,w5.setCell ⟨w.heap.size,3,none⟩ (.slice Ak n2 ck)=w6:=⟨_,rfl⟩
  have k6:aR w6 w.heap.size ⟨k,A',n',c',nt,Ak,n2,ck,mn,mx⟩:=by rw [←hw6]; exact Bk.put k5 3 _
  have t6:ak (· = w.heap.size) w5 w6:=by rw [←hw6]; exact ak.bR _ 3 w5 _
  have g3:w6.cell? ⟨w.heap.size,3,none⟩=some (.slice Ak n2 ck):=k6.at.c3
  have b46:Below w.heap.size w w6:=(B24.out.trans (b5.mono B24.out.size)).trans (t6.toBelow (B24.out.trans (b5.mono B24.out.size)).size (fun k hk e=>by omega))
  have b46':∀g,g<w4.heap.size→g≠w.heap.size→w6.heap[g]? = w4.heap[g]?:=fun g h1 h2=>(t6.block g (Nat.lt_of_lt_of_le h1 b5.size) h2).trans (b5.block g h1)
  clear CL d3 f3 e3 hw4
  go_wp2_with fail
  have hq1:w.heap.size<w6.heap.size:=Nat.lt_of_lt_of_le hq4 (Nat.le_trans b5.size t6.size)
  have B46:=Lib.hid b46
  have P46:=Lib.hid b46'
  have K6:=Lib.hid k6
  have Q:=Lib.hid (And.intro hq1 hq4)
  by_cases hn0:n2=0
  ·subst hn0
   have hks:ks=[]:=List.length_eq_zero_iff.1 HL.out
   subst hks
   have ZZ:=Lib.hid (show w4.heap.size≤w6.heap.size from Nat.le_trans b5.size t6.size)
   clear o5 b5 k5 f5 e5 k6 t6 b46 b46' hq1 hq4
   go_loopw [16] (fun y wr=>y=.int .i64 0∧wr=w6) (fun _ _=>0)
   case atStart=>exact ⟨rfl,rfl⟩
   case round =>
    obtain ⟨rfl,rfl⟩:=hrel
    clear hw6 g3
    obtain ⟨y0,y1,y2,y3,y4,y5⟩:=aB K6.out
    have kz:aR wr w1.heap.size ⟨0,none,0,0,false,none,0,0,0,0⟩:=by
     refine (P46.out _ ?_ ?_).trans (T4.out.bk (K2.out.below RP.out.old ?_) ?_)
     ·have:=Z.out; have:=T4.out.size; have:=RP.out.old.size; omega
     ·have:=Z.out; omega
     ·have:=Z.out; omega
     ·have:=Z.out; omega
    obtain ⟨⟨m0,o0⟩,⟨m1,o1⟩,⟨m2,o2⟩,⟨m3,o3⟩,⟨m4,o4⟩,⟨m5,o5⟩,f0,f1,f2,f3,f4,f5⟩:=bE (o:=0) kz (by simp)
    have KZ:=Lib.hid kz
    clear kz
    go_wp2_with fail
    have PN:=aQ KZ.out ⟨k,A',n',c',nt,Ak,0,ck,mn,mx⟩
    have RR:=Lib.hid (show Mh w (.mk k s0 nt [] mn mx) (.returned (Nv.v ⟨k,A',n',c',nt,Ak,0,ck,mn,mx⟩)) (aA wr w1.heap.size 0 ⟨k,A',n',c',nt,Ak,0,ck,mn,mx⟩) from by
     refine Gn RP.out (by have:=Z.out; omega) (by have:=Z.out; omega) (fun p h1 h2=> ?_) ?_ B46.out (Sq.nothing _ _ _ _) (fun b off e h=>absurd h (Nat.lt_irrefl 0)) (L:=w2.heap.size) (by rw [cO]) (by have:=Z.out; omega) (by rw [eu]) rfl rfl (Nat.zero_le _) (Nat.zero_le _) (by rw [mQ OW.out.set]; exact OW.out.many) OW.out.ints
     ·have hz:=Z.out
      have hs:=T4.out.size
      have e1:=T4.out.block p.block h2 (by omega)
      have e2:=P46.out p.block (by omega) (by omega)
      unfold World.cell?
      rw [e2,e1]
     ·have:=T4.out.size; have:=ZZ.out; omega)
    change bodyPost _ _ _ _ _ (aA wr w1.heap.size 0 ⟨k,A',n',c',nt,Ak,0,ck,mn,mx⟩)
    generalize aA wr w1.heap.size 0 ⟨k,A',n',c',nt,Ak,0,ck,mn,mx⟩=W at PN RR ⊢
    obtain ⟨p0,p1,p2,p3,p4,p5⟩:=aB PN
    exact bodyPost_ret (by simp [results,Tryz.results54,go_sem,p0,p1,p2,p3,p4,p5]<;>rfl) rfl RR.out
  ·obtain ⟨gk,cur,rfl,hgl,hg,hnc,hcm,hcs,htk⟩:∃g cur,Ak=some ⟨g,0,none⟩∧w4.heap.size≤g∧Bk w5 29 g cur∧n2≤ck∧ck≤maxLen∧cur.size=ck*6∧cur.toList.take (n2*6)=bY xs:=by
    rcases o5.2 with ⟨_,h1⟩ | ⟨g,cp,cur,h1,e2,e3,e4,e5,e6,e7⟩
    ·omega
    ·injection h1 with h2 _ h4
     subst h2 h4
     exact ⟨g,cur,rfl,e2,e3,e4,e5,e6,e7⟩
   have hg6:Bk w6 29 gk cur:=t6.bk hg (by have:=Q.out; omega)
   have I0:=Lib.hid (show KM w6 w6 gk ck n2 0 ks xs from ⟨ak.refl _ _,cur,[],[],hg6,hcs,rfl,by rw [List.take_zero,eu],by rw [cO],fun j hj=>absurd hj (by omega),fun j _ hj=>by rw [←htk,List.getElem?_take,if_pos hj,Array.getElem?_toList]⟩)
   have GK:=Lib.hid (And.intro hg6.lt (And.intro hgl hnc))
   clear o5 b5 k5 f5 e5 k6 t6 b46 b46' hg hcs htk hg6 hgl hcm hnc hq1 hq4
   go_loopw [16] (fun y wr=>∃i:Nat,y=.int .i64 (i:Int)∧i≤n2∧Hid (KM w6 wr gk ck n2 i ks xs)) (fun y _=>n2 - (intOf y).toNat)
   case atStart=>exact ⟨0,rfl,Nat.zero_le _,I0⟩
   case round =>
    obtain ⟨i,rfl,hi,I⟩:=hrel
    clear I0 hw6 g3
    have hi0:(0:Int)≤(i:Int):=by omega
    have hinc:IntKind.i64.wrap ((i:Int)+1)=(i:Int)+1:=IntWalk.i64_in _ (by omega)
    have hgq:gk≠w.heap.size:=by have:=GK.out; have:=Q.out; omega
    by_cases hlt:i<n2
    ·obtain ⟨y,hy⟩:∃y,ks[i]? = some y:=⟨_,List.getElem?_eq_getElem (by rw [HL.out]; exact hlt)⟩
     have bw:Below w.heap.size w wr:=B46.out.trans (I.out.aO.toBelow B46.out.size (fun k hk e=>by have:=GK.out; have:=Q.out; omega))
     obtain ⟨xi,hxi,hin⟩:=(KW.out.below (bw.mono HB.out)).at i y hy
     obtain ⟨cr,xs',ts,r1,r2,r3,r4,r5,r6,r7⟩:=I.out.row
     have hcell:∀d u,d<6→xi.vals[d]? = some u→wr.cell? ⟨gk,i*6+d,none⟩=some u:=fun d u hd hu=>by
      rw [Bk.get r1,r7 _ (by omega) (by omega)]
      exact wN xs i xi hxi d u hu
     have k6r:aR wr w.heap.size ⟨k,A',n',c',nt,some ⟨gk,0,none⟩,n2,ck,mn,mx⟩:=I.out.aO.bk K6.out (fun e=>hgq e.symm)
     obtain ⟨ki,Ai,ni,ci,nti,A2i,n2i,c2i,mni,mxi⟩:=xi
     have u0:=hcell 0 _ (by omega) rfl
     have u1:=hcell 1 _ (by omega) rfl
     have u2:=hcell 2 _ (by omega) rfl
     have u3:=hcell 3 _ (by omega) rfl
     have u4':=hcell 4 _ (by omega) rfl
     have u5:=hcell 5 _ (by omega) rfl
     rw [Nat.add_zero] at u0
     obtain ⟨w7,hw7,k7,b7,z7⟩:=bX wr ki Ai ni ci nti A2i n2i c2i mni mxi
     obtain ⟨v0,v1,v2,v3,v4,v5⟩:=aB k7
     have k67:=k6r.below b7 (Nat.lt_of_lt_of_le Q.out.1 I.out.aO.size)
     have g3:w7.cell? ⟨w.heap.size,3,none⟩=some (.slice (some ⟨gk,0,none⟩) n2 ck):=k67.at.c3
     have hi1:(i:Int)<(n2:Int):=by omega
     have IH:=Lib.hid (ih y ⟨ki,Ai,ni,ci,nti,A2i,n2i,c2i,mni,mxi⟩ lo B w7.drew (by have:=uz hy; have:=HF.out; omega) (yD MK.out hy) (by have:=bw.size; have:=HB.out; show B≤w7.heap.size; omega) (jh (w':=w7.drew) (fun p _ hp=>show w7.cell? p=_ from (b7.mono (Nat.le_trans HB.out bw.size)).cell hp) hin))
     have II:=Lib.hid I.out
     have HY:=Lib.hid hy
     have R1:=Lib.hid (And.intro r1 r2)
     have K67:=Lib.hid k67
     have B7:=Lib.hid b7
     have HN:=Lib.hid (And.intro hlt GK.out.2.2)
     dsimp only [Nv.v] at IH
     clear hcell k6r k7 b7 z7 k67 hin hxi r1 r2 r3 r4 r5 r6 r7 bw I hy
     go_wp2_with fail
     go_region_with (go_at_call 54; refine IH.out.mono ?_; rintro e w8 ⟨x',t',rfl,ho,hin,b8⟩; obtain ⟨kx,Ax,nx,cx,ntx,A2x,n2x,c2x,mnx,mxx⟩:=x'; (have bx:Bk w8 29 gk cr:=(b8.block gk (by have:=GK.out; have:=II.out.aO.size; have:=B7.out.size; show gk<w7.heap.size; omega)).trans ((B7.out.block gk (by have:=GK.out; have:=II.out.aO.size; omega)).trans R1.out.1)); (have g3:w8.cell? ⟨w.heap.size,3,none⟩=some (.slice (some ⟨gk,0,none⟩) n2 ck):=(K67.out.below (w':=w8) ⟨b8.os,b8.tape,b8.output,b8.size,b8.block⟩ (by have:=Q.out; have:=II.out.aO.size; have:=B7.out.size; show w.heap.size<w7.heap.size; omega)).at.c3); obtain ⟨⟨m0,o0⟩,⟨m1,o1⟩,⟨m2,o2⟩,⟨m3,o3⟩,⟨m4,o4⟩,⟨m5,o5⟩,f0,f1,f2,f3,f4,f5⟩:=bE bx (o:=i*6) (by have:=R1.out.2; have:=HN.out; omega); (have HH:=Lib.hid (And.intro ho (And.intro hin b8))); dsimp only [Nv.v]; clear ho hin b8 bx)
     all_goals
      have EN:=Lib.hid (KM.next II.out GK.out.1 HY.out HH.out.1 (B7.out.trans (Below.mono (⟨HH.out.2.2.os,HH.out.2.2.tape,HH.out.2.2.output,HH.out.2.2.size,HH.out.2.2.block⟩:Below w7.heap.size w7 w8) B7.out.size)) (lK (lo':=wr.heap.size) B7.out.size (Nat.le_refl _) HH.out.2.1) HN.out.1 HN.out.2)
      change Exit.inBlock 1 _ Exit.normal _ (aA w8 gk (i*6) ⟨kx,Ax,nx,cx,ntx,A2x,n2x,c2x,mnx,mxx⟩)
      generalize aA w8 gk (i*6) ⟨kx,Ax,nx,cx,ntx,A2x,n2x,c2x,mnx,mxx⟩=w9 at EN ⊢
      go_wp2
      go_roundw
      case rel=>exact ⟨i+1,by first | rfl | (congr 1; done) | (congr 1; omega),by omega,EN⟩
      case measure=>first | (simp [intOf]; done) | (simp [intOf]; omega)
    ·obtain rfl:i=n2:=by omega
     have kq:aR wr w.heap.size ⟨k,A',n',c',nt,some ⟨gk,0,none⟩,i,ck,mn,mx⟩:=I.out.aO.bk K6.out (fun e=>hgq e.symm)
     obtain ⟨y0,y1,y2,y3,y4,y5⟩:=aB kq
     have kz:aR wr w1.heap.size ⟨0,none,0,0,false,none,0,0,0,0⟩:=by
      refine I.out.aO.bk ((P46.out _ ?_ ?_).trans (T4.out.bk (K2.out.below RP.out.old ?_) ?_)) ?_
      ·have:=Z.out; have:=T4.out.size; have:=RP.out.old.size; omega
      ·have:=Z.out; omega
      ·have:=Z.out; omega
      ·have:=Z.out; omega
      ·have:=Z.out; have:=GK.out; have:=T4.out.size; have:=RP.out.old.size; omega
     obtain ⟨⟨m0,o0⟩,⟨m1,o1⟩,⟨m2,o2⟩,⟨m3,o3⟩,⟨m4,o4⟩,⟨m5,o5⟩,f0,f1,f2,f3,f4,f5⟩:=bE (o:=0) kz (by simp)
     have KZ:=Lib.hid kz
     clear kq kz hgq
     go_wp2_with fail
     have PN:=aQ KZ.out ⟨k,A',n',c',nt,some ⟨gk,0,none⟩,i,ck,mn,mx⟩
     have RR:=Lib.hid (show Mh w (.mk k s0 nt ks mn mx) (.returned (Nv.v ⟨k,A',n',c',nt,some ⟨gk,0,none⟩,i,ck,mn,mx⟩)) (aA wr w1.heap.size 0 ⟨k,A',n',c',nt,some ⟨gk,0,none⟩,i,ck,mn,mx⟩) from by
      obtain ⟨cr,xs',ts,r1,r2,r3,r4,r5,r6,r7⟩:=I.out.row
      rw [List.take_of_length_le (by rw [HL.out]; exact Nat.le_refl _)] at r4
      refine Gn RP.out (by have:=Z.out; omega) (by have:=Z.out; omega) (fun p h1 h2=> ?_) ?_ (B46.out.trans (I.out.aO.toBelow B46.out.size (fun j hj e=>by have:=GK.out; have:=Q.out; omega))) ?_ (fun b off e h=> ?_) r5 ?_ r4 HL.out r3 GK.out.2.2 hm2 (by rw [mQ OW.out.set]; exact OW.out.many) OW.out.ints
      ·have hz:=Z.out
       have hs:=T4.out.size
       have e1:=T4.out.block p.block h2 (by omega)
       have e2:=P46.out p.block (by omega) (by omega)
       have e3:=I.out.aO.block p.block (by have:=GK.out; omega) (by have:=GK.out; omega)
       unfold World.cell?
       rw [e3,e2,e1]
      ·have:=T4.out.size; have:=GK.out; have:=I.out.aO.size; omega
      ·refine ⟨by rw [lM,r3],fun _=>⟨gk,0,rfl,r1.lt,fun j u hu=> ?_⟩⟩
       have hj:=(List.getElem?_eq_some_iff.1 hu).1
       rw [lM,r3] at hj
       rw [Nat.zero_add,Bk.get r1,r6 j hj]
       exact hu
      ·injection e with e
       injection e with e
       have:=Z.out; have:=GK.out; have:=T4.out.size; have:=RP.out.old.size; omega
      ·have:=Z.out; have:=T4.out.size; have:=RP.out.old.size; have:=GK.out; omega)
     change bodyPost _ _ _ _ _ (aA wr w1.heap.size 0 ⟨k,A',n',c',nt,some ⟨gk,0,none⟩,i,ck,mn,mx⟩)
     generalize aA wr w1.heap.size 0 ⟨k,A',n',c',nt,some ⟨gk,0,none⟩,i,ck,mn,mx⟩=W at PN RR ⊢
     obtain ⟨p0,p1,p2,p3,p4,p5⟩:=aB PN
     exact bodyPost_ret (by simp [results,Tryz.results54,go_sem,p0,p1,p2,p3,p4,p5]<;>rfl) rfl RR.out
end NF
namespace NF
theorem infoSt:(Tryz.prog.info? 158).map (fun i=>(i.zero,i.size,i.bytes))=some (some (.agg #[.int .i64 0,.slice none 0 0,.bool false,.int .i64 0,.slice none 0 0]),5,72):=by kernel_rfl
structure Ah (w:World) (ok:Nat→Prop) (s:St) (vs:List Value):Prop where
 ex:∃A n c A2 c2,vs=[.int .i64 s.kind,.slice A n c,.bool s.nt,.int .i64 (s.next:Int),.slice A2 s.ways.length c2]∧n≤17592186044416∧fF w ok 2 n A (aN s.set)∧fF w ok 1 s.ways.length A2 (nums s.ways)
 many:s.ways.length≤1000000
theorem Ah.turned {M:Nat→Prop} {w w':World} {ok:Nat→Prop} {s:St} {vs:List Value} (h:Ah w ok s vs) (ht:ak M w w') (hm:∀b,ok b→b<w.heap.size→¬M b):Ah w' ok s vs:=by
 obtain ⟨A,n,c,A2,c2,h1,h2,h3,h4⟩:=h.ex
 exact ⟨⟨A,n,c,A2,c2,h1,h2,h3.turned ht hm,h4.turned ht hm⟩,h.many⟩
theorem Ah.mono {w:World} {ok ok':Nat→Prop} {s:St} {vs:List Value} (h:Ah w ok s vs) (hm:∀b,ok b→ok' b):Ah w ok' s vs:=by
 obtain ⟨A,n,c,A2,c2,h1,h2,h3,h4⟩:=h.ex
 exact ⟨⟨A,n,c,A2,c2,h1,h2,h3.mono hm,h4.mono hm⟩,h.many⟩
structure fZ (w:World) (p gs cap:Nat) (ok:Nat→Prop) (S:List St):Prop where
 box:Bk w 96 p #[.slice (some ⟨gs,0,none⟩) S.length cap]
 row:∃cur,Bk w 158 gs cur∧cur.size=cap*5∧∀(q:Nat) (s:St),S[q]? = some s→∃vs,Ah w ok s vs∧∀d,d<5→cur[q*5+d]? = vs[d]?
 room:S.length≤cap
 big:cap≤20000
 okp:¬ok p∧¬ok gs
theorem fZ.ne {w:World} {p gs cap:Nat} {ok:Nat→Prop} {S:List St} (h:fZ w p gs cap ok S):p≠gs:=by
 obtain ⟨cur,h1,_⟩:=h.row
 exact h.box.ne h1 (by decide)
theorem fZ.lt {w:World} {p gs cap:Nat} {ok:Nat→Prop} {S:List St} (h:fZ w p gs cap ok S):p<w.heap.size∧gs<w.heap.size:=by
 obtain ⟨cur,h1,_⟩:=h.row
 exact ⟨h.box.lt,h1.lt⟩
theorem fZ.turned {M:Nat→Prop} {w w':World} {p gs cap:Nat} {ok:Nat→Prop} {S:List St} (h:fZ w p gs cap ok S) (ht:ak M w w') (hp:¬M p) (hg:¬M gs) (hm:∀b,ok b→b<w.heap.size→¬M b):fZ w' p gs cap ok S:=by
 obtain ⟨cur,h1,h2,h3⟩:=h.row
 exact ⟨ht.bk h.box hp,⟨cur,ht.bk h1 hg,h2,fun q s hs=>let ⟨vs,h4,h5⟩:=h3 q s hs; ⟨vs,h4.turned ht hm,h5⟩⟩,h.room,h.big,h.okp⟩
theorem fZ.mono {w:World} {p gs cap:Nat} {ok ok':Nat→Prop} {S:List St} (h:fZ w p gs cap ok S) (hm:∀b,ok b→ok' b) (hp:¬ok' p) (hg:¬ok' gs):fZ w p gs cap ok' S:=by
 obtain ⟨cur,h1,h2,h3⟩:=h.row
 exact ⟨h.box,⟨cur,h1,h2,fun q s hs=>let ⟨vs,h4,h5⟩:=h3 q s hs; ⟨vs,h4.mono hm,h5⟩⟩,h.room,h.big,hp,hg⟩
section
variable {P:Program}
theorem Pg {w:World} {ops:Array Oper} {o:Oper} {a:Act} {K:Act→World→Prop} {Q:Exit→Act→World→Prop} {E:Prop} (hgd:o.guard=none) (s x:Operand) (t:TypeId)
  (ho:o.op=.call { callee:=.builtin .append,args:= #[s,x],argTypes:= #[t,t] })
  (e:TypeId) (i:TypeInfo) (size:Nat) (ht:P.underlying t=some (.slice e)) (hi:P.info? e=some i) (hsize:i.size=size)
  (g n cap:Nat) (cur:Array Value) (hs:a.eval s=.slice (some ⟨g,0,none⟩) n cap) (hg:w.heap[g]? = some (.cells cur e (0,0)))
  (ad:Addr) (m c:Nat) (news:List Value) (hx:a.eval x=.slice (some ad) m c) (hl:news.length=m*size) (hnews:∀j u,news[j]? = some u→w.cell? (ad.add j)=some u) (h1:∀u∈news,u.oneCell'=true)
  (hroom:n+m≤cap) (hfit:n*size+news.length≤cur.size)
  (h:∀w',w'=w.setRow g (cur.toList.take (n*size)++news++cur.toList.drop (n*size+news.length)).toArray→K (a.put o.dst (.slice (some ⟨g,0,none⟩) (n+m) cap)) w') :
  if Region.wanted o (yielded ops a.tmps)=true then Oper.wp P o a w K Q else E:=by
 have hw:Region.wanted o (yielded ops a.tmps)=true:=by simp [Region.wanted,hgd]
 rw [if_pos hw]
 subst hsize
 have hrun:=run_append_room (P:=P) w t o.type e i ht hi g n cap cur hg ad m c news hl hnews h1 hroom hfit
 unfold Oper.wp execOp
 simp only [ho,resolve,invoke,builtin,Sem.run_bind,Sem.run_pure,Result.andThen_ok,List.map_toArray,List.map_cons,List.map_nil,hs,hx,hrun]
 exact h _ rfl
end
theorem Vb (w:World) (x y z u v:Value) (t:TypeId):∀j r,[x,y,z,u,v][j]? = some r→(w.alloc (.cells #[x,y,z,u,v] t)).cell? ((⟨w.heap.size,0,none⟩:Addr).add j)=some r:=by
 intro j r hu
 rw [pI,Nat.zero_add,cell_of_row _ _ _ _ _ (0,0) (heap_alloc_new w _)]
 match j,hu with
 | 0,hu=>exact hu
 | 1,hu=>exact hu
 | 2,hu=>exact hu
 | 3,hu=>exact hu
 | 4,hu=>exact hu
 | j+5,hu=>simp at hu
theorem fZ.snoc {w w6:World} {p gs cap:Nat} {ok:Nat→Prop} {S:List St} {s:St} {vs:List Value} {cur:Array Value} (h:fZ w p gs cap ok S) (hs:Ah w ok s vs) (hroom:S.length+1≤cap) (ht:ak (fun k=>k=p∨k=gs) w w6) (hb:Bk w6 96 p #[.slice (some ⟨gs,0,none⟩) (S.length+1) cap])
  (hc:Bk w 158 gs cur) (hz:cur.size=cap*5) (hr:Bk w6 158 gs (cur.toList.take (S.length*5)++vs++cur.toList.drop (S.length*5+5)).toArray):fZ w6 p gs cap ok (S++[s]):=by
 obtain ⟨A,n,c,A2,c2,e1,_⟩:=hs.ex
 have hv:vs.length=5:=by rw [e1]; rfl
 have hcl:cur.toList.length=cur.size:=Array.length_toList
 have hlen:(cur.toList.take (S.length*5)).length=S.length*5:=by rw [List.length_take,hcl,hz]; omega
 have hok:∀b,ok b→b<w.heap.size→¬(b=p∨b=gs):=fun b h1 _ h2=>by
  rcases h2 with rfl | rfl
  ·exact h.okp.1 h1
  ·exact h.okp.2 h1
 refine ⟨by rw [List.length_append]; exact hb,⟨_,hr,?_,fun q t hq=> ?_⟩,by rw [List.length_append]; exact hroom,h.big,h.okp⟩
 ·simp only [List.size_toArray,List.length_append,hlen,hv,List.length_drop,hcl]
  omega
 ·obtain ⟨cur',k1,k2,k3⟩:=h.row
  have hcc:cur'=cur:=by
   have:=k1.symm.trans hc
   injection this with this
   injection this
  subst hcc
  by_cases hlt:q<S.length
  ·rw [List.getElem?_append_left hlt] at hq
   obtain ⟨us,h4,h5⟩:=k3 q t hq
   refine ⟨us,h4.turned ht hok,fun d hd=> ?_⟩
   rw [←h5 d hd,List.getElem?_toArray,List.append_assoc,List.getElem?_append_left (by rw [hlen]; omega),List.getElem?_take,if_pos (by omega),Array.getElem?_toList]
  ·have hq2:=(List.getElem?_eq_some_iff.1 hq).1
   rw [List.length_append,List.length_singleton] at hq2
   obtain rfl:q=S.length:=by omega
   rw [List.getElem?_append_right (Nat.le_refl _),Nat.sub_self] at hq
   simp at hq
   subst hq
   refine ⟨vs,hs.turned ht hok,fun d hd=> ?_⟩
   rw [List.getElem?_toArray,List.append_assoc,List.getElem?_append_right (by rw [hlen]; omega),hlen,List.getElem?_append_left (by rw [hv]; omega)]
   congr 1
   omega
theorem Mi {w1 w5 X:World} {p gs:Nat} {cs cur pc:Array Value} (hX:Below w1.heap.size w1 X) (hw5:w5=X.setRow gs cs) (px:Bk w1 96 p pc) (rx:Bk w1 158 gs cur) :
  Bk w5 96 p pc∧Bk w5 158 gs cs∧ak (· = gs) w1 w5:=by
 subst hw5
 have hne:p≠gs:=px.ne rx (by decide)
 refine ⟨(setRow_other X gs p cs hne).trans ((hX.block p px.lt).trans px),setRow_heap X gs cur cs _ _ ((hX.block gs rx.lt).trans rx),hX.os,hX.tape,hX.output,?_,fun k hk hn=>(setRow_other X gs k cs hn).trans (hX.block k hk)⟩
 rw [size_setRow]
 exact hX.size
theorem uE (p gs cap:Nat) (ok:Nat→Prop) (S:List St) (s:St) (k:Int) (A A2:Option Addr) (n c n2 c2:Nat) (nt:Bool) (nx:Nat) (w:World) (h:fZ w p gs cap ok S) (hroom:S.length+1≤cap) (hs:Ah w ok s [.int .i64 k,.slice A n c,.bool nt,.int .i64 (nx:Int),.slice A2 n2 c2]) :
  Calls Tryz.prog 93 #[.pointer (some ⟨p,0,none⟩),.agg #[.int .i64 k,.slice A n c,.bool nt,.int .i64 (nx:Int),.slice A2 n2 c2]] w
   fun e w'=>e=.returned (.int .i64 (S.length:Int))∧fZ w' p gs cap ok (S++[s])∧ak (fun k=>k=p∨k=gs) w w':=by
 obtain ⟨i0,hi,hz0,hz1,hz2⟩:=info_parts infoSt
 obtain ⟨w1,hw1⟩:∃w1,w.alloc (.cells #[.int .i64 k,.slice A n c,.bool nt,.int .i64 (nx:Int),.slice A2 n2 c2] 158)=w1:=⟨_,rfl⟩
 have b1:Below w.heap.size w w1:=by rw [←hw1]; exact (Below.refl _ _).alloc (Nat.le_refl _) _
 have k1:Bk w1 158 w.heap.size #[.int .i64 k,.slice A n c,.bool nt,.int .i64 (nx:Int),.slice A2 n2 c2]:=by rw [←hw1]; exact heap_alloc_new w _
 have y0:=Bk.get k1 0
 have y1:=Bk.get k1 1
 have y2:=Bk.get k1 2
 have y3:=Bk.get k1 3
 have y4:=Bk.get k1 4
 obtain ⟨cur,r1,r2,r3⟩:=h.row
 have hlt:=h.lt
 have px:Bk w1 96 p #[.slice (some ⟨gs,0,none⟩) S.length cap]:=(b1.block p hlt.1).trans h.box
 have rx:Bk w1 158 gs cur:=(b1.block gs hlt.2).trans r1
 have x0:w1.cell? ⟨p,0,none⟩=some (.slice (some ⟨gs,0,none⟩) S.length cap):=Bk.get px 0
 have xf:=Bk.free px 0
 have H:=Lib.hid h
 have HS:=Lib.hid hs
 have B1:=Lib.hid b1
 have PX:=Lib.hid px
 have RX:=Lib.hid rx
 have R:=Lib.hid (And.intro r1 r2)
 have HI:=Lib.hid (And.intro hi hz1)
 obtain ⟨m,hm⟩:∃m,S.length=m:=⟨_,rfl⟩
 have HM:=Lib.hid hm
 have hbig:=h.big
 have hsub:IntKind.i64.wrap (((m+1:Nat):Int) - 1)=(m:Int):=by rw [IntWalk.i64_in _ (by omega)]; omega
 have hsub2:IntKind.i64.wrap ((m:Int)+1 - 1)=(m:Int):=by rw [IntWalk.i64_in _ (by omega)]; omega
 rw [hm] at x0 hroom ⊢
 have x0':(w1.alloc (.cells #[.int .i64 k,.slice A n c,.bool nt,.int .i64 (nx:Int),.slice A2 n2 c2] 158)).cell? ⟨p,0,none⟩=some (.slice (some ⟨gs,0,none⟩) m cap):=(((Below.refl w1.heap.size w1).alloc (Nat.le_refl _) _).cell (p:=⟨p,0,none⟩) PX.out.lt).trans x0
 clear h hs b1 k1 px rx r1 r2 r3 hlt hm hi hz0 hz1 hz2
 go_enter Tryz.func93,Tryz.ntmps93
 go_wp2_with fail
 go_region_law (refine Pg rfl _ _ 94 rfl 158 i0 5 Tryz.underlying94 HI.out.1 HI.out.2 gs m cap cur rfl (((Below.refl w1.heap.size w1).alloc (Nat.le_refl _) _).block gs RX.out.lt |>.trans RX.out) ⟨w1.heap.size,0,none⟩ 1 1 [.int .i64 k,.slice A n c,.bool nt,.int .i64 (nx:Int),.slice A2 n2 c2] rfl rfl (Vb w1 _ _ _ _ _ _) (by intro u hu; simp at hu; rcases hu with rfl | rfl | rfl | rfl | rfl<;>rfl) hroom (by have:=R.out.2; simp; omega) ?_; intro w5 hw5; obtain ⟨k5,r5,t5⟩:=Mi (w1:=w1) (((Below.refl w1.heap.size w1).alloc (Nat.le_refl _) _).drew) hw5 PX.out RX.out; (have e5:=Bk.get k5 0); (have f5:=Bk.free k5 0); (have K5:=Lib.hid k5); (have R5:=Lib.hid r5); (have T5:=Lib.hid t5); clear hw5 k5 r5 t5)
 all_goals
  obtain ⟨w6,hw6⟩:∃w6,w5.setCell ⟨p,0,none⟩ (.slice (some ⟨gs,0,none⟩) (m+1) cap)=w6:=⟨_,rfl⟩
  have b6:Bk w6 96 p #[.slice (some ⟨gs,0,none⟩) (m+1) cap]:=by rw [←hw6]; exact Bk.put K5.out 0 _
  have t6:ak (· = p) w5 w6:=by rw [←hw6]; exact ak.bR p 0 w5 _
  have x6:w6.cell? ⟨p,0,none⟩=some (.slice (some ⟨gs,0,none⟩) (m+1) cap):=Bk.get b6 0
  have T6:=Lib.hid (show ak (fun k=>k=p∨k=gs) w w6 from (((ak.aH B1.out (fun _=>False)).mono (M':=fun k=>k=p∨k=gs) (fun _ _ h=>h.elim)).trans T5.out (fun _ _ h=>.inr h)).trans t6 (fun _ _ h=>.inl h))
  have Z:=Lib.hid (H.out.snoc (w6:=w6) HS.out (by rw [HM.out]; exact hroom) T6.out (by rw [HM.out]; exact b6) R.out.1 R.out.2 (by rw [HM.out]; exact t6.bk R5.out (fun e=>H.out.ne e.symm)))
  clear e5 f5 K5 R5 T5 b6 t6 x0 x0' xf y0 y1 y2 y3 y4
  first | rw [hw6] | skip
  clear hw6 hw1
  go_wp2_with fail
  go_ret
  exact ⟨rfl,Z.out,T6.out⟩
end NF
