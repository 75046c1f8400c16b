import Derived.Test.YteemnmalikomgaaGreatDoorQSwBase12
set_option maxRecDepth 100000
set_option maxHeartbeats 6400000
noncomputable section
namespace Go.Proofs.YteemnmalikomgaaGreatDoor
open Go.ChangeShapes Go.WideShapes Go.ChangeAt Go.RowKit
namespace NF
theorem Am:∀ {ks:List Nd} {i:Nat} {y:Nd},ks[i]? = some y→dI (ks.take (i+1))=max (dI (ks.take i)) (deep y)
 | [],i,y,h=>by simp at h
 | z::zs,0,y,h=>by
  simp at h
  subst h
  simp [dI]
 | z::zs,i+1,y,h=>by
  have:=Am (ks:=zs) (i:=i) (y:=y) (by simpa using h)
  rw [List.take_succ_cons,List.take_succ_cons,dI,dI,this]
  omega
theorem Gv:∀(fuel:Nat) (t:Nd) (x:Nv) (lo B:Nat) (w:World),deep t≤fuel→deep t≤4611686018427387904→B≤w.heap.size→bQ w lo B t x →
  Calls Tryz.prog 63 #[x.v] w fun e w'=>e=.returned (.int .i64 (deep t:Int))∧Below w.heap.size w w':=by
 intro fuel
 induction fuel with
 | zero =>
  intro t x lo B w hf
  cases t
  rw [deep] at hf
  omega
 | succ fuel ih =>
  intro t x lo B w hf hct hBw hx
  obtain ⟨k0,s0,nt0,ks,mn0,mx0⟩:=t
  rw [bQ] at hx
  obtain ⟨e1,e2,e3,e4,xs,ho,hk⟩:=hx
  obtain ⟨k,A,n,c,nt,A2,n2,c2,mn,mx⟩:=x
  dsimp only at e1 e2 e3 e4
  subst e1 e2 e3 e4
  obtain ⟨w1,hw1,k1,b1,z1⟩:=bX w k A n c nt A2 n2 c2 mn mx
  have hcs:deep (.mk k s0 nt ks mn mx)=dI ks+1:=by rw [deep]
  rw [hcs] at hf
  rw [hcs] at hct ⊢
  have hlen:ks.length=n2:=ho.len
  have hm2:n2≤1759218604441:=ho.many2
  have K1:=Lib.hid k1
  have OW:=Lib.hid ho
  have KW:=Lib.hid hk
  have HF:=Lib.hid hf
  have CT:=Lib.hid hct
  have HL:=Lib.hid hlen
  have HB:=Lib.hid hBw
  have Z1:=Lib.hid z1
  have I0:=Lib.hid (show Below w.heap.size w w1∧Below w1.heap.size w1 w1 from ⟨b1,Below.refl _ _⟩)
  obtain ⟨CK,hCK⟩:∃v,dI ks=v:=⟨_,rfl⟩
  have CKH:=Lib.hid hCK
  rw [hCK]
  dsimp only [Nv.v]
  clear ho hk k1 b1 z1 hlen hBw hf hcs hct hCK
  go_enter Tryz.func63,Tryz.ntmps63
  go_wp2_with fail
  go_loopw [4,3] (fun y s3 wr=>∃i m:Nat,y=.int .i64 (i:Int)∧i≤n2∧s3=.int .i64 (m:Int)∧m≤4611686018427387904∧Hid (m=dI (ks.take i))∧Hid (Below w.heap.size w wr∧Below w1.heap.size w1 wr)) (fun y _ _=>n2 - (intOf y).toNat)
  case atStart=>exact ⟨0,0,rfl,Nat.zero_le _,rfl,by omega,Lib.hid (by simp [dI]),I0⟩
  case round =>
   obtain ⟨i,m,rfl,hi,rfl,hm,MH,I⟩:=hrel
   clear I0 hw1
   have hi0:(0:Int)≤(i:Int):=by omega
   have hinc:IntKind.i64.wrap ((i:Int)+1)=(i:Int)+1:=IntWalk.i64_in _ (by omega)
   have nb:=K1.out.below I.out.2 (by rw [Z1.out]; omega)
   obtain ⟨y0,y1,y2,y3,y4,y5⟩:=aB nb
   by_cases hlt:i<n2
   ·obtain ⟨y,hy⟩:∃y,ks[i]? = some y:=⟨_,List.getElem?_eq_getElem (by rw [HL.out]; exact hlt)⟩
    obtain ⟨xi,hxi,hin⟩:=(KW.out.below (I.out.1.mono HB.out)).at i y hy
    obtain ⟨b,off,rfl,_,nv⟩:=nM (OW.out.carry fun p hp=>I.out.1.cell (Nat.lt_of_lt_of_le hp HB.out)).kids hxi hlt
    obtain ⟨ki,Ai,ni,ci,nti,A2i,n2i,c2i,mni,mxi⟩:=xi
    obtain ⟨u0,u1,u2,u3,u4,u5⟩:=oG nv
    have hi1:(i:Int)<(n2:Int):=by omega
    have q1:=Am hy
    have q3:=uz hy
    have hcc:=CT.out
    have IH:=Lib.hid (ih y ⟨ki,Ai,ni,ci,nti,A2i,n2i,c2i,mni,mxi⟩ lo B wr (by have:=HF.out; omega) (by omega) (Nat.le_trans HB.out I.out.1.size) (hin.below (Below.refl _ _)))
    obtain ⟨m1,hm1⟩:∃v,deep y=v:=⟨_,rfl⟩
    rw [hm1] at IH q1 q3
    have hmh:=MH.out
    obtain ⟨mm,hmm⟩:∃v,max m m1=v:=⟨_,rfl⟩
    have hmax:max (m:Int) (m1:Int)=(mm:Int):=by omega
    have M2:=Lib.hid (show mm=dI (ks.take (i+1)) from by rw [q1,←hmm,hmh])
    have ML:=Lib.hid (show mm≤4611686018427387904 from by omega)
    have IN:=Lib.hid I.out
    dsimp only [Nv.v] at IH
    clear hin nv nb I hy hxi hm1 q1 q3 hcc hmh MH hm hmm
    go_wp2_with fail
    refine IH.out.mono ?_
    rintro e w5 ⟨rfl,b7⟩
    have I5:=Lib.hid (show Below w.heap.size w w5∧Below w1.heap.size w1 w5 from ⟨IN.out.1.trans (b7.mono IN.out.1.size),IN.out.2.trans (b7.mono IN.out.2.size)⟩)
    clear IH b7 u0 u1 u2 u3 u4 u5 y0 y1 y2 y3 y4 y5 IN
    go_wp2_with fail
    go_roundw
    case rel=>exact ⟨i+1,mm,by first | rfl | (congr 1; done) | (congr 1; omega),by omega,by first | rfl | (congr 1; done) | (congr 1; omega),ML.out,M2,I5⟩
    case measure=>first | (simp [intOf]; done) | (simp [intOf]; omega)
   ·obtain rfl:i=n2:=by omega
    have F:=Lib.hid (show m=CK from by have:=MH.out; rw [List.take_of_length_le (by rw [HL.out]; exact Nat.le_refl _),CKH.out] at this; exact this)
    have IN:=Lib.hid I.out.1
    have hck:=CT.out
    rw [CKH.out] at hck
    have hadd:IntKind.i64.wrap ((CK:Int)+1)=(CK:Int)+1:=IntWalk.i64_in _ (by omega)
    obtain rfl:=F.out
    clear MH I hm nb hck
    go_wp2_with fail
    go_ret
    exact ⟨rfl,IN.out⟩
end NF
namespace NF
theorem zF {k:Int} {s:Sg} {nt:Bool} {n:Nat} {mn mx:Int} (h:aP k s nt n mn mx=true) (h3:k≠3) (h4:k≠4) (h5:k≠5):n=0:=by
 unfold aP at h
 split at h
 ·simp at h; exact h.1.1.2
 ·rw [if_neg (by omega)] at h
  try rw [if_neg h5] at h
  split at h
  ·simp at h; exact h.1.1.2
  ·cases h
theorem KO {c m k C:Nat} (hk:0<k) (h:m=min c C):min (m*k+1) C=min (c*k+1) C:=by
 subst h
 rcases Nat.le_total c C with h1 | h1
 ·rw [Nat.min_eq_left h1]
 ·rw [Nat.min_eq_right h1]
  have h2:C*1≤C*k:=Nat.mul_le_mul_left C hk
  have h3:C*k≤c*k:=Nat.mul_le_mul_right k h1
  omega
theorem KQ {m k C:Nat} (hm:m≤C) (hk:k≤10):m*k≤C*10:=Nat.mul_le_mul hm hk
theorem wrap_small (x:Nat) (h:x≤100000000):IntKind.i64.wrap (x:Int)=(x:Int):=IntWalk.i64_in _ (by omega)
theorem Gw {v C:Nat} (h:(C:Int)<(v:Int)):min C C=min v C:=by omega
theorem Gx {v C:Nat} (h:¬(C:Int)<(v:Int)):v≤C+1:=by omega
theorem Gy {v u C:Nat} (h:min v C=u):min (v:Int) (C:Int)=(u:Int):=by omega
theorem Gz {v u C:Nat} (h:min v C=u):u≤C+1∧min u C=min v C:=by omega
theorem Pn {a:Int} {m c:Nat} (h0:0≤a) (h9:a≤9) (hm:m≤1000000) (hmc:m=min c 1000000) :
  ∃(P:Int) (v:Nat),IntKind.i64.wrap (a+1)=a+1∧IntKind.i64.wrap ((m:Int)*(a+1))=P∧IntKind.i64.wrap (P+1)=(v:Int)∧min v 1000000=min (c*(a.toNat+1)+1) 1000000:=by
 obtain ⟨k,hk⟩:∃k,a.toNat+1=k:=⟨_,rfl⟩
 have hak:a+1=(k:Int):=by omega
 have hk1:0<k:=by omega
 have hk10:k≤10:=by omega
 have hmk:=KQ hm hk10
 rw [hak,hk,←KO hk1 hmc,show (m:Int)*(k:Int)=((m*k:Nat):Int) from (Int.natCast_mul m k).symm]
 generalize m*k=q at hmk ⊢
 refine ⟨(q:Int),q+1,wrap_small k (by omega),wrap_small q (by omega),?_,rfl⟩
 rw [show (q:Int)+1=((q+1:Nat):Int) from rfl]
 exact wrap_small _ (by omega)
theorem Mq {b:Int} {m c:Nat} (h0:0≤b) (h9:b≤9) (hm:m≤1000000) (hmc:m=min c 1000000) :
  ∃(P:Int) (v:Nat),IntKind.i64.wrap ((m:Int)*b)=P∧IntKind.i64.wrap (P+1)=(v:Int)∧min v 1000000=min (c*b.toNat+1) 1000000:=by
 obtain ⟨k,rfl⟩:∃k:Nat,b=(k:Int):=⟨b.toNat,by omega⟩
 have hk10:k≤10:=by omega
 have hmk:=KQ hm hk10
 have he:min (m*k+1) 1000000=min (c*k+1) 1000000:=by
  rcases Nat.eq_zero_or_pos k with h | h
  ·rw [h]; simp
  ·exact KO h hmc
 rw [Int.toNat_natCast,←he,show (m:Int)*(k:Int)=((m*k:Nat):Int) from (Int.natCast_mul m k).symm]
 generalize m*k=q at hmk ⊢
 refine ⟨(q:Int),q+1,wrap_small q (by omega),?_,rfl⟩
 rw [show (q:Int)+1=((q+1:Nat):Int) from rfl]
 exact wrap_small _ (by omega)
theorem GD:∀ {ks:List Nd} {i:Nat} {y:Nd},ks[i]? = some y→bf (ks.take (i+1))=bf (ks.take i)+wt y
 | [],i,y,h=>by simp at h
 | z::zs,0,y,h=>by
  simp at h
  subst h
  simp [bf]
 | z::zs,i+1,y,h=>by
  have:=GD (ks:=zs) (i:=i) (y:=y) (by simpa using h)
  rw [List.take_succ_cons,List.take_succ_cons,bf,bf,this]
  omega
theorem Cy:∀(fuel:Nat) (t:Nd) (x:Nv) (lo B:Nat) (w:World),deep t≤fuel→may t=true→B≤w.heap.size→bQ w lo B t x →
  Calls Tryz.prog 19 #[x.v] w fun e w'=>∃v:Nat,e=.returned (.int .i64 (v:Int))∧v≤1000001∧min v 1000000=min (wt t) 1000000∧Below w.heap.size w w':=by
 intro fuel
 induction fuel with
 | zero =>
  intro t x lo B w hf
  cases t
  rw [deep] at hf
  omega
 | succ fuel ih =>
  intro t x lo B w hf hct hBw hx
  obtain ⟨k0,s0,nt0,ks,mn0,mx0⟩:=t
  rw [bQ] at hx
  obtain ⟨e1,e2,e3,e4,xs,ho,hk⟩:=hx
  obtain ⟨k,A,n,c,nt,A2,n2,c2,mn,mx⟩:=x
  dsimp only at e1 e2 e3 e4
  subst e1 e2 e3 e4
  obtain ⟨w1,hw1,k1,b1,z1⟩:=bX w k A n c nt A2 n2 c2 mn mx
  rw [deep] at hf
  obtain ⟨ma,mk⟩:=eP hct
  have hwt:wt (.mk k s0 nt ks mn mx)=if k=3 then bf ks else if k=5 then (if mx<0 then bf ks*(mn.toNat+1)+1 else bf ks*mx.toNat+1) else bf ks+1:=by rw [wt]
  rw [hwt]
  have MA:=Lib.hid ma
  have hlen:ks.length=n2:=ho.len
  have hm2:n2≤1759218604441:=ho.many2
  have K1:=Lib.hid k1
  have OW:=Lib.hid ho
  have KW:=Lib.hid hk
  have HF:=Lib.hid hf
  have CT:=Lib.hid mk
  have HL:=Lib.hid hlen
  have HB:=Lib.hid hBw
  have Z1:=Lib.hid z1
  have I0:=Lib.hid (show Below w.heap.size w w1∧Below w1.heap.size w1 w1 from ⟨b1,Below.refl _ _⟩)
  obtain ⟨CK,hCK⟩:∃v,bf ks=v:=⟨_,rfl⟩
  have CKH:=Lib.hid hCK
  rw [hCK]
  dsimp only [Nv.v]
  clear ho hk k1 b1 z1 hlen hBw hf hct hCK ma mk hwt
  go_enter Tryz.func19,Tryz.ntmps19
  go_wp2_with fail
  go_loopw [4,3] (fun y s3 wr=>∃i m:Nat,y=.int .i64 (i:Int)∧i≤n2∧s3=.int .i64 (m:Int)∧m≤1000000∧Hid (m=min (bf (ks.take i)) 1000000)∧Hid (Below w.heap.size w wr∧Below w1.heap.size w1 wr)) (fun y _ _=>n2 - (intOf y).toNat)
  case atStart=>exact ⟨0,0,rfl,Nat.zero_le _,rfl,by omega,Lib.hid (by simp [bf]),I0⟩
  case round =>
   obtain ⟨i,m,rfl,hi,rfl,hm,MH,I⟩:=hrel
   clear I0 hw1
   have hi0:(0:Int)≤(i:Int):=by omega
   have hinc:IntKind.i64.wrap ((i:Int)+1)=(i:Int)+1:=IntWalk.i64_in _ (by omega)
   have nb:=K1.out.below I.out.2 (by rw [Z1.out]; omega)
   obtain ⟨y0,y1,y2,y3,y4,y5⟩:=aB nb
   by_cases hlt:i<n2
   ·obtain ⟨y,hy⟩:∃y,ks[i]? = some y:=⟨_,List.getElem?_eq_getElem (by rw [HL.out]; exact hlt)⟩
    obtain ⟨xi,hxi,hin⟩:=(KW.out.below (I.out.1.mono HB.out)).at i y hy
    obtain ⟨b,off,rfl,_,nv⟩:=nM (OW.out.carry fun p hp=>I.out.1.cell (Nat.lt_of_lt_of_le hp HB.out)).kids hxi hlt
    obtain ⟨ki,Ai,ni,ci,nti,A2i,n2i,c2i,mni,mxi⟩:=xi
    obtain ⟨u0,u1,u2,u3,u4,u5⟩:=oG nv
    have hi1:(i:Int)<(n2:Int):=by omega
    have q3:=uz hy
    have q1:bf (ks.take (i+1))=bf (ks.take i)+wt y:=GD hy
    have IH:=Lib.hid (ih y ⟨ki,Ai,ni,ci,nti,A2i,n2i,c2i,mni,mxi⟩ lo B wr (by have:=HF.out; omega) (yD CT.out hy) (Nat.le_trans HB.out I.out.1.size) (hin.below (Below.refl _ _)))
    have Q1:=Lib.hid q1
    have IN:=Lib.hid I.out
    dsimp only [Nv.v] at IH
    clear hin nv nb I hy hxi q1 q3
    go_wp2_with fail
    refine IH.out.mono ?_
    rintro e w5 ⟨m1,rfl,hv1,hv2,b7⟩
    have hmh:=MH.out
    have hadd:IntKind.i64.wrap ((m:Int)+(m1:Int))=(m:Int)+(m1:Int):=IntWalk.i64_in _ (by omega)
    obtain ⟨mm,hmm⟩:∃v,min (m+m1) 1000000=v:=⟨_,rfl⟩
    have hmin:min ((m:Int)+(m1:Int)) 1000000=(mm:Int):=by omega
    have M2:=Lib.hid (show mm=min (bf (ks.take (i+1))) 1000000 from by rw [Q1.out]; omega)
    have ML:=Lib.hid (show mm≤1000000 from by omega)
    clear hmh hmm hv1 hv2 MH hm Q1
    have I5:=Lib.hid (show Below w.heap.size w w5∧Below w1.heap.size w1 w5 from ⟨IN.out.1.trans (b7.mono IN.out.1.size),IN.out.2.trans (b7.mono IN.out.2.size)⟩)
    clear IH b7 u0 u1 u2 u3 u4 u5 y0 y1 y2 y3 y4 y5 IN
    go_wp2_with fail
    go_roundw
    case rel=>exact ⟨i+1,mm,by first | rfl | (congr 1; done) | (congr 1; omega),by omega,by first | rfl | (congr 1; done) | (congr 1; omega),ML.out,M2,I5⟩
    case measure=>first | (simp [intOf]; done) | (simp [intOf]; omega)
   ·obtain rfl:i=n2:=by omega
    have F:=Lib.hid (show m=min CK 1000000 from by have:=MH.out; rw [List.take_of_length_le (by rw [HL.out]; exact Nat.le_refl _),CKH.out] at this; exact this)
    have IN:=Lib.hid I.out.1
    have L0:=Lib.hid (show ks.length=0→CK=0 from fun h=>by rw [←CKH.out,List.length_eq_zero_iff.1 h,bf])
    have hml:=hm
    clear MH I nb
    have hma:=MA.out
    rcases zG hma with rfl | rfl | rfl | rfl | rfl | rfl
    ·have hz:=L0.out (zF hma (by decide) (by decide) (by decide))
     clear hma
     go_wp2_with fail
     go_ret
     exact ⟨1,rfl,by omega,by first | omega | (simp; omega),IN.out⟩
    ·clear hma
     go_wp2_with fail
     go_ret
     exact ⟨m,rfl,by omega,by have:=F.out; first | omega | (simp; omega),IN.out⟩
    ·clear hma
     have hadd:IntKind.i64.wrap ((m:Int)+1)=(m:Int)+1:=IntWalk.i64_in _ (by omega)
     go_wp2_with fail
     go_ret
     exact ⟨m+1,by first | rfl | (congr 1; congr 1; omega),by omega,by have:=F.out; first | omega | (simp; omega),IN.out⟩
    ·obtain ⟨_,r1,r2,r3⟩:=lJ hma
     clear hma
     by_cases hmx:mx<0
     ·obtain ⟨P,v,f1,f2,f3,g2⟩:=Pn r1 r2 hm F.out
      have G:=Lib.hid g2
      have G1:=Lib.hid (show 1000000<(v:Int)→min 1000000 1000000=min v 1000000 from fun h=>Gw (C:=1000000) h)
      have G2:=Lib.hid (show ¬1000000<(v:Int)→v≤1000001 from fun h=>Gx (C:=1000000) h)
      obtain ⟨u,hu⟩:∃u,min v 1000000=u:=⟨_,rfl⟩
      have hmn:min (v:Int) 1000000=(u:Int):=Gy (C:=1000000) hu
      have U:=Lib.hid (Gz hu)
      clear g2 r1 r2 r3 hu
      go_wp2_with fail
      all_goals go_ret
      all_goals first
       | exact ⟨u,rfl,U.out.1,U.out.2.trans G.out,IN.out⟩
       | exact ⟨1000000,rfl,by decide,(G1.out (by assumption)).trans G.out,IN.out⟩
       | exact ⟨v,rfl,G2.out (by first | assumption | omega),G.out,IN.out⟩
     ·obtain ⟨P,v,f2,f3,g2⟩:=Mq (show 0≤mx by omega) (show mx≤9 by omega) hm F.out
      have G:=Lib.hid g2
      have G1:=Lib.hid (show 1000000<(v:Int)→min 1000000 1000000=min v 1000000 from fun h=>Gw (C:=1000000) h)
      have G2:=Lib.hid (show ¬1000000<(v:Int)→v≤1000001 from fun h=>Gx (C:=1000000) h)
      obtain ⟨u,hu⟩:∃u,min v 1000000=u:=⟨_,rfl⟩
      have hmn:min (v:Int) 1000000=(u:Int):=Gy (C:=1000000) hu
      have U:=Lib.hid (Gz hu)
      clear g2 r1 r2 r3 hu
      go_wp2_with fail
      all_goals go_ret
      all_goals first
       | exact ⟨u,rfl,U.out.1,U.out.2.trans G.out,IN.out⟩
       | exact ⟨1000000,rfl,by decide,(G1.out (by assumption)).trans G.out,IN.out⟩
       | exact ⟨v,rfl,G2.out (by first | assumption | omega),G.out,IN.out⟩
    ·have hz:=L0.out (zF hma (by decide) (by decide) (by decide))
     clear hma
     go_wp2_with fail
     go_ret
     exact ⟨1,rfl,by omega,by first | omega | (simp; omega),IN.out⟩
    ·have hz:=L0.out (zF hma (by decide) (by decide) (by decide))
     clear hma
     go_wp2_with fail
     go_ret
     exact ⟨1,rfl,by omega,by first | omega | (simp; omega),IN.out⟩
end NF
namespace NF
def bools (L:List Bool):List Value:=L.map Value.bool
def wS (w:World) (g:Nat) (L:List Bool):Prop:=Bk w 4 g (bools L).toArray
theorem wS.get {w:World} {g:Nat} {L:List Bool} (h:wS w g L) {i:Nat} {b:Bool} (hi:L[i]? = some b):w.cell? ⟨g,i,none⟩=some (.bool b):=by
 rw [Bk.get h i]
 simp [bools,hi]
theorem wS.set {w:World} {g:Nat} {L:List Bool} (h:wS w g L) (i:Nat) (b:Bool):wS (w.setCell ⟨g,i,none⟩ (.bool b)) g (L.set i b):=by
 have:=Bk.put h i (.bool b)
 unfold wS
 have e:(bools (L.set i b)).toArray=(bools L).toArray.setIfInBounds i (.bool b):=by
  simp [bools,List.map_set]
 rw [e]
 exact this
theorem wS.sq {w:World} {g:Nat} {L:List Bool} (h:wS w g L):Sq w w.heap.size 1 L.length (some ⟨g,0,none⟩) (bools L) :=
 ⟨by simp [bools],fun _=>⟨g,0,rfl,Bk.lt h,fun j u hu=>by rw [Nat.zero_add,Bk.get h j]; simpa using hu⟩⟩
theorem Sj (w:World) (cs:Array Value) (t:TypeId) (size n:Nat) (hn:cs.toList.length=n*size):Sq (w.alloc (.cells cs t)) (w.alloc (.cells cs t)).heap.size size n (some ⟨w.heap.size,0,none⟩) cs.toList :=
 ⟨hn,fun _=>⟨_,0,rfl,by simp,fun j u hu=>by
  rw [cell_of_row _ _ _ _ _ (0,0) (heap_alloc_new w _),Nat.zero_add]
  simpa using hu⟩⟩
end NF
namespace NF
theorem GH (t:Nd) (x:Nv) (lo:Nat) (w:World) (hd:deep t≤1000000) (hx:bQ w lo w.heap.size t x) :
  Calls Tryz.prog 63 #[x.v] w fun e w'=>e=.returned (.int .i64 (deep t:Int))∧Below w.heap.size w w' :=
 Gv (deep t) t x lo w.heap.size w (Nat.le_refl _) (by omega) (Nat.le_refl _) hx
end NF
end Go.Proofs.YteemnmalikomgaaGreatDoor
namespace Go.Proofs.YteemnmalikomgaaGreatDoor.NF
def yG (L:List Nat) (a:Int):Int :=
 match L.getLast? with
 | .none=>0
 | .some e=>(e:Int) - a
def oJ (l:List Int) (t:Nd) (n a:Nat):Int:=yG (dJ (fun e=>jd l t a e) (n+1)) (a:Int)
theorem Mr {L:List Nat} {m e:Nat} (a:Int) (hl:L.length=m+1) (he:L[m]? = some e):yG L a=(e:Int) - a:=by
 unfold yG
 rw [List.getLast?_eq_getElem?,hl,Nat.add_sub_cancel,he]
theorem Sk {P:Nat→Prop} {k e:Nat} (h:e∈dJ P k):e<k:=by
 unfold dJ at h
 exact List.mem_range.1 (List.mem_filter.1 h).1
def qP (f:Nat→Int):Nat→Nat→Option Nat
 | _,0=>.none
 | i,k+1=>if 0<f i then .some i else qP f (i+1) k
end Go.Proofs.YteemnmalikomgaaGreatDoor.NF
namespace Go.Proofs.YteemnmalikomgaaGreatDoor
open Go.ChangeShapes Go.WideShapes Go.ChangeAt Go.RowKit
namespace NF
def GI (l:List Int) (t:Nd) (n:Nat) (z:Int):Int:=if 0≤z∧z≤(n:Int) then oJ l t n z.toNat else 0
def Ms (v:Int) (w:World) (e:Ending) (w':World):Prop:=e=.returned (.int .i64 v)∧Below w.heap.size w w'
def uJ (f:Nat→Int):Option Nat→Value
 | .none=>.tuple #[.int .i64 0,.int .i64 0,.bool false]
 | .some a=>.tuple #[.int .i64 (a:Int),.int .i64 (f a),.bool true]
def Mt (f:Nat→Int) (o:Option Nat) (w:World) (e:Ending) (w':World):Prop:=e=.returned (uJ f o)∧Below w.heap.size w w'
theorem Po {l:List Int} {t:Nd} {n a m e:Nat} (ha:a≤n) (hn:n≤1000000) (he:(dJ (fun e=>jd l t a e) (n+1))[m]? = some e):IntKind.i64.wrap ((e:Int) - (a:Int))=(e:Int) - a:=by
 have:=Sk (List.mem_of_getElem? he)
 exact IntWalk.i64_in _ (by omega)
theorem Ao (L:List Nat) (P:Value) (A:Option Addr) (n c:Nat) (z:Int) (w:World) (hn:L.length≤1000001) (hw:∀(m e:Nat),L[m]? = some e→IntKind.i64.wrap ((e:Int) - z)=(e:Int) - z)
  (EP:Calls Tryz.prog 16 #[P,.slice A n c,.int .i64 z] w fun e w'=>jR L w e w') :
  Calls Tryz.prog 28 #[P,.slice A n c,.int .i64 z] w fun e w'=>Ms (yG L z) w e w':=by
 have E1:=Lib.hid EP
 have HW:=Lib.hid hw
 unfold Ms
 clear EP hw
 go_enter Tryz.func28,Tryz.ntmps28
 go_wp2_with fail
 refine E1.out.mono ?_
 intro e w1 h1
 obtain ⟨A7,c7,rfl,hq,hc7,b1⟩:=Pm h1
 have B1:=Lib.hid b1
 have HQ:=Lib.hid hq
 clear h1 hq b1 E1
 obtain ⟨q,hqq⟩:∃q,L.length=q:=⟨_,rfl⟩
 rw [hqq] at HQ hc7 hn ⊢
 cases q with
 | zero =>
  obtain rfl:L=[]:=List.eq_nil_of_length_eq_zero hqq
  go_wp2_with fail
  go_ret
  exact ⟨rfl,B1.out⟩
 | succ m =>
  obtain ⟨e0,he⟩:∃e,L[m]? = some e:=⟨_,List.getElem?_eq_getElem (by omega)⟩
  obtain ⟨b,off,rfl,_,hc⟩:=HQ.out.spot (by omega)
  have c0:w1.cell? ⟨b,off+m,none⟩=some (.int .i64 (e0:Int)):=hc m _ (by unfold nums; rw [List.getElem?_map,he]; rfl)
  have h1:((m:Int)+1 == 0)=false:=by simp; omega
  have h2:IntKind.i64.wrap ((m:Int)+1 - 1)=(m:Int):=by rw [IntWalk.i64_in _ (by omega)]; omega
  have h3:(0:Int)≤(m:Int):=by omega
  have h4:(m:Int)<(m:Int)+1:=by omega
  have h5:=HW.out m e0 he
  have HL:=Lib.hid (Mr z hqq he)
  clear hc HW hqq he
  go_wp2_with fail
  go_ret
  exact ⟨by rw [HL.out]; rfl,B1.out⟩
theorem JG {w:World} {B p:Nat} {t:Nd} (h:qO w B p t) (A:Option Addr) (n c:Nat) (l:List Int) (hn:n≤1000000) (hB:B≤w.heap.size) (hl:l.length=n) (hq:Sq w w.heap.size 1 n A (bI l)) (z:Int) :
  Calls Tryz.prog 28 #[.pointer (some ⟨p,0,none⟩),.slice A n c,.int .i64 z] w fun e w'=>Ms (GI l t n z) w e w':=by
 by_cases hz:0≤z∧z≤(n:Int)
 ·obtain ⟨a,rfl⟩:∃a:Nat,z=(a:Int):=⟨z.toNat,by omega⟩
  have e:GI l t n (a:Int)=yG (dJ (fun e=>jd l t a e) (n+1)) (a:Int):=by unfold GI oJ; rw [if_pos hz,Int.toNat_natCast]
  rw [e]
  exact Ao _ _ A n c _ w (by have:=D9 (fun e=>jd l t a e) (n+1); omega) (fun m e he=>Po (by omega) hn he) (Sd h A n c a l (by omega) hn hB hl hq)
 ·have e:GI l t n z=yG [] z:=by unfold GI; rw [if_neg hz]; rfl
  rw [e]
  exact Ao [] _ A n c _ w (Nat.zero_le _) (fun m e he=>by simp at he) (Vg h A n c z (by omega))
theorem Wp (l:List Int) (t:Nd) (n a:Nat) (ha:a≤n):GI l t n (a:Int)=oJ l t n a:=by unfold GI; rw [if_pos (by omega),Int.toNat_natCast]
end NF
namespace NF
def UH (s:ByteArray) (w:World) (e:Ending) (w':World):Prop :=
 ∃(x:Nv) (P:Value) (ok:Bool),e=.returned (.tuple #[x.v,P,.bool ok])∧Below w.heap.size w w' ∧
  (ok=true→∃t p,P=.pointer (some ⟨p,0,none⟩)∧bQ w' w.heap.size w'.heap.size t x∧qO w' w'.heap.size p t∧l9 (l7 s 30)=.some t) ∧
  (∀t,l9 (l7 s 30)=.some t→wt t≤400→deep t≤10→ok=true)
theorem Pp {v u:Nat} (h:min v 1000000=min u 1000000):u≤400↔v≤400:=by omega
theorem Fe (t:Nd) (x:Nv) (lo:Nat) (w:World) (hm:may t=true) (hx:bQ w lo w.heap.size t x) :
  Calls Tryz.prog 19 #[x.v] w fun e w'=>∃v:Nat,e=.returned (.int .i64 (v:Int))∧v≤1000001∧(wt t≤400↔v≤400)∧Below w.heap.size w w':=by
 refine (Cy (deep t) t x lo w.heap.size w (Nat.le_refl _) hm (Nat.le_refl _) hx).mono ?_
 rintro e w' ⟨v,rfl,h1,h2,h3⟩
 exact ⟨v,rfl,h1,Pp h2,h3⟩
theorem Pq (re:ByteArray) (w:World) :
  Calls Tryz.prog 22 #[.string re] w fun e w'=>UH re w e w':=by
 obtain ⟨w1,hw1,k1,b1,z1⟩:=dL w 0 none 0 0 false none 0 0 0 0
 have K1:=Lib.hid k1
 have B1:=Lib.hid b1
 have Z1:=Lib.hid z1
 have SH:=Lib.hid (fun wx=>zh re 30 wx)
 unfold UH
 obtain ⟨T,hT⟩:∃T,l7 re 30=T:=⟨_,rfl⟩
 have hT40:T.size≤30:=by rw [←hT]; exact zf re 30
 rw [hT] at SH
 rw [hT]
 clear hT k1 b1 z1
 go_enter Tryz.func22,Tryz.ntmps22
 go_wp2_with fail
 refine (SH.out w1).mono ?_
 rintro e w' ⟨rfl,rfl⟩
 have PW:=Lib.hid (Mv T (by omega) w1)
 clear SH
 go_wp2_with fail
 refine PW.out.mono ?_
 intro e w2 hp
 have HP:=Lib.hid hp
 clear hp PW hw1
 cases hps:l9 T with
 | none =>
  have HZ:=HP.out
  have PS:=Lib.hid hps
  rw [hps] at HZ
  obtain ⟨rfl,b2⟩:=HZ
  obtain ⟨w3,hw3,k3,b3,z3⟩:=dL w2 0 none 0 0 false none 0 0 0 0
  obtain ⟨NB,hNB⟩:∃b,w2.heap.size=b:=⟨_,rfl⟩
  have K3:=Lib.hid (hNB ▸ k3:aR w3 NB ⟨0,none,0,0,false,none,0,0,0,0⟩)
  have K0:=Lib.hid ((K1.out.below b2 K1.out.lt).below b3 (K1.out.below b2 K1.out.lt).lt)
  have B3:=Lib.hid (B1.out.trans ((b2.trans (b3.mono b2.size)).mono B1.out.size))
  have HW3:=Lib.hid hw3
  have HNB:=Lib.hid hNB
  clear HP b2 hps k3 b3 z3 hw3 hNB
  obtain ⟨y0,y1,y2,y3,y4,y5⟩:=aB K3.out
  try dsimp only [Nv.v,zeroV]
  go_upto_region 2 with fail
  rw [HNB.out]
  first
   | rw [HW3.out]
   | (change Code.wp _ _ _ _ (w2.alloc (.cells #[.int .i64 0,.slice none 0 0,.bool false,.slice none 0 0,.int .i64 0,.int .i64 0] 29)); rw [HW3.out])
  obtain ⟨⟨m0,o0⟩,⟨m1,o1⟩,⟨m2,o2⟩,⟨m3,o3⟩,⟨m4,o4⟩,⟨m5,o5⟩,f0,f1,f2,f3,f4,f5⟩:=bE (o:=0) K0.out (by simp)
  have PN:=aQ K0.out ⟨0,none,0,0,false,none,0,0,0,0⟩
  go_wp2_with fail
  change bodyPost _ _ _ _ _ (aA w3 w.heap.size 0 ⟨0,none,0,0,false,none,0,0,0,0⟩)
  have M:=B3.out.trans ((dK w3 w.heap.size 0 ⟨0,none,0,0,false,none,0,0,0,0⟩).toBelow B3.out.size fun k hk e=>by omega)
  have T:=dK w3 w.heap.size 0 ⟨0,none,0,0,false,none,0,0,0,0⟩
  revert PN M T
  generalize aA w3 w.heap.size 0 ⟨0,none,0,0,false,none,0,0,0,0⟩=W
  intro PN M T
  obtain ⟨p0,p1,p2,p3,p4,p5⟩:=aB PN
  refine bodyPost_ret (v:=.tuple #[Nv.v ⟨0,none,0,0,false,none,0,0,0,0⟩,.pointer none,.bool false]) (by simp [results,Tryz.results22,Nv.v,go_sem,p0,p1,p2,p3,p4,p5]<;>rfl) rfl ?_
  exact ⟨zeroV,_,false,rfl,M,(fun h=>by cases h),fun t h=>by rw [PS.out] at h; cases h⟩
 | some t =>
  obtain ⟨k,A,nn,c,nt,A2,n2,c2,mn,mx,rfl,hx,b2⟩:=parsed HP.out hps
  obtain ⟨w3,hw3,k3,b3,z3⟩:=dL w2 k A nn c nt A2 n2 c2 mn mx
  have PZ:=GJ hps
  have hd40:deep t≤40:=by omega
  have hc80:count t≤2000:=by omega
  have MY:=Lib.hid PZ.1
  have PS:=Lib.hid hps
  have K0:=Lib.hid ((K1.out.below b2 K1.out.lt).below b3 (K1.out.below b2 K1.out.lt).lt)
  have B3:=Lib.hid (B1.out.trans ((b2.trans (b3.mono b2.size)).mono B1.out.size))
  have X3:=Lib.hid (Pt (fun b hb=>hb) (nN hx b3))
  have L0:=Lib.hid (show w.heap.size<w1.heap.size from by have:=Z1.out; omega)
  have S3:=Lib.hid (show w1.heap.size≤w3.heap.size from Nat.le_trans b2.size b3.size)
  obtain ⟨NB,hNB⟩:∃b,w2.heap.size=b:=⟨_,rfl⟩
  have Z3:=Lib.hid (show w3.heap.size=NB+1 by omega)
  have K3:=Lib.hid (hNB ▸ k3:aR w3 NB ⟨k,A,nn,c,nt,A2,n2,c2,mn,mx⟩)
  have RW:=Lib.hid (Fe t ⟨k,A,nn,c,nt,A2,n2,c2,mn,mx⟩ _ w3 PZ.1 X3.out)
  have HW3:=Lib.hid hw3
  have HNB:=Lib.hid hNB
  obtain ⟨y0,y1,y2,y3,y4,y5⟩:=aB K3.out
  clear hx b2 k3 b3 z3 hw3 hNB HP hps PZ
  try dsimp only [Nv.v] at RW ⊢
  go_upto_region 2 with fail
  rw [HNB.out]
  first
   | rw [HW3.out]
   | (change Code.wp _ _ _ _ (w2.alloc (.cells #[.int .i64 k,.slice A nn c,.bool nt,.slice A2 n2 c2,.int .i64 mn,.int .i64 mx] 29)); rw [HW3.out])
  go_wp2_with fail
  refine RW.out.mono ?_
  rintro e w4 ⟨v,rfl,hv1,hv2,b4⟩
  have B4:=Lib.hid (B3.out.trans (b4.mono B3.out.size))
  have Q4:=Lib.hid (K0.out.below b4 K0.out.lt)
  have K4:=Lib.hid (show aR w4 NB ⟨k,A,nn,c,nt,A2,n2,c2,mn,mx⟩ from K3.out.below b4 (by have:=Z3.out; omega))
  have X4:=Lib.hid (lK (Nat.le_refl _) b4.size (X3.out.below b4))
  have L4:=Lib.hid (show NB<w4.heap.size from by have:=Z3.out; have:=b4.size; omega)
  have S4:=Lib.hid (Nat.le_trans S3.out b4.size)
  clear b4 RW y0 y1 y2 y3 y4 y5
  obtain ⟨q0,q1,q2,q3,q4,q5⟩:=aB K4.out
  by_cases hbig:400<v
  ·have hbi:(400:Int)<(v:Int):=by omega
   have HB:=Lib.hid (And.intro hbig hv2)
   clear hbig hv1 hv2
   obtain ⟨⟨m0,o0⟩,⟨m1,o1⟩,⟨m2,o2⟩,⟨m3,o3⟩,⟨m4,o4⟩,⟨m5,o5⟩,f0,f1,f2,f3,f4,f5⟩:=bE (o:=0) Q4.out (by simp)
   have PN:=aQ Q4.out ⟨k,A,nn,c,nt,A2,n2,c2,mn,mx⟩
   go_wp2_with fail
   change bodyPost _ _ _ _ _ (aA w4 w.heap.size 0 ⟨k,A,nn,c,nt,A2,n2,c2,mn,mx⟩)
   have M:=B4.out.trans ((dK w4 w.heap.size 0 ⟨k,A,nn,c,nt,A2,n2,c2,mn,mx⟩).toBelow B4.out.size fun k hk e=>by omega)
   have T:=dK w4 w.heap.size 0 ⟨k,A,nn,c,nt,A2,n2,c2,mn,mx⟩
   revert PN M T
   generalize aA w4 w.heap.size 0 ⟨k,A,nn,c,nt,A2,n2,c2,mn,mx⟩=W
   intro PN M T
   obtain ⟨p0,p1,p2,p3,p4,p5⟩:=aB PN
   refine bodyPost_ret (v:=.tuple #[Nv.v ⟨k,A,nn,c,nt,A2,n2,c2,mn,mx⟩,.pointer none,.bool false]) (by simp [results,Tryz.results22,Nv.v,go_sem,p0,p1,p2,p3,p4,p5]<;>rfl) rfl ?_
   refine ⟨⟨k,A,nn,c,nt,A2,n2,c2,mn,mx⟩,_,false,rfl,M,(fun h=>by cases h),fun t' h' hw' _=> ?_⟩
   rw [PS.out] at h'
   cases h'
   have:=HB.out.2.1 hw'
   have:=HB.out.1
   omega
  ·have hbi:¬(400:Int)<(v:Int):=by omega
   have WT:=Lib.hid (show wt t≤400 from hv2.2 (by omega))
   have DW:=Lib.hid (GH t ⟨k,A,nn,c,nt,A2,n2,c2,mn,mx⟩ _ w4 (by omega) X4.out)
   try dsimp only [Nv.v] at DW
   clear hv1 hv2 hbig
   go_wp2_with fail
   refine DW.out.mono ?_
   rintro e w5 ⟨rfl,b5⟩
   have B5:=Lib.hid (B4.out.trans (b5.mono B4.out.size))
   have Q5:=Lib.hid (Q4.out.below b5 Q4.out.lt)
   have K5:=Lib.hid (show aR w5 NB ⟨k,A,nn,c,nt,A2,n2,c2,mn,mx⟩ from K4.out.below b5 L4.out)
   have X5:=Lib.hid (lK (Nat.le_refl _) b5.size (X4.out.below b5))
   have L5:=Lib.hid (Nat.lt_of_lt_of_le L4.out b5.size)
   have S5:=Lib.hid (Nat.le_trans S4.out b5.size)
   clear b5 DW q0 q1 q2 q3 q4 q5 K4 X4 L4
   obtain ⟨y0,y1,y2,y3,y4,y5⟩:=aB K5.out
   by_cases hdeep:10<deep t
   ·have hdi:(10:Int)<(deep t:Int):=by omega
    have HD:=Lib.hid hdeep
    clear hdeep
    obtain ⟨⟨m0,o0⟩,⟨m1,o1⟩,⟨m2,o2⟩,⟨m3,o3⟩,⟨m4,o4⟩,⟨m5,o5⟩,f0,f1,f2,f3,f4,f5⟩:=bE (o:=0) Q5.out (by simp)
    have PN:=aQ Q5.out ⟨k,A,nn,c,nt,A2,n2,c2,mn,mx⟩
    go_wp2_with fail
    change bodyPost _ _ _ _ _ (aA w5 w.heap.size 0 ⟨k,A,nn,c,nt,A2,n2,c2,mn,mx⟩)
    have M:=B5.out.trans ((dK w5 w.heap.size 0 ⟨k,A,nn,c,nt,A2,n2,c2,mn,mx⟩).toBelow B5.out.size fun k hk e=>by omega)
    have T:=dK w5 w.heap.size 0 ⟨k,A,nn,c,nt,A2,n2,c2,mn,mx⟩
    revert PN M T
    generalize aA w5 w.heap.size 0 ⟨k,A,nn,c,nt,A2,n2,c2,mn,mx⟩=W
    intro PN M T
    obtain ⟨p0,p1,p2,p3,p4,p5⟩:=aB PN
    refine bodyPost_ret (v:=.tuple #[Nv.v ⟨k,A,nn,c,nt,A2,n2,c2,mn,mx⟩,.pointer none,.bool false]) (by simp [results,Tryz.results22,Nv.v,go_sem,p0,p1,p2,p3,p4,p5]<;>rfl) rfl ?_
    refine ⟨⟨k,A,nn,c,nt,A2,n2,c2,mn,mx⟩,_,false,rfl,M,(fun h=>by cases h),fun t' h' _ hd'=> ?_⟩
    rw [PS.out] at h'
    cases h'
    have:=HD.out
    omega
   ·have hdi:¬(10:Int)<(deep t:Int):=by omega
    have CW:=Lib.hid (Gu t ⟨k,A,nn,c,nt,A2,n2,c2,mn,mx⟩ _ w5 X5.out MY.out hd40 hc80 (by have:=WT.out; omega))
    try dsimp only [Nv.v] at CW
    clear hdeep
    go_wp2_with fail
    refine CW.out.mono ?_
    rintro e w7 ⟨p,rfl,_,hfm,b7⟩
    have FM:=Lib.hid hfm
    have B7:=Lib.hid (B5.out.trans (b7.mono B5.out.size))
    have Q7:=Lib.hid (Q5.out.below b7 Q5.out.lt)
    have X7:=Lib.hid (lK (Nat.le_refl _) b7.size (X5.out.below b7))
    have K7:=Lib.hid (show aR w7 NB ⟨k,A,nn,c,nt,A2,n2,c2,mn,mx⟩ from K5.out.below b7 L5.out)
    clear hfm b7 CW y0 y1 y2 y3 y4 y5
    obtain ⟨q0,q1,q2,q3,q4,q5⟩:=aB K7.out
    obtain ⟨⟨m0,o0⟩,⟨m1,o1⟩,⟨m2,o2⟩,⟨m3,o3⟩,⟨m4,o4⟩,⟨m5,o5⟩,f0,f1,f2,f3,f4,f5⟩:=bE (o:=0) Q7.out (by simp)
    have PN:=aQ Q7.out ⟨k,A,nn,c,nt,A2,n2,c2,mn,mx⟩
    go_wp2_with fail
    change bodyPost _ _ _ _ _ (aA w7 w.heap.size 0 ⟨k,A,nn,c,nt,A2,n2,c2,mn,mx⟩)
    have M:=B7.out.trans ((dK w7 w.heap.size 0 ⟨k,A,nn,c,nt,A2,n2,c2,mn,mx⟩).toBelow B7.out.size fun k hk e=>by omega)
    have T:=dK w7 w.heap.size 0 ⟨k,A,nn,c,nt,A2,n2,c2,mn,mx⟩
    revert PN M T
    generalize aA w7 w.heap.size 0 ⟨k,A,nn,c,nt,A2,n2,c2,mn,mx⟩=W
    intro PN M T
    obtain ⟨p0,p1,p2,p3,p4,p5⟩:=aB PN
    refine bodyPost_ret (v:=.tuple #[Nv.v ⟨k,A,nn,c,nt,A2,n2,c2,mn,mx⟩,(.pointer (some ⟨p,0,none⟩)),.bool true]) (by simp [results,Tryz.results22,Nv.v,go_sem,p0,p1,p2,p3,p4,p5]<;>rfl) rfl ?_
    refine ⟨⟨k,A,nn,c,nt,A2,n2,c2,mn,mx⟩,_,true,rfl,M,fun _=>⟨t,p,rfl,?_,FM.out w.heap.size W (by have:=L0.out; have:=S5.out; omega) T,PS.out⟩,fun _ _ _ _=>rfl⟩
    refine lK (lo:=w1.heap.size) (B:=w7.heap.size) (by have:=L0.out; omega) T.size (jh (fun q h1 h2=> ?_) X7.out)
    have e:=T.block q.block h2 (by have:=L0.out; omega)
    unfold World.cell?
    rw [e]
end NF
namespace NF
def Ap (F:FuncId) (P:Value) (A:Option Addr) (n c:Nat) (f:Nat→Int) (w:World):Prop :=
 ∀w2,Below w.heap.size w w2→∀a:Nat,a≤n→Calls Tryz.prog F #[P,.slice A n c,.int .i64 (a:Int)] w2 fun e w'=>Ms (f a) w2 e w'
theorem Ap.below {F:FuncId} {P:Value} {A:Option Addr} {n c:Nat} {f:Nat→Int} {w w':World} (h:Ap F P A n c f w) (b:Below w.heap.size w w'):Ap F P A n c f w':=fun w2 b2=>h w2 (b.trans (b2.mono b.size))
theorem Ea {w:World} {p:Nat} {t:Nd} (h:qO w w.heap.size p t) (A:Option Addr) (n c:Nat) (l:List Int) (hn:n≤1000000) (hl:l.length=n) (hq:Sq w w.heap.size 1 n A (bI l)) :
  Ap 28 (.pointer (some ⟨p,0,none⟩)) A n c (oJ l t n) w:=fun w2 b a ha=>by
 rw [←Wp l t n a ha]
 exact JG (h.below b) A n c l hn b.size hl ((hq.below b).up b.size) _
theorem wT (f:Nat→Int) (P:Value) (A:Option Addr) (n c:Nat) (z:Int) (hz : -9223372036854775808≤z∧z≤9223372036854775807) (w:World) (hn:n≤1000000) (CN:Ap 28 P A n c f w) :
  Calls Tryz.prog 24 #[P,.slice A n c,.int .i64 z] w fun e w'=>Mt f (qP f z.toNat (n - z.toNat)) w e w':=by
 obtain ⟨i0,hi0⟩:∃i0:Nat,max z 0=(i0:Int):=⟨(max z 0).toNat,by omega⟩
 rw [show z.toNat=i0 by omega]
 obtain ⟨o,ho⟩:∃o,qP f i0 (n - i0)=o:=⟨_,rfl⟩
 rw [ho]
 have HO:=Lib.hid ho
 have C:=Lib.hid CN
 unfold Mt
 clear CN ho
 go_enter Tryz.func24,Tryz.ntmps24
 go_wp2_with fail
 go_loopw [9] (fun v wr=>∃i:Nat,v=.int .i64 (i:Int)∧Hid (qP f i (n - i)=o)∧Hid (Below w.heap.size w wr)) (fun v _=>n - (intOf v).toNat)
 case atStart=>exact ⟨i0,rfl,HO,Lib.hid (Below.refl _ _)⟩
 case round =>
  obtain ⟨i,rfl,NX,BW⟩:=hrel
  by_cases hlt:i<n
  ·have h1:(i:Int)<(n:Int):=by omega
   have hw:IntKind.i64.wrap ((i:Int)+1)=(i:Int)+1:=IntWalk.i64_in _ (by omega)
   obtain ⟨k,hk⟩:∃k,f i=k:=⟨_,rfl⟩
   have HK:=Lib.hid hk
   have CA:=Lib.hid (C.out wr (BW.out) i (by omega))
   rw [hk] at CA
   have NS:=Lib.hid (show qP f i (n - i)=if 0<k then .some i else qP f (i+1) (n - (i+1)) from by
    rw [show n - i=(n - (i+1))+1 by omega,qP,hk])
   clear hk
   go_wp2_with fail
   refine CA.out.mono ?_
   rintro e w2 ⟨rfl,b2⟩
   have B2:=Lib.hid (BW.out.trans (b2.mono BW.out.size))
   clear b2 CA
   by_cases h0:0<k
   ·have E:=Lib.hid (show uJ f o=.tuple #[.int .i64 (i:Int),.int .i64 k,.bool true] from by
     rw [←NX.out,NS.out,if_pos h0,uJ,HK.out])
    go_wp2_with fail
    refine bodyPost_ret (results_tmp3 (t:=6) (u:=7) (v:=8) rfl _ _ _) rfl ?_
    exact ⟨by rw [E.out]; rfl,B2.out⟩
   ·have N2:=Lib.hid (show qP f (i+1) (n - (i+1))=o from by rw [←NX.out,NS.out,if_neg h0])
    go_wp2_with fail
    go_roundw
    case rel=>exact ⟨i+1,by first | rfl | (congr 1; done) | (congr 1; omega),N2,B2⟩
    case measure=>first | (simp [intOf]; done) | (simp [intOf]; omega)
  ·have h1:¬(i:Int)<(n:Int):=by omega
   have E:=Lib.hid (show uJ f o=.tuple #[.int .i64 0,.int .i64 0,.bool false] from by
    rw [←NX.out,show n - i=0 by omega,qP,uJ])
   go_wp2_with fail
   refine bodyPost_ret (results_tmp3 (t:=6) (u:=7) (v:=8) rfl _ _ _) rfl ?_
   exact ⟨by rw [E.out]; rfl,BW.out⟩
end NF
end Go.Proofs.YteemnmalikomgaaGreatDoor
namespace Go.Proofs.YteemnmalikomgaaGreatDoor.NF
def fwd (f:Nat→Nat→Int) (n:Nat→Nat) (N:Nat):Nat→Nat→Nat→Option (Nat×Nat)
 | _,_,0=>.none
 | i,o,k+1 =>
  match qP (f i) o (n i - o) with
  | .some a=>.some (i,a)
  | .none=>fwd f n N ((i+1) % N) 0 k
end Go.Proofs.YteemnmalikomgaaGreatDoor.NF
namespace Go.Proofs.YteemnmalikomgaaGreatDoor
/-! How long a number is. -/
/-! Runs of alike things. -/
section
variable {C:Type} [DecidableEq C]
end
end Go.Proofs.YteemnmalikomgaaGreatDoor
namespace Go.Proofs.YteemnmalikomgaaGreatDoor
abbrev au:=Int×Int×Int
/-! Which rows may be. -/
def iK (c:au):Bool:=decide (0≤c.2.2) && decide (c.2.2≤255) && (c == (0,1,0) || (c.2.1 == 0 && c.1 == 0) || (decide (0<c.2.1) && c.2.1 == eZ c.1))
def dS:au→List au→Bool
 | p,[]=> !(p.2.1 == 2)
 | p,c::l=>iK c && ((p.2.1 == 2) == (c.2.1 == 0)) && (!(c.2.1 == 0) || c.2.2 == p.2.2) && dS c l
def iL (l:List au):Bool:=decide (l.length≤300) && dS (32,1,0) l
end Go.Proofs.YteemnmalikomgaaGreatDoor
namespace Go.Proofs.YteemnmalikomgaaGreatDoor
section
variable {C:Type}
variable [DecidableEq C]
end
end Go.Proofs.YteemnmalikomgaaGreatDoor
namespace Go.Proofs.YteemnmalikomgaaGreatDoor
open Go.ChangeShapes Go.WideShapes Go.ChangeAt Go.RowKit
namespace NF
def sg (l:List au):List Int:=l.map (·.1)
theorem wU (l:List au):(sg l).length=l.length:=by unfold sg; rw [List.length_map]
def Mw (l:List Int) (w:World) (e:Ending) (w':World):Prop:=∃A c,e=.returned (.slice A l.length c)∧Sq w' w'.heap.size 1 l.length A (bI l)∧Below w.heap.size w w'
theorem Mx (n:Nat):madeCells #[Value.int .i32 0] n=(bI (List.replicate n 0)).toArray:=by
 apply Array.ext
 ·rw [size_madeCells]; simp [bI]
 ·intro i h1 h2
  rw [size_madeCells] at h1
  have h3:(madeCells #[Value.int .i32 0] n)[i]? = some (.int .i32 0):=by unfold madeCells; simp [h1,Nat.mod_one]
  rw [Array.getElem?_eq_getElem (by rw [size_madeCells]; exact h1)] at h3
  injection h3 with h3
  rw [h3]
  simp [bI]
def mR (w:World) (g:Nat) (L:List Int):Prop:=Bk w 21 g (bI L).toArray
theorem mR.get {w:World} {g:Nat} {L:List Int} (h:mR w g L) {i:Nat} {b:Int} (hi:L[i]? = some b):w.cell? ⟨g,i,none⟩=some (.int .i32 b):=by
 rw [Bk.get h i]
 simp [bI,hi]
theorem mR.set {w:World} {g:Nat} {L:List Int} (h:mR w g L) (i:Nat) (b:Int):mR (w.setCell ⟨g,i,none⟩ (.int .i32 b)) g (L.set i b):=by
 have:=Bk.put h i (.int .i32 b)
 unfold mR
 have e:(bI (L.set i b)).toArray=(bI L).toArray.setIfInBounds i (.int .i32 b):=by
  simp [bI,List.map_set]
 rw [e]
 exact this
theorem mR.sq {w:World} {g:Nat} {L:List Int} (h:mR w g L):Sq w w.heap.size 1 L.length (some ⟨g,0,none⟩) (bI L) :=
 ⟨by simp [bI],fun _=>⟨g,0,rfl,Bk.lt h,fun j u hu=>by rw [Nat.zero_add,Bk.get h j]; simpa using hu⟩⟩
theorem wV (A:Option Addr) (n c:Nat) (l:List au) (w:World) (hl:l.length=n) (hq:Sq w w.heap.size 3 n A (flat l)) (hn:n≤1000000) :
  Calls Tryz.prog 35 #[.slice A n c] w fun e w'=>Mw (sg l) w e w':=by
 unfold Mw
 have hsl:=wU l
 rw [hl] at hsl
 rw [hsl]
 have SL:=Lib.hid hsl
 have HL:=Lib.hid hl
 have HQ:=Lib.hid hq
 clear hl hsl hq
 by_cases h0:n=0
 ·subst h0
  have SE:=Lib.hid (show sg l=[] from List.eq_nil_of_length_eq_zero SL.out)
  go_enter Tryz.func35,Tryz.ntmps35
  go_wp2_with fail
  go_ret
  exact ⟨none,0,rfl,by rw [SE.out]; exact Sq.nothing _ _ _ _,Below.refl _ _⟩
 ·obtain ⟨i0,hi,hz0,hz1,hz2⟩:=info_parts sK
  have hN0:(0:Int)≤(n:Int):=by omega
  have hne:((n:Int) == 0)=false:=by simp; omega
  have MK:=run_make w 23 21 i0 (.int .i32 0) Tryz.underlying23 hi hz0 .i64 .i64 (n:Int) (n:Int) hN0 (Int.le_refl _) (by rw [hz2]; omega) (by omega)
  rw [hz1,Int.toNat_natCast,Nat.mul_one] at MK
  obtain ⟨w1,hw1⟩:∃w1,w.alloc (.cells (madeCells #[.int .i32 0] n) 21)=w1:=⟨_,rfl⟩
  obtain ⟨g,hg⟩:∃g,w.heap.size=g:=⟨_,rfl⟩
  have b1:Below w.heap.size w w1:=by rw [←hw1]; exact (Below.refl _ _).alloc (Nat.le_refl _) _
  have K1:=Lib.hid (show mR w1 g (List.replicate n 0) from by
   unfold mR
   rw [←hw1,←hg,←Mx]
   exact heap_alloc_new w _)
  have B1:=Lib.hid b1
  have HG:=Lib.hid hg
  have HW:=Lib.hid hw1
  clear hw1 b1 hg
  go_enter Tryz.func35,Tryz.ntmps35
  go_upto_region 4 with fail
  rw [HG.out]
  first
   | rw [HW.out]
   | (change Code.wp _ _ _ _ (w.alloc (.cells (madeCells #[.int .i32 0] n) 21)); rw [HW.out])
  clear MK hne h0 hN0 hz0 hz1 hz2 hi
  go_wp2_with fail
  go_loopw [14] (fun y wr=>∃(i:Nat) (L:List Int),y=.int .i64 (i:Int)∧i≤n∧Hid (mR wr g L∧L.length=n∧∀j,j<i→L[j]? = (sg l)[j]?)∧Hid (Below w.heap.size w wr)) (fun y _=>n - (intOf y).toNat)
  case atStart=>exact ⟨0,_,rfl,Nat.zero_le _,Lib.hid ⟨K1.out,by simp,fun j hj=>absurd hj (Nat.not_lt_zero _)⟩,B1⟩
  case round =>
   obtain ⟨i,L,rfl,hin,KL,BR⟩:=hrel
   have hi0:(0:Int)≤(i:Int):=by omega
   by_cases hlt:i<n
   ·obtain ⟨b,off,rfl,hb,⟨r,m,a⟩,hcc,q0,q1,q2⟩:=(HQ.out.below BR.out).three hlt
    have h1:(i:Int)<(n:Int):=by omega
    have hw:IntKind.i64.wrap ((i:Int)+1)=(i:Int)+1:=IntWalk.i64_in _ (by omega)
    obtain ⟨w2,hw2⟩:∃w2,wr.alloc (.cells #[.int .i32 r,.int .i64 m,.int .i64 a] 76)=w2:=⟨_,rfl⟩
    have b2:Below wr.heap.size wr w2:=by rw [←hw2]; exact (Below.refl _ _).alloc (Nat.le_refl _) _
    have x2:w2.heap[wr.heap.size]? = some (.cells #[.int .i32 r,.int .i64 m,.int .i64 a] 76 (0,0)):=by rw [←hw2]; exact heap_alloc_new wr _
    have k2:mR w2 g L:=(b2.block g (Bk.lt KL.out.1)).trans KL.out.1
    obtain ⟨z,hz⟩:∃z,L[i]? = some z:=⟨_,List.getElem?_eq_getElem (by rw [KL.out.2.1]; exact hlt)⟩
    have cz:=k2.get hz
    have fz:=Bk.free k2 i
    obtain ⟨C2,hC2⟩:∃k,wr.heap.size=k:=⟨_,rfl⟩
    have c0:w2.cell? ⟨C2,0,none⟩=some (.int .i32 r):=by rw [←hC2]; exact cell_of_row _ _ 0 _ _ (0,0) x2
    have S1:=Lib.hid (show mR (w2.setCell ⟨g,i,none⟩ (.int .i32 r)) g (L.set i r)∧(L.set i r).length=n∧∀j,j<i+1→(L.set i r)[j]? = (sg l)[j]? from ⟨k2.set i r,by rw [List.length_set]; exact KL.out.2.1,fun j hj=>by
     by_cases hji:j=i
     ·subst hji
      rw [List.getElem?_set_self (by rw [KL.out.2.1]; exact hlt)]
      unfold sg
      rw [List.getElem?_map,hcc]
      rfl
     ·rw [List.getElem?_set_ne (by omega)]
      exact KL.out.2.2 j (by omega)⟩)
    have S2:=Lib.hid (show Below w.heap.size w (w2.setCell ⟨g,i,none⟩ (.int .i32 r)) from (BR.out.trans (b2.mono BR.out.size)).setCell (p:=⟨g,i,none⟩) (Nat.le_of_eq HG.out) _)
    have HW2:=Lib.hid hw2
    have HC2:=Lib.hid hC2
    clear hz hcc hw2 x2 k2 b2 hC2 hb
    go_upto_region 7 with fail
    rw [HC2.out]
    first
     | rw [HW2.out]
     | (change Code.wp _ _ _ _ (wr.alloc (.cells #[.int .i32 r,.int .i64 m,.int .i64 a] 76)); rw [HW2.out])
    go_wp2_with fail
    go_roundw
    case rel=>exact ⟨i+1,L.set i r,by first | rfl | (congr 1; done) | (congr 1; omega),by omega,S1,S2⟩
    case measure=>first | (simp [intOf]; done) | (simp [intOf]; omega)
   ·obtain rfl:i=n:=by omega
    have LE:=Lib.hid (show L=sg l from List.ext_getElem? fun j=>by
     by_cases hj:j<i
     ·exact KL.out.2.2 j hj
     ·rw [List.getElem?_eq_none (by rw [KL.out.2.1]; omega),List.getElem?_eq_none (by rw [SL.out]; omega)])
    have SQ:=Lib.hid (show Sq wr wr.heap.size 1 i (some ⟨g,0,none⟩) (bI (sg l)) from by
     have h:=KL.out.1.sq
     rw [KL.out.2.1,LE.out] at h
     exact h)
    go_wp2_with fail
    go_ret
    exact ⟨_,_,rfl,SQ.out,BR.out⟩
end NF
namespace NF
structure zi (W:World) (B:Nat) (A:Option Addr) (ls:List (List au)):Prop where
 each:∀(i:Nat) (l:List au),ls[i]? = some l→∃b off A' c',A=some ⟨b,off,none⟩∧b<B∧W.cell? ⟨b,off+i,none⟩=some (.slice A' l.length c')∧l.length≤c'∧Sq W B 3 l.length A' (flat l)
 few:∀l∈ls,l.length≤1000000
theorem zi.below {W W':World} {B:Nat} {A:Option Addr} {ls:List (List au)} (h:zi W B A ls) (hb:Below B W W'):zi W' B A ls :=
 ⟨fun i l hl=>by
  obtain ⟨b,off,A',c',e,h1,h2,h3,h4⟩:=h.each i l hl
  exact ⟨b,off,A',c',e,h1,(hb.cell (p:=⟨b,_,none⟩) h1).trans h2,h3,h4.below hb⟩,h.few⟩
theorem zi.up {W:World} {B B':Nat} {A:Option Addr} {ls:List (List au)} (h:zi W B A ls) (hb:B≤B'):zi W B' A ls :=
 ⟨fun i l hl=>by
  obtain ⟨b,off,A',c',e,h1,h2,h3,h4⟩:=h.each i l hl
  exact ⟨b,off,A',c',e,by omega,h2,h3,h4.up hb⟩,h.few⟩
def gu (ls:List (List au)) (i:Nat):List au:=ls[i]?.getD []
theorem jC {ls:List (List au)} {i:Nat} (h:i<ls.length):ls[i]? = some (gu ls i):=by
 unfold gu
 rw [List.getElem?_eq_getElem h]
 rfl
def mP (t:Nd) (ls:List (List au)) (i a:Nat):Int:=oJ (sg (gu ls i)) t (gu ls i).length a
def pU (ls:List (List au)) (i:Nat):Nat:=(gu ls i).length
def jD (ls:List (List au)) (x y:Int):Bool:=decide (0≤x) && decide (x<(ls.length:Int)) && decide (0≤y) && decide (y≤(pU ls x.toNat:Int))
theorem jE {ls:List (List au)} {x y:Int}:jD ls x y=true↔(0≤x∧x<(ls.length:Int))∧0≤y∧y≤(pU ls x.toNat:Int):=by
 unfold jD
 simp only [Bool.and_eq_true,decide_eq_true_eq]
 omega
def fG (w:World) (g:Nat) (x y z:Int):World:=((w.setCell ⟨g,0,none⟩ (.int .i64 x)).setCell ⟨g,1,none⟩ (.int .i64 y)).setCell ⟨g,2,none⟩ (.int .i64 z)
def bU (w:World) (t:TypeId) (g:Nat) (x y z:Int):Prop:=Bk w t g #[.int .i64 x,.int .i64 y,.int .i64 z]
theorem uK (w:World) (g:Nat) (x y z:Int):ak (· = g) w (fG w g x y z) :=
 ((ak.bR g 0 w _).trans (ak.bR g _ _ _) (fun _ _ h=>h)).trans (ak.bR g _ _ _) (fun _ _ h=>h)
theorem yH {w:World} {t:TypeId} {g:Nat} {x y z:Int} (h:bU w t g x y z) (x' y' z':Int):bU (fG w g x' y' z') t g x' y' z':=by
 have h0:=Bk.put h 0 (.int .i64 x')
 have h1:=Bk.put h0 1 (.int .i64 y')
 exact Bk.put h1 2 (.int .i64 z')
theorem nO (w:World) (t:TypeId) (x y z:Int):∃w1,w.alloc (.cells #[.int .i64 x,.int .i64 y,.int .i64 z] t)=w1∧bU w1 t w.heap.size x y z∧Below w.heap.size w w1∧w1.heap.size=w.heap.size+1 :=
 ⟨_,rfl,heap_alloc_new w _,(Below.refl _ _).alloc (Nat.le_refl _) _,by simp⟩
theorem bU.get {w:World} {t:TypeId} {g:Nat} {x y z:Int} (h:bU w t g x y z):w.cell? ⟨g,0,none⟩=some (.int .i64 x)∧w.cell? ⟨g,1,none⟩=some (.int .i64 y)∧w.cell? ⟨g,2,none⟩=some (.int .i64 z):=⟨Bk.get h 0,Bk.get h 1,Bk.get h 2⟩
theorem bU.free {w:World} {t:TypeId} {g:Nat} {x y z:Int} (h:bU w t g x y z):w.frozen? ⟨g,0,none⟩=false∧w.frozen? ⟨g,1,none⟩=false∧w.frozen? ⟨g,2,none⟩=false:=⟨Bk.free h 0,Bk.free h 1,Bk.free h 2⟩
theorem bU.below {w w':World} {t:TypeId} {g B:Nat} {x y z:Int} (h:bU w t g x y z) (hb:Below B w w') (hg:g<B):bU w' t g x y z:=(hb.block g hg).trans h
theorem dV (w:World):∀n,Below w.heap.size w (w.drewN n)
 | 0=>Below.refl _ _
 | n+1=>(dV w n).drew
theorem JI (A:Option Addr) (n c:Nat) (ls:List (List au)) (x y z:Int) (w:World) (hl:ls.length=n) (h:zi w w.heap.size A ls) :
  Calls Tryz.prog 66 #[.slice A n c,.agg #[.int .i64 x,.int .i64 y,.int .i64 z]] w fun e w'=>e=.returned (.bool (jD ls x y))∧Below w.heap.size w w':=by
 obtain ⟨w1,hw1,k1,b1,z1⟩:=nO w 58 x y z
 obtain ⟨g,hg⟩:∃g,w.heap.size=g:=⟨_,rfl⟩
 rw [hg] at k1
 have K1:=Lib.hid k1
 have B1:=Lib.hid b1
 have HL:=Lib.hid hl
 have H1:=Lib.hid ((h.below b1).up b1.size)
 have y0:∀q,(w1.drewN q).cell? ⟨g,0,none⟩=some (.int .i64 x):=fun q=>((dV w1 q).cell (p:=⟨g,0,none⟩) K1.out.lt).trans K1.out.get.1
 have y1:∀q,(w1.drewN q).cell? ⟨g,1,none⟩=some (.int .i64 y):=fun q=>((dV w1 q).cell (p:=⟨g,1,none⟩) K1.out.lt).trans K1.out.get.2.1
 have HW:=Lib.hid hw1
 have HG:=Lib.hid hg
 clear h k1 b1 z1 hw1 hg hl
 by_cases h1:0≤x
 ·by_cases h2:x<(n:Int)
  ·obtain ⟨i,rfl⟩:∃i:Nat,x=(i:Int):=⟨x.toNat,by omega⟩
   obtain ⟨b,off,A',c',rfl,hb,hc,hc',_⟩:=H1.out.each i _ (jC (by rw [HL.out]; omega))
   obtain ⟨m,hm⟩:∃m,(gu ls i).length=m:=⟨_,rfl⟩
   rw [hm] at hc
   have y2:∀q,(w1.drewN q).cell? ⟨b,off+i,none⟩=some (.slice A' m c'):=fun q=>((dV w1 q).cell (p:=⟨b,off+i,none⟩) hb).trans hc
   have HM:=Lib.hid hm
   clear hc hb hc' hm
   by_cases h3:0≤y
   ·by_cases h4:y≤(m:Int)
    ·have E:=Lib.hid (show jD ls (i:Int) y=true from jE.2 ⟨⟨by omega,by rw [HL.out]; exact h2⟩,h3,by unfold pU; rw [Int.toNat_natCast,HM.out]; exact h4⟩)
     go_enter Tryz.func66,Tryz.ntmps66
     go_upto_region 1 with fail
     rw [HG.out]
     first
      | rw [HW.out]
      | (change Code.wp _ _ _ _ (w.alloc (.cells #[.int .i64 (i:Int),.int .i64 y,.int .i64 z] 58)); rw [HW.out])
     go_quiet (fail)
     go_wp2_with fail
     go_ret
     exact ⟨by rw [E.out]; rfl,B1.out.trans ((dV w1 _).mono B1.out.size)⟩
    ·have E:=Lib.hid (show jD ls (i:Int) y=false from by
      rw [←Bool.not_eq_true,jE]
      unfold pU
      rw [Int.toNat_natCast,HM.out]
      omega)
     go_enter Tryz.func66,Tryz.ntmps66
     go_upto_region 1 with fail
     rw [HG.out]
     first
      | rw [HW.out]
      | (change Code.wp _ _ _ _ (w.alloc (.cells #[.int .i64 (i:Int),.int .i64 y,.int .i64 z] 58)); rw [HW.out])
     go_quiet (fail)
     go_wp2_with fail
     go_ret
     exact ⟨by rw [E.out]; rfl,B1.out.trans ((dV w1 _).mono B1.out.size)⟩
   ·have E:=Lib.hid (show jD ls (i:Int) y=false from by rw [←Bool.not_eq_true,jE]; omega)
    go_enter Tryz.func66,Tryz.ntmps66
    go_upto_region 1 with fail
    rw [HG.out]
    first
     | rw [HW.out]
     | (change Code.wp _ _ _ _ (w.alloc (.cells #[.int .i64 (i:Int),.int .i64 y,.int .i64 z] 58)); rw [HW.out])
    go_quiet (fail)
    go_wp2_with fail
    go_ret
    exact ⟨by rw [E.out]; rfl,B1.out.trans ((dV w1 _).mono B1.out.size)⟩
  ·have E:=Lib.hid (show jD ls x y=false from by rw [←Bool.not_eq_true,jE,HL.out]; omega)
   go_enter Tryz.func66,Tryz.ntmps66
   go_upto_region 1 with fail
   rw [HG.out]
   first
    | rw [HW.out]
    | (change Code.wp _ _ _ _ (w.alloc (.cells #[.int .i64 x,.int .i64 y,.int .i64 z] 58)); rw [HW.out])
   go_quiet (fail)
   go_wp2_with fail
   go_ret
   exact ⟨by rw [E.out]; rfl,B1.out.trans ((dV w1 _).mono B1.out.size)⟩
 ·have E:=Lib.hid (show jD ls x y=false from by rw [←Bool.not_eq_true,jE]; omega)
  go_enter Tryz.func66,Tryz.ntmps66
  go_upto_region 1 with fail
  rw [HG.out]
  first
   | rw [HW.out]
   | (change Code.wp _ _ _ _ (w.alloc (.cells #[.int .i64 x,.int .i64 y,.int .i64 z] 58)); rw [HW.out])
  go_quiet (fail)
  go_wp2_with fail
  go_ret
  exact ⟨by rw [E.out]; rfl,B1.out.trans ((dV w1 _).mono B1.out.size)⟩
end NF
