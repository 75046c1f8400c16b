import Derived.Test.YteemnmalikomgaaGreatDoorQSwBase13
import Derived.Test.YteemnmalikomgaaGreatDoorRows
import Derived.OrdersHeld
import Derived.Deep.RegionHeld
import Derived.IntWalk
set_option maxRecDepth 100000
set_option maxHeartbeats 12800000
noncomputable section
namespace Go.Proofs.YteemnmalikomgaaGreatDoor
open Go.ChangeShapes Go.WideShapes Go.ChangeAt Go.RowKit
namespace NF
def Cz (f:Nat→Nat→Int):Option (Nat×Nat)→Value
 | .none=>.tuple #[.agg #[.int .i64 0,.int .i64 0,.int .i64 0],.bool false]
 | .some x=>.tuple #[.agg #[.int .i64 (x.1:Int),.int .i64 (x.2:Int),.int .i64 (f x.1 x.2)],.bool true]
theorem GL {f:Nat→Nat→Int} {n:Nat→Nat} {N i o k a:Nat} (h:qP (f i) o (n i - o)=.some a):fwd f n N i o (k+1)=.some (i,a):=by rw [fwd,h]
theorem GN {f:Nat→Nat→Int} {n:Nat→Nat} {N i o k:Nat} (h:qP (f i) o (n i - o)=.none):fwd f n N i o (k+1)=fwd f n N ((i+1) % N) 0 k:=by rw [fwd,h]
theorem GQ (a b:Nat):((a:Int)).tmod (b:Int)=((a % b:Nat):Int):=rfl
def GU (t:Nd) (ls:List (List au)) (x y:Int):Option (Nat×Nat) :=
 if jD ls x y then fwd (mP t ls) (pU ls) ls.length x.toNat (y.toNat+1) (ls.length+1) else fwd (mP t ls) (pU ls) ls.length 0 0 ls.length
theorem CF (t:Nd) (p:Nat) (A:Option Addr) (n c:Nat) (ls:List (List au)) (x y z:Int) (w:World) (hP:qO w w.heap.size p t) (hl:ls.length=n) (hn:n≤1000000) (h:zi w w.heap.size A ls) :
  Calls Tryz.prog 32 #[.slice A n c,.pointer (some ⟨p,0,none⟩),.agg #[.int .i64 x,.int .i64 y,.int .i64 z]] w fun e w'=>e=.returned (Cz (mP t ls) (GU t ls x y))∧Below w.heap.size w w':=by
 obtain ⟨w1,hw1,k1,b1,z1⟩:=nO w 58 x y z
 obtain ⟨w2,hw2,k2,b2,z2⟩:=nO w1 61 0 0 0
 obtain ⟨g5,hg5⟩:∃g,w.heap.size=g:=⟨_,rfl⟩
 obtain ⟨g6a,hg6⟩:∃g,w1.heap.size=g:=⟨_,rfl⟩
 rw [hg5] at k1
 rw [hg6] at k2
 obtain rfl:g6a=g5+1:=by omega
 have K5:=Lib.hid (k1.below b2 k1.lt)
 have K6:=Lib.hid k2
 have B2:=Lib.hid (b1.trans (b2.mono b1.size))
 have G6:=Lib.hid (show w.heap.size≤g5+1 by omega)
 have H2:=Lib.hid ((h.below B2.out).up B2.out.size)
 have P2:=Lib.hid ((hP.below B2.out).up B2.out.size)
 have HL:=Lib.hid hl
 have HW1:=Lib.hid hw1
 have HW2:=Lib.hid hw2
 have HG5:=Lib.hid hg5
 have HG6:=Lib.hid hg6
 have WW:=Lib.hid (JI A n c ls x y z w2 hl H2.out)
 obtain ⟨R,hR⟩:∃R,GU t ls x y=R:=⟨_,rfl⟩
 rw [hR]
 have HR:=Lib.hid hR
 obtain ⟨q0,q1,q2⟩:=bU.get K5.out
 clear h hP k1 b1 z1 hw1 k2 b2 z2 hw2 hg5 hg6 hl hR
 go_enter Tryz.func32,Tryz.ntmps32
 go_upto_region 1 with fail
 rw [HG5.out]
 first
  | rw [HW1.out]
  | (change Code.wp _ _ _ _ ((w.alloc (.cells #[.int .i64 x,.int .i64 y,.int .i64 z] 58)).alloc _); rw [HW1.out])
 first
  | rw [HG6.out]
  | skip
 first
  | rw [HW2.out]
  | (change Code.wp _ _ _ _ (w1.alloc (.cells #[.int .i64 0,.int .i64 0,.int .i64 0] 61)); rw [HW2.out])
 have hwn:IntKind.i64.wrap ((n:Int) - 1)=(n:Int) - 1:=IntWalk.i64_in _ (by omega)
 have hwn1:IntKind.i64.wrap ((n:Int)+1)=(n:Int)+1:=IntWalk.i64_in _ (by omega)
 go_wp2_with fail
 refine WW.out.mono ?_
 rintro e w3 ⟨rfl,b3⟩
 have C3:=Lib.hid b3
 clear b3 WW
 obtain ⟨wi,hwi⟩:∃b,jD ls x y=b:=⟨_,rfl⟩
 rw [hwi]
 cases wi with
 | true =>
  obtain ⟨⟨e1,e2⟩,e3,e4⟩:=jE.1 hwi
  obtain ⟨i0,rfl⟩:∃i:Nat,x=(i:Int):=⟨x.toNat,by omega⟩
  obtain ⟨o0,rfl⟩:∃i:Nat,y=(i:Int):=⟨y.toNat,by omega⟩
  rw [Int.toNat_natCast] at e4
  have hi0:i0<n:=by have:=HL.out; omega
  have ho0:o0≤1000000:=by
   have:=H2.out.few _ (List.mem_of_getElem? (jC (ls:=ls) (i:=i0) (by rw [HL.out]; exact hi0)))
   unfold pU at e4
   omega
  have hwo:IntKind.i64.wrap ((o0:Int)+1)=(o0:Int)+1:=IntWalk.i64_in _ (by omega)
  have R0:=Lib.hid (show fwd (mP t ls) (pU ls) n i0 (o0+1) (n+1)=R from by
   rw [←HR.out]
   unfold GU
   rw [if_pos hwi,Int.toNat_natCast,Int.toNat_natCast,HL.out])
  clear hwi e1 e2 e3 e4 q0 q1 q2
  have q0:∀q,(w3.drewN q).cell? ⟨g5,0,none⟩=some (.int .i64 (i0:Int)):=fun q=>((dV w3 q).cell (p:=⟨g5,0,none⟩) (K5.out.below C3.out K5.out.lt).lt).trans (K5.out.below C3.out K5.out.lt).get.1
  have q1:∀q,(w3.drewN q).cell? ⟨g5,1,none⟩=some (.int .i64 (o0:Int)):=fun q=>((dV w3 q).cell (p:=⟨g5,1,none⟩) (K5.out.below C3.out K5.out.lt).lt).trans (K5.out.below C3.out K5.out.lt).get.2.1
  go_wp2_with fail
  go_quiet (fail)
  have C4:=Lib.hid (show Below w2.heap.size w2 (w3.drewN nq) from C3.out.trans ((dV w3 nq).mono C3.out.size))
  clear q0 q1
  generalize w3.drewN nq=w4 at C4 ⊢
  go_wp2_with fail
  go_loopw [8,9,28] (fun a b d wr=>∃(y8 z9:Int) (k:Nat),a=.int .i64 y8∧b=.int .i64 z9∧d=.int .i64 (k:Int)∧k≤n+1∧(0≤z9∧z9≤9223372036854775807)∧Hid (k<n+1→∃i:Nat,y8=(i:Int)∧i<n∧fwd (mP t ls) (pU ls) n i z9.toNat (n+1 - k)=R)∧Hid (k=n+1→R=.none)∧Hid (Below w2.heap.size w2 wr)) (fun _ _ d _=>n+1 - (intOf d).toNat)
  case atStart=>exact ⟨(i0:Int),(o0:Int)+1,0,rfl,rfl,rfl,Nat.zero_le _,by omega,Lib.hid fun _=>⟨i0,rfl,hi0,by rw [show ((o0:Int)+1).toNat=o0+1 by omega]; exact R0.out⟩,Lib.hid fun h=>by omega,C4⟩
  case round =>
   obtain ⟨y8,z9,k,rfl,rfl,rfl,hk,hz9,RS,RN,BW⟩:=hrel
   have hwk:IntKind.i64.wrap ((k:Int)+1)=(k:Int)+1:=IntWalk.i64_in _ (by omega)
   by_cases hlt:k<n+1
   ·obtain ⟨i,rfl,hin,hri⟩:=RS.out hlt
    have RI:=Lib.hid hri
    have h1:(k:Int)<(n:Int)+1:=by omega
    have hi0':(0:Int)≤(i:Int):=by omega
    have hi1':(i:Int)<(n:Int):=by omega
    obtain ⟨b,off,A',c',rfl,hb,hc,hc',hq⟩:=(H2.out.below BW.out).each i _ (jC (by rw [HL.out]; exact hin))
    have hfew:=H2.out.few _ (List.mem_of_getElem? (jC (ls:=ls) (i:=i) (by rw [HL.out]; exact hin)))
    obtain ⟨m,hm⟩:∃m,(gu ls i).length=m:=⟨_,rfl⟩
    rw [hm] at hc hc' hq hfew
    have HM:=Lib.hid hm
    have SW:=Lib.hid (wV A' m c' (gu ls i) wr hm (hq.up BW.out.size) hfew)
    unfold Mw at SW
    rw [wU,hm] at SW
    have PW:=Lib.hid ((P2.out.below BW.out).up BW.out.size)
    clear hb hq hri hm RS
    go_wp2_with fail
    refine SW.out.mono ?_
    rintro e w5 ⟨A2,c2,rfl,hq2,b5⟩
    have NX:=Lib.hid (wT (oJ (sg (gu ls i)) t m) (.pointer (some ⟨p,0,none⟩)) A2 m c2 z9 (by omega) w5 hfew (Ea ((PW.out.below b5).up b5.size) A2 m c2 (sg (gu ls i)) hfew (by rw [wU]; exact HM.out) hq2))
    have BW5:=Lib.hid (BW.out.trans (b5.mono BW.out.size))
    have FE:=Lib.hid (show oJ (sg (gu ls i)) t m=mP t ls i from by funext a; unfold mP; rw [HM.out])
    have NE:=Lib.hid (show pU ls i=m from HM.out)
    rw [FE.out] at NX
    unfold Mt at NX
    obtain ⟨oo,hoo⟩:∃oo,qP (mP t ls i) z9.toNat (m - z9.toNat)=oo:=⟨_,rfl⟩
    rw [hoo] at NX
    have HOO:=Lib.hid hoo
    clear hq2 b5 SW hoo
    cases oo with
    | some a =>
     have RE:=Lib.hid (show R=.some (i,a) from by
      rw [←RI.out,show n+1 - k=(n+1 - k - 1)+1 by omega]
      exact GL (by rw [NE.out]; exact HOO.out))
     obtain ⟨v,hv⟩:∃v,mP t ls i a=v:=⟨_,rfl⟩
     have HV:=Lib.hid hv
     unfold uJ at NX
     dsimp only at NX
     rw [hv] at NX
     clear hv
     go_wp2_with fail
     refine NX.out.mono ?_
     rintro e w6 ⟨rfl,b6⟩
     have BW6:=Lib.hid (BW5.out.trans (b6.mono BW5.out.size))
     have K6W:=Lib.hid (K6.out.below BW6.out K6.out.lt)
     have BWW:=Lib.hid (B2.out.trans (BW6.out.mono B2.out.size))
     clear b6 NX
     have g6:=bU.get K6W.out
     have f6:=bU.free K6W.out
     obtain ⟨m0,m1,m2⟩:=g6
     obtain ⟨f0,f1,f2⟩:=f6
     have PN:=yH K6W.out (i:Int) (a:Int) v
     have M:=BWW.out.trans ((uK w6 (g5+1) (i:Int) (a:Int) v).toBelow BWW.out.size fun k hk e=>by have:=G6.out; omega)
     go_wp2_with fail
     change bodyPost _ _ _ _ _ (fG w6 (g5+1) (i:Int) (a:Int) v)
     revert PN M
     generalize fG w6 (g5+1) (i:Int) (a:Int) v=WW
     intro PN M
     obtain ⟨p0,p1,p2⟩:=bU.get PN
     refine bodyPost_ret (v:=.tuple #[.agg #[.int .i64 (i:Int),.int .i64 (a:Int),.int .i64 v],.bool true]) (by simp [results,Tryz.results32,go_sem,p0,p1,p2]<;>rfl) rfl ?_
     exact ⟨by rw [RE.out,Cz,HV.out],M⟩
    | none =>
     have RE:=Lib.hid (show R=fwd (mP t ls) (pU ls) n ((i+1) % n) 0 (n+1 - (k+1)) from by
      rw [←RI.out,show n+1 - k=(n+1 - (k+1))+1 by omega]
      exact GN (by rw [NE.out]; exact HOO.out))
     unfold uJ at NX
     dsimp only at NX
     have hnz:((n:Int) == 0)=false:=by simp; omega
     have hnz2:¬((n:Int)=0):=by omega
     have hw1:IntKind.i64.wrap ((i:Int)+1)=((i+1:Nat):Int):=by rw [IntWalk.i64_in _ (by omega)]; omega
     obtain ⟨j,hj⟩:∃j,(i+1) % n=j:=⟨_,rfl⟩
     have hjn:j<n:=by rw [←hj]; exact Nat.mod_lt _ (by omega)
     have hmd:(((i+1:Nat):Int)).tmod (n:Int)=(j:Int):=by rw [GQ,hj]
     have hwj:IntKind.i64.wrap (j:Int)=(j:Int):=IntWalk.i64_in _ (by omega)
     rw [hj] at RE
     obtain ⟨a1,ha1⟩:∃a1:Int,((i+1:Nat):Int)=a1:=⟨_,rfl⟩
     rw [ha1] at hw1 hmd
     clear hj ha1
     go_wp2_with fail
     refine NX.out.mono ?_
     rintro e w6 ⟨rfl,b6⟩
     have BW6:=Lib.hid (BW5.out.trans (b6.mono BW5.out.size))
     clear b6 NX
     go_wp2_with fail
     go_roundw
     case rel=>exact ⟨(j:Int),0,k+1,rfl,rfl,by first | rfl | (congr 1; done) | (congr 1; omega),by omega,by omega,Lib.hid fun h=>⟨j,rfl,hjn,by exact RE.out.symm⟩,Lib.hid fun h=>by (have:=RE.out; rw [show n+1 - (k+1)=0 by omega,fwd] at this; exact this),BW6⟩
     case measure=>first | (simp [intOf]; done) | (simp [intOf]; omega)
   ·obtain rfl:k=n+1:=by omega
    have RE:=Lib.hid (RN.out rfl)
    have K6W:=Lib.hid (K6.out.below BW.out K6.out.lt)
    have BWW:=Lib.hid (B2.out.trans (BW.out.mono B2.out.size))
    clear RS RN
    have g6:=bU.get K6W.out
    have f6:=bU.free K6W.out
    obtain ⟨m0,m1,m2⟩:=g6
    obtain ⟨f0,f1,f2⟩:=f6
    have PN:=yH K6W.out 0 0 0
    have M:=BWW.out.trans ((uK wr (g5+1) 0 0 0).toBelow BWW.out.size fun k hk e=>by have:=G6.out; omega)
    go_wp2_with fail
    change bodyPost _ _ _ _ _ (fG wr (g5+1) 0 0 0)
    revert PN M
    generalize fG wr (g5+1) 0 0 0=WW
    intro PN M
    obtain ⟨p0,p1,p2⟩:=bU.get PN
    refine bodyPost_ret (v:=.tuple #[.agg #[.int .i64 0,.int .i64 0,.int .i64 0],.bool false]) (by simp [results,Tryz.results32,go_sem,p0,p1,p2]<;>rfl) rfl ?_
    exact ⟨by rw [RE.out,Cz],M⟩
 | false =>
  have R0:=Lib.hid (show fwd (mP t ls) (pU ls) n 0 0 n=R from by
   rw [←HR.out]
   unfold GU
   rw [if_neg (by rw [hwi]; decide),HL.out])
  clear hwi q0 q1 q2
  go_wp2_with fail
  go_loopw [8,9,28] (fun a b d wr=>∃(y8 z9:Int) (k:Nat),a=.int .i64 y8∧b=.int .i64 z9∧d=.int .i64 (k:Int)∧k≤n∧(0≤z9∧z9≤9223372036854775807)∧Hid (k<n→∃i:Nat,y8=(i:Int)∧i<n∧fwd (mP t ls) (pU ls) n i z9.toNat (n - k)=R)∧Hid (k=n→R=.none)∧Hid (Below w2.heap.size w2 wr)) (fun _ _ d _=>n - (intOf d).toNat)
  case atStart=>exact ⟨0,0,0,rfl,rfl,rfl,Nat.zero_le _,by omega,Lib.hid fun h=>⟨0,rfl,by omega,R0.out⟩,Lib.hid fun h=>by have:=R0.out; subst h; rw [fwd] at this; exact this.symm,C3⟩
  case round =>
   obtain ⟨y8,z9,k,rfl,rfl,rfl,hk,hz9,RS,RN,BW⟩:=hrel
   have hwk:IntKind.i64.wrap ((k:Int)+1)=(k:Int)+1:=IntWalk.i64_in _ (by omega)
   by_cases hlt:k<n
   ·obtain ⟨i,rfl,hin,hri⟩:=RS.out hlt
    have RI:=Lib.hid hri
    have h1:(k:Int)<(n:Int):=by omega
    have hi0':(0:Int)≤(i:Int):=by omega
    have hi1':(i:Int)<(n:Int):=by omega
    obtain ⟨b,off,A',c',rfl,hb,hc,hc',hq⟩:=(H2.out.below BW.out).each i _ (jC (by rw [HL.out]; exact hin))
    have hfew:=H2.out.few _ (List.mem_of_getElem? (jC (ls:=ls) (i:=i) (by rw [HL.out]; exact hin)))
    obtain ⟨m,hm⟩:∃m,(gu ls i).length=m:=⟨_,rfl⟩
    rw [hm] at hc hc' hq hfew
    have HM:=Lib.hid hm
    have SW:=Lib.hid (wV A' m c' (gu ls i) wr hm (hq.up BW.out.size) hfew)
    unfold Mw at SW
    rw [wU,hm] at SW
    have PW:=Lib.hid ((P2.out.below BW.out).up BW.out.size)
    clear hb hq hri hm RS
    go_wp2_with fail
    refine SW.out.mono ?_
    rintro e w5 ⟨A2,c2,rfl,hq2,b5⟩
    have NX:=Lib.hid (wT (oJ (sg (gu ls i)) t m) (.pointer (some ⟨p,0,none⟩)) A2 m c2 z9 (by omega) w5 hfew (Ea ((PW.out.below b5).up b5.size) A2 m c2 (sg (gu ls i)) hfew (by rw [wU]; exact HM.out) hq2))
    have BW5:=Lib.hid (BW.out.trans (b5.mono BW.out.size))
    have FE:=Lib.hid (show oJ (sg (gu ls i)) t m=mP t ls i from by funext a; unfold mP; rw [HM.out])
    have NE:=Lib.hid (show pU ls i=m from HM.out)
    rw [FE.out] at NX
    unfold Mt at NX
    obtain ⟨oo,hoo⟩:∃oo,qP (mP t ls i) z9.toNat (m - z9.toNat)=oo:=⟨_,rfl⟩
    rw [hoo] at NX
    have HOO:=Lib.hid hoo
    clear hq2 b5 SW hoo
    cases oo with
    | some a =>
     have RE:=Lib.hid (show R=.some (i,a) from by
      rw [←RI.out,show n - k=(n - k - 1)+1 by omega]
      exact GL (by rw [NE.out]; exact HOO.out))
     obtain ⟨v,hv⟩:∃v,mP t ls i a=v:=⟨_,rfl⟩
     have HV:=Lib.hid hv
     unfold uJ at NX
     dsimp only at NX
     rw [hv] at NX
     clear hv
     go_wp2_with fail
     refine NX.out.mono ?_
     rintro e w6 ⟨rfl,b6⟩
     have BW6:=Lib.hid (BW5.out.trans (b6.mono BW5.out.size))
     have K6W:=Lib.hid (K6.out.below BW6.out K6.out.lt)
     have BWW:=Lib.hid (B2.out.trans (BW6.out.mono B2.out.size))
     clear b6 NX
     have g6:=bU.get K6W.out
     have f6:=bU.free K6W.out
     obtain ⟨m0,m1,m2⟩:=g6
     obtain ⟨f0,f1,f2⟩:=f6
     have PN:=yH K6W.out (i:Int) (a:Int) v
     have M:=BWW.out.trans ((uK w6 (g5+1) (i:Int) (a:Int) v).toBelow BWW.out.size fun k hk e=>by have:=G6.out; omega)
     go_wp2_with fail
     change bodyPost _ _ _ _ _ (fG w6 (g5+1) (i:Int) (a:Int) v)
     revert PN M
     generalize fG w6 (g5+1) (i:Int) (a:Int) v=WW
     intro PN M
     obtain ⟨p0,p1,p2⟩:=bU.get PN
     refine bodyPost_ret (v:=.tuple #[.agg #[.int .i64 (i:Int),.int .i64 (a:Int),.int .i64 v],.bool true]) (by simp [results,Tryz.results32,go_sem,p0,p1,p2]<;>rfl) rfl ?_
     exact ⟨by rw [RE.out,Cz,HV.out],M⟩
    | none =>
     have RE:=Lib.hid (show R=fwd (mP t ls) (pU ls) n ((i+1) % n) 0 (n - (k+1)) from by
      rw [←RI.out,show n - k=(n - (k+1))+1 by omega]
      exact GN (by rw [NE.out]; exact HOO.out))
     unfold uJ at NX
     dsimp only at NX
     have hnz:((n:Int) == 0)=false:=by simp; omega
     have hnz2:¬((n:Int)=0):=by omega
     have hw1:IntKind.i64.wrap ((i:Int)+1)=((i+1:Nat):Int):=by rw [IntWalk.i64_in _ (by omega)]; omega
     obtain ⟨j,hj⟩:∃j,(i+1) % n=j:=⟨_,rfl⟩
     have hjn:j<n:=by rw [←hj]; exact Nat.mod_lt _ (by omega)
     have hmd:(((i+1:Nat):Int)).tmod (n:Int)=(j:Int):=by rw [GQ,hj]
     have hwj:IntKind.i64.wrap (j:Int)=(j:Int):=IntWalk.i64_in _ (by omega)
     rw [hj] at RE
     obtain ⟨a1,ha1⟩:∃a1:Int,((i+1:Nat):Int)=a1:=⟨_,rfl⟩
     rw [ha1] at hw1 hmd
     clear hj ha1
     go_wp2_with fail
     refine NX.out.mono ?_
     rintro e w6 ⟨rfl,b6⟩
     have BW6:=Lib.hid (BW5.out.trans (b6.mono BW5.out.size))
     clear b6 NX
     go_wp2_with fail
     go_roundw
     case rel=>exact ⟨(j:Int),0,k+1,rfl,rfl,by first | rfl | (congr 1; done) | (congr 1; omega),by omega,by omega,Lib.hid fun h=>⟨j,rfl,hjn,by exact RE.out.symm⟩,Lib.hid fun h=>by (have:=RE.out; rw [show n - (k+1)=0 by omega,fwd] at this; exact this),BW6⟩
     case measure=>first | (simp [intOf]; done) | (simp [intOf]; omega)
   ·obtain rfl:k=n:=by omega
    have RE:=Lib.hid (RN.out rfl)
    have K6W:=Lib.hid (K6.out.below BW.out K6.out.lt)
    have BWW:=Lib.hid (B2.out.trans (BW.out.mono B2.out.size))
    clear RS RN
    have g6:=bU.get K6W.out
    have f6:=bU.free K6W.out
    obtain ⟨m0,m1,m2⟩:=g6
    obtain ⟨f0,f1,f2⟩:=f6
    have PN:=yH K6W.out 0 0 0
    have M:=BWW.out.trans ((uK wr (g5+1) 0 0 0).toBelow BWW.out.size fun k hk e=>by have:=G6.out; omega)
    go_wp2_with fail
    change bodyPost _ _ _ _ _ (fG wr (g5+1) 0 0 0)
    revert PN M
    generalize fG wr (g5+1) 0 0 0=WW
    intro PN M
    obtain ⟨p0,p1,p2⟩:=bU.get PN
    refine bodyPost_ret (v:=.tuple #[.agg #[.int .i64 0,.int .i64 0,.int .i64 0],.bool false]) (by simp [results,Tryz.results32,go_sem,p0,p1,p2]<;>rfl) rfl ?_
    exact ⟨by rw [RE.out,Cz],M⟩
end NF
theorem Sl {r n a:Int} (h:a<0∨255<a):iK (r,n,a)=false:=by
 unfold iK
 rcases h with h | h
 ·simp [show ¬0≤a by omega]
 ·simp [show ¬a≤255 by omega]
theorem Pv {r a:Int} (h0:0≤a) (h1:a≤255):iK (r,0,a)=(r == 0):=by
 unfold iK
 simp [h0,h1]
theorem Pw {r n a:Int} (h0:0≤a) (h1:a≤255) (hn:n≠0):iK (r,n,a)=((eZ r == n) || jM 0 r n a):=by
 have hw:=wG r
 have e:(decide (0<n) && n == eZ r)=(eZ r == n):=by
  rw [Bool.eq_iff_iff]
  simp only [Bool.and_eq_true,decide_eq_true_eq,beq_iff_eq]
  omega
 have e2:((r,n,a) == ((0:Int),(1:Int),(0:Int)))=jM 0 r n a:=by
  unfold jM
  rw [Bool.eq_iff_iff]
  simp only [Bool.and_eq_true,beq_iff_eq,Prod.mk.injEq,and_assoc]
 unfold iK
 simp only [h0,h1,decide_true,Bool.true_and,e,e2,show (n == 0)=false by simpa using hn,Bool.false_and,Bool.or_false]
 exact Bool.or_comm _ _
theorem KR (r n a:Int) (hr0 : -2147483648≤r) (hr1:r≤2147483647) (w:World) (hs:dw w):Calls Tryz.prog 109 #[cellV r n a] w fun e w'=>e=.returned (.bool (iK (r,n,a)))∧Below w.heap.size w w':=by
 by_cases ha:0≤a∧a≤255
 ·obtain ⟨h0,h1⟩:=ha
  by_cases hn:n=0
  ·subst hn
   rw [Pv h0 h1]
   clear hs
   cases h:(r == 0)
   all_goals
    go_enter Tryz.func109,Tryz.ntmps109
    go_wp2_with (go_at_call 160; refine (kP a h0 h1 _).mono ?_; rintro e w' ⟨rfl,rfl⟩)
    go_ret
    exact ⟨rfl,(Below.refl _ _).alloc (Nat.le_refl _) _⟩
  ·rw [Pw h0 h1 hn]
   have hz:(n == 0)=false:=by simpa using hn
   have F:=fun w hs=>KA r hr0 hr1 w hs
   have P:=fun w=>um r n a w
   obtain ⟨m,hm⟩:∃m,eZ r=m:=⟨_,rfl⟩
   rw [hm] at F ⊢
   obtain ⟨q,hq⟩:∃q,jM 0 r n a=q:=⟨_,rfl⟩
   rw [hq] at P ⊢
   have FH:=Lib.hid F
   have PH:=Lib.hid P
   have SA:=hs.below ((Below.refl w.heap.size w).alloc (Nat.le_refl _) (.cells #[.int .i32 r,.int .i64 n,.int .i64 a] 76)) hs.size
   have SH:=Lib.hid SA
   clear F P hm hq hs SA hn
   cases h:(m == n)
   ·cases q
    all_goals
     go_enter Tryz.func109,Tryz.ntmps109
     go_wp2_with (go_at_call 160; refine (kP a h0 h1 _).mono ?_; rintro e w' ⟨rfl,rfl⟩)
     go_region_with (first | (go_at_call 123; refine (FH.out _ (by first | exact SH.out | exact dw.drew SH.out | exact dw.drew (dw.drew SH.out))).mono ?_; rintro e w' ⟨rfl,rfl⟩) | (go_at_call 126; refine (PH.out _).mono ?_; rintro e w3 ⟨rfl,b3⟩))
     all_goals go_wp2
     all_goals go_ret
     all_goals first
      | exact ⟨rfl,(Below.refl _ _).alloc (Nat.le_refl _) _⟩
      | exact ⟨rfl,((Below.refl _ _).alloc (Nat.le_refl _) _).drew⟩
      | exact ⟨rfl,((Below.refl _ _).alloc (Nat.le_refl _) _).trans (b3.mono (by simp))⟩
      | exact ⟨rfl,(((Below.refl _ _).alloc (Nat.le_refl _) _).drew).trans (b3.mono (by simp))⟩
   ·cases q
    all_goals
     go_enter Tryz.func109,Tryz.ntmps109
     go_wp2_with (go_at_call 160; refine (kP a h0 h1 _).mono ?_; rintro e w' ⟨rfl,rfl⟩)
     go_region_with (first | (go_at_call 123; refine (FH.out _ (by first | exact SH.out | exact dw.drew SH.out | exact dw.drew (dw.drew SH.out))).mono ?_; rintro e w' ⟨rfl,rfl⟩) | (go_at_call 126; refine (PH.out _).mono ?_; rintro e w3 ⟨rfl,b3⟩))
     all_goals go_wp2
     all_goals go_ret
     all_goals first
      | exact ⟨rfl,(Below.refl _ _).alloc (Nat.le_refl _) _⟩
      | exact ⟨rfl,((Below.refl _ _).alloc (Nat.le_refl _) _).drew⟩
      | exact ⟨rfl,((Below.refl _ _).alloc (Nat.le_refl _) _).trans (b3.mono (by simp))⟩
      | exact ⟨rfl,(((Below.refl _ _).alloc (Nat.le_refl _) _).drew).trans (b3.mono (by simp))⟩
 ·rw [Sl (by omega)]
  have M:=Lib.hid (fun w=>Mf a (by omega) w)
  clear hs ha
  go_enter Tryz.func109,Tryz.ntmps109
  go_wp2_with (go_at_call 160; refine (M.out _).mono ?_; rintro e w' ⟨rfl,rfl⟩)
  go_ret
  exact ⟨rfl,(Below.refl _ _).alloc (Nat.le_refl _) _⟩
abbrev Wq (A:Option Addr) (n c:Nat) (wrap:Bool):Value:=.agg #[.slice A n c,.bool wrap]
def gT (w:World) (g:Nat) (c:au):Prop:=w.heap[g]? = some (.cells #[.int .i32 c.1,.int .i64 c.2.1,.int .i64 c.2.2] 76 (0,0))
theorem gT.get {w:World} {g:Nat} {c:au} (h:gT w g c) (j:Nat):w.cell? ⟨g,j,none⟩ = #[Value.int .i32 c.1,.int .i64 c.2.1,.int .i64 c.2.2][j]?:=cell_of_row w g j _ _ (0,0) h
theorem gT.lt {w:World} {g:Nat} {c:au} (h:gT w g c):g<w.heap.size:=(Array.getElem?_eq_some_iff.1 h).1
theorem gT.free {w:World} {g:Nat} {c:au} (h:gT w g c) (j:Nat):w.frozen? ⟨g,j,none⟩=false:=by
 unfold gT at h
 simp [World.frozen?,h]
theorem gT.below {w w':World} {g B:Nat} {c:au} (h:gT w g c) (hb:Below B w w') (hg:g<B):gT w' g c:=(hb.block g hg).trans h
theorem Aq {w:World} {g:Nat} {c:au} (h:gT w g c) (r m a:Int):gT (((w.setCell ⟨g,0,none⟩ (.int .i32 r)).setCell ⟨g,1,none⟩ (.int .i64 m)).setCell ⟨g,2,none⟩ (.int .i64 a)) g (r,m,a):=by
 have h0:=heap_setCell_same w g 0 _ _ (.int .i32 r) h
 have h1:=heap_setCell_same _ g 1 _ _ (.int .i64 m) h0
 have h2:=heap_setCell_same _ g 2 _ _ (.int .i64 a) h1
 exact h2
theorem zk (A:Option Addr) (n c:Nat) (wrap:Bool) (l:List au) (w:World) (hs:dw w) (hl:∀c∈l,-2147483648≤c.1∧c.1≤2147483647) (hq:Sq w w.heap.size 3 n A (flat l)) :
  Calls Tryz.prog 158 #[Wq A n c wrap] w fun e w'=>e=.returned (.bool (iL l))∧Below w.heap.size w w':=by
 have hln:l.length=n:=by have:=hq.len; rw [aX] at this; omega
 have LN:=Lib.hid hln
 have S:=Lib.hid hs
 have Q:=Lib.hid hq
 have HS:=Lib.hid hl
 clear hs hq hl
 by_cases h300:300<n
 ·have E:iL l=false:=by unfold iL; simp [hln,show ¬n≤300 by omega]
  rw [E]
  clear E hln
  go_enter Tryz.func158,Tryz.ntmps158
  go_wp2_with fail
  go_ret
  exact ⟨rfl,(Below.refl _ _).alloc (Nat.le_refl _) _⟩
 ·have E:iL l=dS (32,1,0) l:=by unfold iL; simp [hln,show n≤300 by omega]
  have EH:=Lib.hid E
  rw [E]
  clear E hln
  go_enter Tryz.func158,Tryz.ntmps158
  go_wp2_with fail
  refine (uj _).mono ?_
  rintro e w2 ⟨rfl,b2⟩
  have B2:=Lib.hid (((Below.refl w.heap.size w).alloc (Nat.le_refl _) _).trans (b2.mono (by simp)))
  have hz2:=b2.size
  simp at hz2
  have hc0:w2.cell? ⟨w.heap.size,0,none⟩=some (.slice A n c):=(b2.cell (p:=⟨w.heap.size,0,none⟩) (by simp)).trans (by rw [cell_of_row _ _ 0 _ _ (0,0) (heap_alloc_new w _)]; rfl)
  clear b2
  have hz2':w.heap.size≤w2.heap.size:=by omega
  have hc1:(w2.alloc (.cells #[.int .i32 32,.int .i64 1,.int .i64 0] 76)).cell? ⟨w.heap.size,0,none⟩=some (.slice A n c):=(World.cell?_alloc_lt _ _ _ (by show w.heap.size<w2.heap.size; omega)).trans hc0
  have CA:=Lib.hid (show gT (w2.alloc (.cells #[.int .i32 32,.int .i64 1,.int .i64 0] 76)) w2.heap.size (32,1,0) from heap_alloc_new w2 _)
  have B3:=Lib.hid (B2.out.alloc (by omega) (.cells #[.int .i32 32,.int .i64 1,.int .i64 0] 76))
  go_wp2_with fail
  clear hc0 hc1
  generalize w2.alloc (.cells #[.int .i32 32,.int .i64 1,.int .i64 0] 76)=w3 at CA B3 ⊢
  go_loopw [16] (fun i wr=>∃(k:Nat) (p:au),i=.int .i64 k∧k≤n∧gT wr w2.heap.size p∧Below w.heap.size w wr∧Hid (dS p (l.drop k)=dS (32,1,0) l)) (fun i _=>n - (intOf i).toNat)
  case atStart=>exact ⟨0,(32,1,0),rfl,Nat.zero_le _,CA.out,B3.out,Lib.hid rfl⟩
  case round =>
   obtain ⟨k,⟨pr,pn,pa⟩,rfl,hk,hp,hb,MG⟩:=hrel
   have p0:wr.cell? ⟨w2.heap.size,0,none⟩=some (.int .i32 pr):=hp.get 0
   have p1:wr.cell? ⟨w2.heap.size,1,none⟩=some (.int .i64 pn):=hp.get 1
   have p2:wr.cell? ⟨w2.heap.size,2,none⟩=some (.int .i64 pa):=hp.get 2
   have PF:=Lib.hid hp
   have hpl:=hp.lt
   have HB:=Lib.hid hb
   have hsz:=hb.size
   by_cases hlt:k<n
   ·obtain ⟨b,off,rfl,hbb,⟨r,m,a⟩,hcc,q0,q1,q2⟩:=(Q.out.below hb).three hlt
    have hx:=HS.out _ (List.mem_of_getElem? hcc)
    simp only at hx
    have hd:l.drop k=(r,m,a)::l.drop (k+1):=by
     obtain ⟨h1,h2⟩:=List.getElem?_eq_some_iff.1 hcc
     rw [List.drop_eq_getElem_cons h1,h2]
    have STEP:=Lib.hid (show dS (pr,pn,pa) (l.drop k)=(iK (r,m,a) && ((pn == 2) == (m == 0)) && (!(m == 0) || a == pa) && dS (r,m,a) (l.drop (k+1))) by rw [hd]; rfl)
    clear hp hb hcc hd
    have CC:=Lib.hid (show gT (wr.alloc (.cells #[.int .i32 r,.int .i64 m,.int .i64 a] 76)) wr.heap.size (r,m,a) from heap_alloc_new wr _)
    have PP:=Lib.hid (PF.out.below ((Below.refl wr.heap.size wr).alloc (Nat.le_refl _) (.cells #[.int .i32 r,.int .i64 m,.int .i64 a] 76)) hpl)
    have B4:=Lib.hid (HB.out.alloc hsz (.cells #[.int .i32 r,.int .i64 m,.int .i64 a] 76))
    have hz4:(wr.alloc (.cells #[.int .i32 r,.int .i64 m,.int .i64 a] 76)).heap.size=wr.heap.size+1:=by simp
    have Z4:=Lib.hid hz4
    clear hz4
    obtain ⟨B,hB⟩:∃B,iK (r,m,a)=B:=⟨_,rfl⟩
    have MB:=Lib.hid (fun w hs=>KR r m a hx.1 hx.2 w hs)
    rw [hB] at MB STEP
    clear hB
    go_wp2_with fail
    generalize wr.alloc (.cells #[.int .i32 r,.int .i64 m,.int .i64 a] 76)=w4 at CC PP B4 Z4 ⊢
    clear p0 p1 p2 q0 q1 q2
    have c0:w4.cell? ⟨wr.heap.size,0,none⟩=some (.int .i32 r):=CC.out.get 0
    have c1:w4.cell? ⟨wr.heap.size,1,none⟩=some (.int .i64 m):=CC.out.get 1
    have c2:w4.cell? ⟨wr.heap.size,2,none⟩=some (.int .i64 a):=CC.out.get 2
    have p1:w4.cell? ⟨w2.heap.size,1,none⟩=some (.int .i64 pn):=PP.out.get 1
    have s4:=Z4.out
    cases B
    ·have tok:=True.intro
     go_quiet (fail)
     go_wp2_with fail
     refine (MB.out _ (S.out.below (show Below w.heap.size w (w4.drewN _) from ⟨B4.out.os,B4.out.tape,B4.out.output,B4.out.size,B4.out.block⟩) S.out.size)).mono ?_
     rintro e w6 ⟨rfl,b6⟩
     have b6':Below w4.heap.size w4 w6:=⟨b6.os,b6.tape,b6.output,b6.size,b6.block⟩
     have C6:=Lib.hid (CC.out.below b6' CC.out.lt)
     have P6:=Lib.hid (PP.out.below b6' PP.out.lt)
     have B6:=Lib.hid (B4.out.trans (b6'.mono B4.out.size))
     have k0:w6.cell? ⟨wr.heap.size,0,none⟩=some (.int .i32 r):=C6.out.get 0
     have k1:w6.cell? ⟨wr.heap.size,1,none⟩=some (.int .i64 m):=C6.out.get 1
     have k2:w6.cell? ⟨wr.heap.size,2,none⟩=some (.int .i64 a):=C6.out.get 2
     have l0:w6.cell? ⟨w2.heap.size,0,none⟩=some (.int .i32 pr):=P6.out.get 0
     have l1:w6.cell? ⟨w2.heap.size,1,none⟩=some (.int .i64 pn):=P6.out.get 1
     have l2:w6.cell? ⟨w2.heap.size,2,none⟩=some (.int .i64 pa):=P6.out.get 2
     have g0:=P6.out.free 0
     have g1:=P6.out.free 1
     have g2:=P6.out.free 2
     clear b6 b6' c0 c1 c2 p1
     have RF:=Lib.hid (show dS (32,1,0) l=false by rw [←MG.out,STEP.out]; simp)
     go_wp2
     go_ret
     exact ⟨aC RF.out.symm,B6.out⟩
    ·cases e2:(pn == 2)<;>cases e3:(m == 0)
     ·have tok:=True.intro
      go_quiet (fail)
      go_wp2_with fail
      refine (MB.out _ (S.out.below (show Below w.heap.size w (w4.drewN _) from ⟨B4.out.os,B4.out.tape,B4.out.output,B4.out.size,B4.out.block⟩) S.out.size)).mono ?_
      rintro e w6 ⟨rfl,b6⟩
      have b6':Below w4.heap.size w4 w6:=⟨b6.os,b6.tape,b6.output,b6.size,b6.block⟩
      have C6:=Lib.hid (CC.out.below b6' CC.out.lt)
      have P6:=Lib.hid (PP.out.below b6' PP.out.lt)
      have B6:=Lib.hid (B4.out.trans (b6'.mono B4.out.size))
      have k0:w6.cell? ⟨wr.heap.size,0,none⟩=some (.int .i32 r):=C6.out.get 0
      have k1:w6.cell? ⟨wr.heap.size,1,none⟩=some (.int .i64 m):=C6.out.get 1
      have k2:w6.cell? ⟨wr.heap.size,2,none⟩=some (.int .i64 a):=C6.out.get 2
      have l0:w6.cell? ⟨w2.heap.size,0,none⟩=some (.int .i32 pr):=P6.out.get 0
      have l1:w6.cell? ⟨w2.heap.size,1,none⟩=some (.int .i64 pn):=P6.out.get 1
      have l2:w6.cell? ⟨w2.heap.size,2,none⟩=some (.int .i64 pa):=P6.out.get 2
      have g0:=P6.out.free 0
      have g1:=P6.out.free 1
      have g2:=P6.out.free 2
      clear b6 b6' c0 c1 c2 p1
      have RN:=Lib.hid (show dS (r,m,a) (l.drop (k+1))=dS (32,1,0) l by rw [←MG.out,STEP.out,e2,e3]; simp)
      have N6:=Lib.hid (Aq P6.out r m a)
      have M6:=Lib.hid ((((B6.out.setCell (p:=⟨w2.heap.size,0,none⟩) hz2' (.int .i32 r)).setCell (p:=⟨w2.heap.size,1,none⟩) hz2' (.int .i64 m)).setCell (p:=⟨w2.heap.size,2,none⟩) hz2' (.int .i64 a)))
      go_wp2
      go_roundw
      case rel=>exact ⟨k+1,(r,m,a),by go_num,by omega,N6.out,M6.out,RN⟩
      case measure=>simp [intOf]; omega
     ·have tok:=True.intro
      go_quiet (fail)
      go_wp2_with fail
      refine (MB.out _ (S.out.below (show Below w.heap.size w (w4.drewN _) from ⟨B4.out.os,B4.out.tape,B4.out.output,B4.out.size,B4.out.block⟩) S.out.size)).mono ?_
      rintro e w6 ⟨rfl,b6⟩
      have b6':Below w4.heap.size w4 w6:=⟨b6.os,b6.tape,b6.output,b6.size,b6.block⟩
      have C6:=Lib.hid (CC.out.below b6' CC.out.lt)
      have P6:=Lib.hid (PP.out.below b6' PP.out.lt)
      have B6:=Lib.hid (B4.out.trans (b6'.mono B4.out.size))
      have k0:w6.cell? ⟨wr.heap.size,0,none⟩=some (.int .i32 r):=C6.out.get 0
      have k1:w6.cell? ⟨wr.heap.size,1,none⟩=some (.int .i64 m):=C6.out.get 1
      have k2:w6.cell? ⟨wr.heap.size,2,none⟩=some (.int .i64 a):=C6.out.get 2
      have l0:w6.cell? ⟨w2.heap.size,0,none⟩=some (.int .i32 pr):=P6.out.get 0
      have l1:w6.cell? ⟨w2.heap.size,1,none⟩=some (.int .i64 pn):=P6.out.get 1
      have l2:w6.cell? ⟨w2.heap.size,2,none⟩=some (.int .i64 pa):=P6.out.get 2
      have g0:=P6.out.free 0
      have g1:=P6.out.free 1
      have g2:=P6.out.free 2
      clear b6 b6' c0 c1 c2 p1
      have RF:=Lib.hid (show dS (32,1,0) l=false by rw [←MG.out,STEP.out,e2,e3]; simp)
      go_wp2
      go_ret
      exact ⟨aC RF.out.symm,B6.out⟩
     ·have tok:=True.intro
      go_quiet (fail)
      go_wp2_with fail
      refine (MB.out _ (S.out.below (show Below w.heap.size w (w4.drewN _) from ⟨B4.out.os,B4.out.tape,B4.out.output,B4.out.size,B4.out.block⟩) S.out.size)).mono ?_
      rintro e w6 ⟨rfl,b6⟩
      have b6':Below w4.heap.size w4 w6:=⟨b6.os,b6.tape,b6.output,b6.size,b6.block⟩
      have C6:=Lib.hid (CC.out.below b6' CC.out.lt)
      have P6:=Lib.hid (PP.out.below b6' PP.out.lt)
      have B6:=Lib.hid (B4.out.trans (b6'.mono B4.out.size))
      have k0:w6.cell? ⟨wr.heap.size,0,none⟩=some (.int .i32 r):=C6.out.get 0
      have k1:w6.cell? ⟨wr.heap.size,1,none⟩=some (.int .i64 m):=C6.out.get 1
      have k2:w6.cell? ⟨wr.heap.size,2,none⟩=some (.int .i64 a):=C6.out.get 2
      have l0:w6.cell? ⟨w2.heap.size,0,none⟩=some (.int .i32 pr):=P6.out.get 0
      have l1:w6.cell? ⟨w2.heap.size,1,none⟩=some (.int .i64 pn):=P6.out.get 1
      have l2:w6.cell? ⟨w2.heap.size,2,none⟩=some (.int .i64 pa):=P6.out.get 2
      have g0:=P6.out.free 0
      have g1:=P6.out.free 1
      have g2:=P6.out.free 2
      clear b6 b6' c0 c1 c2 p1
      have RF:=Lib.hid (show dS (32,1,0) l=false by rw [←MG.out,STEP.out,e2,e3]; simp)
      go_wp2
      go_ret
      exact ⟨aC RF.out.symm,B6.out⟩
     ·cases e4:(a == pa)
      ·have e5:(a != pa)=true:=by simpa using e4
       go_quiet (fail)
       go_wp2_with fail
       refine (MB.out _ (S.out.below (show Below w.heap.size w (w4.drewN _) from ⟨B4.out.os,B4.out.tape,B4.out.output,B4.out.size,B4.out.block⟩) S.out.size)).mono ?_
       rintro e w6 ⟨rfl,b6⟩
       have b6':Below w4.heap.size w4 w6:=⟨b6.os,b6.tape,b6.output,b6.size,b6.block⟩
       have C6:=Lib.hid (CC.out.below b6' CC.out.lt)
       have P6:=Lib.hid (PP.out.below b6' PP.out.lt)
       have B6:=Lib.hid (B4.out.trans (b6'.mono B4.out.size))
       have k0:w6.cell? ⟨wr.heap.size,0,none⟩=some (.int .i32 r):=C6.out.get 0
       have k1:w6.cell? ⟨wr.heap.size,1,none⟩=some (.int .i64 m):=C6.out.get 1
       have k2:w6.cell? ⟨wr.heap.size,2,none⟩=some (.int .i64 a):=C6.out.get 2
       have l0:w6.cell? ⟨w2.heap.size,0,none⟩=some (.int .i32 pr):=P6.out.get 0
       have l1:w6.cell? ⟨w2.heap.size,1,none⟩=some (.int .i64 pn):=P6.out.get 1
       have l2:w6.cell? ⟨w2.heap.size,2,none⟩=some (.int .i64 pa):=P6.out.get 2
       have g0:=P6.out.free 0
       have g1:=P6.out.free 1
       have g2:=P6.out.free 2
       clear b6 b6' c0 c1 c2 p1
       have RF:=Lib.hid (show dS (32,1,0) l=false by rw [←MG.out,STEP.out,e2,e3,e4]; simp)
       go_wp2
       go_ret
       exact ⟨aC RF.out.symm,B6.out⟩
      ·have e5:(a != pa)=false:=by simpa using e4
       go_quiet (fail)
       go_wp2_with fail
       refine (MB.out _ (S.out.below (show Below w.heap.size w (w4.drewN _) from ⟨B4.out.os,B4.out.tape,B4.out.output,B4.out.size,B4.out.block⟩) S.out.size)).mono ?_
       rintro e w6 ⟨rfl,b6⟩
       have b6':Below w4.heap.size w4 w6:=⟨b6.os,b6.tape,b6.output,b6.size,b6.block⟩
       have C6:=Lib.hid (CC.out.below b6' CC.out.lt)
       have P6:=Lib.hid (PP.out.below b6' PP.out.lt)
       have B6:=Lib.hid (B4.out.trans (b6'.mono B4.out.size))
       have k0:w6.cell? ⟨wr.heap.size,0,none⟩=some (.int .i32 r):=C6.out.get 0
       have k1:w6.cell? ⟨wr.heap.size,1,none⟩=some (.int .i64 m):=C6.out.get 1
       have k2:w6.cell? ⟨wr.heap.size,2,none⟩=some (.int .i64 a):=C6.out.get 2
       have l0:w6.cell? ⟨w2.heap.size,0,none⟩=some (.int .i32 pr):=P6.out.get 0
       have l1:w6.cell? ⟨w2.heap.size,1,none⟩=some (.int .i64 pn):=P6.out.get 1
       have l2:w6.cell? ⟨w2.heap.size,2,none⟩=some (.int .i64 pa):=P6.out.get 2
       have g0:=P6.out.free 0
       have g1:=P6.out.free 1
       have g2:=P6.out.free 2
       clear b6 b6' c0 c1 c2 p1
       have RN:=Lib.hid (show dS (r,m,a) (l.drop (k+1))=dS (32,1,0) l by rw [←MG.out,STEP.out,e2,e3,e4]; simp)
       have N6:=Lib.hid (Aq P6.out r m a)
       have M6:=Lib.hid ((((B6.out.setCell (p:=⟨w2.heap.size,0,none⟩) hz2' (.int .i32 r)).setCell (p:=⟨w2.heap.size,1,none⟩) hz2' (.int .i64 m)).setCell (p:=⟨w2.heap.size,2,none⟩) hz2' (.int .i64 a)))
       go_wp2
       go_roundw
       case rel=>exact ⟨k+1,(r,m,a),by go_num,by omega,N6.out,M6.out,RN⟩
       case measure=>simp [intOf]; omega
   ·have hk':k=n:=by omega
    have EN:=Lib.hid (show dS (32,1,0) l = !(pn == 2) by rw [←MG.out,List.drop_eq_nil_of_le (by have:=LN.out; omega)]; rfl)
    clear hp hb hk' p0 p2
    cases e2:(pn == 2)
    ·have e5:(pn != 2)=true:=by simpa using e2
     have E2:=Lib.hid e2
     go_wp2
     go_ret
     exact ⟨aC (a:=true) (by rw [EN.out,E2.out]; rfl),HB.out⟩
    ·have e5:(pn != 2)=false:=by simpa using e2
     have E2:=Lib.hid e2
     go_wp2
     go_ret
     exact ⟨aC (a:=false) (by rw [EN.out,E2.out]; rfl),HB.out⟩
section
variable {H:Type} {enc:TypeId×Value→H} {w W:World} {base:Nat} {sp:Nat→Bool} {held:Bool}
structure aI where
 A:Option Addr
 n:Nat
 c:Nat
 wrap:Bool
 l:List au
structure aI.Ok (W:World) (B:Nat) (x:aI):Prop where
 le:x.n≤x.c
 cap:x.c≤maxLen
 signs:∀c∈x.l,-2147483648≤c.1∧c.1≤2147483647
 sq:Sq W B 3 x.n x.A (flat x.l)
def aI.vals (x:aI):List Value:=[.slice x.A x.n x.c,.bool x.wrap]
theorem aI.Ok.below {W W':World} {B:Nat} {x:aI} (h:x.Ok W B) (hb:Below B W W'):x.Ok W' B:=⟨h.le,h.cap,h.signs,h.sq.below hb⟩
theorem aI.Ok.up {W:World} {B B':Nat} {x:aI} (h:x.Ok W B) (hb:B≤B'):x.Ok W B':=⟨h.le,h.cap,h.signs,h.sq.up hb⟩
end
theorem rX {α:Type} (f:α→List Value) (s:Nat) (hs:∀x,(f x).length=s):∀(l:List α) (k:Nat) (x:α),l[k]? = some x→∀(j:Nat) (u:Value),(f x)[j]? = some u→(l.flatMap f)[k*s+j]? = some u
 | [],k,x,h,_,_,_=>by simp at h
 | y::l,0,x,h,j,u,hu=>by
  simp at h
  subst h
  rw [List.flatMap_cons,Nat.zero_mul,Nat.zero_add,List.getElem?_append_left (List.getElem?_eq_some_iff.1 hu).1]
  exact hu
 | y::l,k+1,x,h,j,u,hu=>by
  have ih:=rX f s hs l k x (by simpa using h) j u hu
  rw [List.flatMap_cons,List.getElem?_append_right (by rw [hs,Nat.succ_mul]; omega),hs,show (k+1)*s+j - s=k*s+j by rw [Nat.succ_mul]; omega]
  exact ih
theorem sM {W:World} {B n k:Nat} {A:Option Addr} {l:List aI} {r:aI} (hq:Sq W B 2 n A (l.flatMap aI.vals)) (hr:l[k]? = some r) (hk:k<n) :
  ∃b off,A=some ⟨b,off,none⟩∧b<B∧W.cell? ⟨b,off+k*2,none⟩=some (.slice r.A r.n r.c)∧W.cell? ⟨b,off+k*2+1,none⟩=some (.bool r.wrap):=by
 obtain ⟨b,off,e,hb,hc⟩:=hq.spot (by omega)
 have h0:=hc (k*2+0) _ (rX aI.vals 2 (fun _=>rfl) l k r hr 0 _ rfl)
 have h1:=hc (k*2+1) _ (rX aI.vals 2 (fun _=>rfl) l k r hr 1 _ rfl)
 exact ⟨b,off,e,hb,by simpa using h0,by rw [Nat.add_assoc]; exact h1⟩
namespace Chain
section
variable {P:Program} {ops:Array Oper} {Q:Exit→Act→World→Prop} {S:World→Prop}
def done (n k:Nat):Array Bool:=(List.replicate k true++List.replicate (n - k) false).toArray
theorem Px (n:Nat):done n 0=Array.replicate n false:=by
 unfold done; apply Array.ext'; simp
theorem GV {n k:Nat} (h:k<n):(done n k).setIfInBounds k true=done n (k+1):=by
 unfold done
 apply Array.ext'
 obtain ⟨m,hm⟩:∃m,n - k=m+1:=⟨n - k - 1,by omega⟩
 have e:n - (k+1)=m:=by omega
 rw [hm,e]
 simp only [List.setIfInBounds_toArray]
 rw [List.set_append,List.replicate_succ (n:=m),List.replicate_succ' (n:=k)]
 simp
theorem zH {n k:Nat} (hk:k≤n) (j:Nat) (b:Bool):(done n k).getD j b=if j<k then true else if j<n then false else b:=by
 unfold done
 simp only [Array.getD_eq_getD_getElem?,List.getElem?_toArray,List.getElem?_append,List.length_replicate,List.getElem?_replicate]
 by_cases h1:j<k
 ·simp [h1]
 ·by_cases h2:j<n
  ·simp [h1,h2,show j - k<n - k by omega]
  ·simp [h1,h2,show ¬j - k<n - k by omega]
def most:List Edge→Nat
 | []=>0
 | e::l=>if Region.binds .any e then max (e.on+1) (most l) else most l
theorem KS (l:List Edge) (k:Nat):most l≤k↔∀e∈l,Region.binds .any e=true→e.on<k:=by
 induction l with
 | nil=>simp [most]
 | cons e l ih =>
  unfold most
  by_cases h:Region.binds .any e=true
  ·rw [if_pos h]
   constructor
   ·intro hm x hx hb
    rcases List.mem_cons.1 hx with rfl | hx
    ·omega
    ·exact ih.1 (by omega) x hx hb
   ·intro hm
    have h1:=hm e (by simp) h
    have h2:=ih.2 fun x hx=>hm x (by simp [hx])
    omega
  ·rw [if_neg h,ih]
   constructor
   ·intro hm x hx hb
    rcases List.mem_cons.1 hx with rfl | hx
    ·exact absurd hb h
    ·exact hm x hx hb
   ·intro hm x hx; exact hm x (by simp [hx])
abbrev Line:=Option Tmp×Op×Option (Nat×Bool)×Nat
def line (o:Oper):Line:=(o.dst,o.op,o.guard,most o.after.toList)
def look (ops:Array Oper):List Line:=ops.toList.map line
def ups (k:Nat):Nat→List Line→List Nat
 | _,[]=>[]
 | j,x::l=>if Nat.ble k j && Nat.ble x.2.2.2 k then j::ups k (j+1) l else ups k (j+1) l
theorem KT (k:Nat):∀(l:List Line) (j i:Nat),i∈ups k j l↔∃m x,l[m]? = some x∧i=j+m∧k≤i∧x.2.2.2≤k
 | [],j,i=>by simp [ups]
 | x::l,j,i=>by
  have ih:=KT k l (j+1) i
  unfold ups
  have rest:(∃m y,(x::l)[m+1]? = some y∧i=j+(m+1)∧k≤i∧y.2.2.2≤k)↔i∈ups k (j+1) l:=by
   rw [ih]
   constructor
   ·rintro ⟨m,y,h1,h2,h3⟩; exact ⟨m,y,by simpa using h1,by omega,h3⟩
   ·rintro ⟨m,y,h1,h2,h3⟩; exact ⟨m,y,by simpa using h1,by omega,h3⟩
  by_cases h:(Nat.ble k j && Nat.ble x.2.2.2 k)=true
  ·rw [if_pos h]
   have h':k≤j∧x.2.2.2≤k:=by simpa using h
   rw [List.mem_cons]
   constructor
   ·rintro (rfl | hi)
    ·exact ⟨0,x,rfl,rfl,h'.1,h'.2⟩
    ·obtain ⟨m,y,h1⟩:=rest.2 hi; exact ⟨m+1,y,h1⟩
   ·rintro ⟨m,y,h1,h2,h3⟩
    cases m with
    | zero=>left; omega
    | succ m=>right; exact rest.1 ⟨m,y,h1,h2,h3⟩
  ·rw [if_neg h]
   have h':¬(k≤j∧x.2.2.2≤k):=by simpa using h
   constructor
   ·intro hi; obtain ⟨m,y,h1⟩:=rest.2 hi; exact ⟨m+1,y,h1⟩
   ·rintro ⟨m,y,h1,h2,h3,h4⟩
    cases m with
    | zero=>simp at h1; subst h1; exact absurd ⟨by omega,h4⟩ h'
    | succ m=>exact rest.1 ⟨m,y,h1,h2,h3,h4⟩
theorem j4 {L:List Line} {n k i:Nat} (hL:look ops=L) (hn:ops.size=n) (hk:k≤n):i∈Region.ready .any ops (done n k)↔i∈ups k 0 L:=by
 subst hL
 rw [mem_ready,KT,zH hk]
 have hlook:∀m:Nat,(look ops)[m]? = (ops[m]?).map line:=fun m=>by unfold look; simp
 constructor
 ·rintro ⟨h1,o,ho,he⟩
  have hi:i<n:=by rw [←hn]; exact (Array.getElem?_eq_some_iff.1 ho).1
  have hki:k≤i:=by
   rcases Nat.lt_or_ge i k with h | h
   ·rw [if_pos h] at h1; cases h1
   ·exact h
  refine ⟨i,line o,by rw [hlook,ho]; rfl,by omega,hki,?_⟩
  show most o.after.toList≤k
  rw [KS]
  intro e hm hb
  have:=he e (by simpa using hm) hb
  rw [zH hk] at this
  by_cases h:e.on<k
  ·exact h
  ·rw [if_neg h] at this
   split at this<;>cases this
 ·rintro ⟨m,x,h1,h2,h3,h4⟩
  rw [hlook,Option.map_eq_some_iff] at h1
  obtain ⟨o,ho,rfl⟩:=h1
  have hm:m<n:=by rw [←hn]; exact (Array.getElem?_eq_some_iff.1 ho).1
  obtain rfl:i=m:=by omega
  refine ⟨by rw [if_neg (by omega),if_pos hm],o,ho,fun e he hb=> ?_⟩
  rw [zH hk,if_pos ((KS _ _).1 h4 e (by simpa using he) hb)]
theorem ready_one {L:List Line} {n k:Nat} (hL:look ops=L) (hn:ops.size=n) (hk:k≤n) (h:ups k 0 L=[k]):∀i∈Region.ready .any ops (done n k),i=k:=fun i hi=>by
 have:=(j4 hL hn hk).1 hi
 rw [h] at this
 simpa using this
def At (a:Act) (t:Nat) (v:Value):Prop:=a.tmps[t]? = some v
theorem At.ev {a:Act} {t:Nat} {v:Value} (h:At a t v):a.eval (.tmp t)=v:=by
 unfold At at h
 simp [Act.eval,h]
theorem At.lt {a:Act} {t:Nat} {v:Value} (h:At a t v):t<a.tmps.size:=(Array.getElem?_eq_some_iff.1 h).1
theorem Vh {a:Act} {t:Nat} (h:t<a.tmps.size) (v:Value):At (a.put (some t) v) t v:=by
 unfold At Act.put
 simp [h]
theorem At.put {a:Act} {t:Nat} {v:Value} (h:At a t v) {d:Nat} (hd:d≠t) (u:Value):At (a.put (some d) u) t v:=by
 unfold At Act.put at *
 simp only
 rw [Array.getElem?_setIfInBounds_ne hd]
 exact h
theorem size_put (a:Act) (d:Nat) (u:Value):(a.put (some d) u).tmps.size=a.tmps.size:=by unfold Act.put; simp
def Open (ops:Array Oper) (a:Act):Option (Nat×Bool)→Prop
 | none=>True
 | some (j,b)=>∃t,((ops[j]?).bind (·.dst))=some t∧At a t (.bool b)
theorem Open.wanted {a:Act} {o:Oper} (h:Open ops a o.guard):Region.wanted o (yielded ops a.tmps)=true:=by
 unfold Region.wanted
 cases hg:o.guard with
 | none=>rfl
 | some p =>
  obtain ⟨j,b⟩:=p
  rw [hg] at h
  obtain ⟨t,ht,hat⟩:=h
  have:yielded ops a.tmps j=some b:=by
   unfold yielded
   rw [ht]
   unfold At at hat
   simp [hat]
  simp [this]
theorem cB {L:List Line} (hL:look ops=L) {k:Nat} {d:Option Tmp} {op:Op} {g:Option (Nat×Bool)} {m:Nat} (h:L[k]? = some (d,op,g,m)):∃o,ops[k]? = some o∧o.dst=d∧o.op=op∧o.guard=g:=by
 subst hL
 unfold look at h
 simp only [List.getElem?_map,Option.map_eq_some_iff,Array.getElem?_toList,line,Prod.mk.injEq] at h
 obtain ⟨o,ho,h1,h2,h3,_⟩:=h
 exact ⟨o,ho,h1,h2,h3⟩
theorem dO (ρ:Operand→Value) (o:Oper):execOp ρ o=execOp ρ ⟨o.dst,o.op,o.type, "",#[],none⟩:=by
 cases o; rfl
structure Next (a a':Act) (d:Nat) (v:Value):Prop where
 size:a'.tmps.size=a.tmps.size
 defers:a'.defers=a.defers
 got:At a' d v
 keep:∀t u,d≠t→At a t u→At a' t u
theorem Next.k {a a':Act} {d x:Nat} {v u:Value} (N:Next a a' d v) (f:At a x u) (h:d≠x:=by decide):At a' x u:=N.keep x _ h f
theorem next {a:Act} {d:Nat} (h:d<a.tmps.size) (v:Value):Next a (a.put (some d) v) d v:=⟨size_put a d v,rfl,Vh h v,fun _ _ hd h=>h.put hd v⟩
structure eT (ops:Array Oper) (L:List Line) (n:Nat):Prop where
 look:look ops=L
 size:ops.size=n
theorem eT.opened {L:List Line} {n:Nat} (R:eT ops L n) {a:Act} {j t m:Nat} {b:Bool} {op:Op} {g:Option (Nat×Bool)} (h:L[j]? = some (some t,op,g,m)) (hat:At a t (.bool b)):Open ops a (some (j,b)):=by
 obtain ⟨o,ho,h1,_,_⟩:=cB R.look h
 exact ⟨t,by rw [ho]; exact h1,hat⟩
theorem forced {L:List Line} {n k fuel:Nat} {a:Act} {w:World} (R:eT ops L n) (hr:ups k 0 L=[k]) (hk:k<n) (h:wpOp P ops Q k (fun a' w'=>S w'∧wpAnyH P .any ops Q S fuel (done n (k+1)) a' w') a w):wpAnyH P .any ops Q S (fuel+1) (done n k) a w:=by
 refine ⟨fun h0=> ?_,fun i hi=> ?_⟩
 ·have:=(j4 R.look R.size (Nat.le_of_lt hk)).2 (show k∈ups k 0 L by rw [hr]; simp)
  rw [h0] at this
  cases this
 ·obtain rfl:=ready_one R.look R.size (Nat.le_of_lt hk) hr i hi
  rw [GV hk]
  exact h
theorem value {L:List Line} {n k fuel d m:Nat} {op:Op} {g:Option (Nat×Bool)} {v:Value} {a:Act} {w w1:World} (R:eT ops L n) (hs:L[k]? = some (some d,op,g,m)) (hr:ups k 0 L=[k]) (hk:k<n)
  (hg:Open ops a g) (hS:S w1) (hv:∀ty,(execOp a.eval ⟨some d,op,ty, "",#[],none⟩).run P w=.ok (.value v) w1) (hd:d<a.tmps.size)
  (h:∀a',Next a a' d v→wpAnyH P .any ops Q S fuel (done n (k+1)) a' w1):wpAnyH P .any ops Q S (fuel+1) (done n k) a w:=by
 obtain ⟨o,ho,e1,e2,e3⟩:=cB R.look hs
 subst e2 e3
 refine forced R hr hk (wpOp_step ho fun K hK=> ?_)
 rw [if_pos hg.wanted]
 unfold Oper.wp
 rw [dO,e1,hv]
 simp only [Oper.upon,e1]
 exact hK _ _ ⟨hS,h _ (next hd v)⟩
theorem take {L:List Line} {n k fuel d m:Nat} {op:Op} {g:Option (Nat×Bool)} {v:Value} {a:Act} {w:World} (R:eT ops L n) (hs:L[k]? = some (some d,op,g,m)) (hr:(ups k 0 L).contains k=true) (hk:k<n)
  (hns:Region.noSelect ops=true) (hf:Region.free .any ops (done n k) k=true) (hQ:∀c a w d v,Q (.panic c) (Act.put a (some d) v) w→Q (.panic c) a w)
  (hg:Open ops a g) (hS:S w) (hv:∀w ty,S w→(execOp a.eval ⟨some d,op,ty, "",#[],none⟩).run P w=.ok (.value v) w) (hd:d<a.tmps.size)
  (h:∀a',Next a a' d v→wpAnyH P .any ops Q S fuel (done n (k+1)) a' w):wpAnyH P .any ops Q S (fuel+1) (done n k) a w:=by
 obtain ⟨o,ho,e1,e2,e3⟩:=cB R.look hs
 subst e2 e3
 have hr':(Region.ready .any ops (done n k)).contains k=true:=by
  have:=(j4 R.look R.size (Nat.le_of_lt hk)).2 (show k∈ups k 0 L by simpa using hr)
  simpa using this
 refine wpAnyH_take (oi:=o) (v:=v) ho hns hf hr' (fun c a w=>by rw [e1]; exact hQ c a w d v) (.inl ⟨hg.wanted,fun w hw=> ?_⟩) hS ?_
 ·rw [dO,e1]; exact hv w _ hw
 ·rw [GV hk,e1]; exact h _ (next hd v)
def enters (P:Program) (f:Nat):Bool:=(P.funcs[f]?).elim false fun fn=> !(fn.name == "runtime.NumGoroutine") && fn.body.isSome
theorem oK {f:Nat} (h:enters P f=true) (args:Array Value) (w:World):(callFunc f args).run P w=.ok (.enter f args) w:=by
 unfold enters at h
 cases hf:P.funcs[f]? with
 | none=>rw [hf] at h; cases h
 | some fn =>
  rw [hf] at h
  simp only [Option.elim_some,Bool.and_eq_true,Bool.not_eq_true'] at h
  obtain ⟨h0,h2⟩:=h
  have h1:fn.name≠ "runtime.NumGoroutine" := by simpa using h0
  obtain ⟨c,hb⟩:=Option.isSome_iff_exists.1 h2
  simp [callFunc,hf,h1,hb]
theorem call {L:List Line} {n k fuel d m f:Nat} {xs:Array Operand} {ts:Array TypeId} {args:Array Value} {g:Option (Nat×Bool)} {a:Act} {w:World} {Post:Ending→World→Prop} (R:eT ops L n)
  (hs:L[k]? = some (some d,.call { callee:=.value (.func f),args:=xs,argTypes:=ts },g,m)) (hr:ups k 0 L=[k]) (hk:k<n)
  (hg:Open ops a g) (ha:xs.map a.eval=args) (hf:enters P f=true) (hc:Calls P f args w Post) (hd:d<a.tmps.size)
  (h:∀e w',Post e w'→∃v,e=.returned v∧S w'∧∀a',Next a a' d v→wpAnyH P .any ops Q S fuel (done n (k+1)) a' w'):wpAnyH P .any ops Q S (fuel+1) (done n k) a w:=by
 obtain ⟨o,ho,e1,e2,e3⟩:=cB R.look hs
 subst e3
 refine forced R hr hk (wpOp_step ho fun K hK=> ?_)
 rw [if_pos hg.wanted]
 unfold Oper.wp
 have he:(execOp a.eval o).run P w=.ok (.enter f args) w:=by
  rw [dO,e1,e2]
  subst ha
  simp [execOp,resolve,invoke,Act.eval,Deferred.ofValue,oK hf]
 rw [he,Oper.upon_enter]
 refine hc.mono fun e w' hp=> ?_
 obtain ⟨v,rfl,hS,hw⟩:=h e w' hp
 rw [e1]
 exact hK _ _ ⟨hS,hw _ (next hd v)⟩
theorem finish {L:List Line} {n fuel:Nat} {a:Act} {w:World} (R:eT ops L n) (hr:ups n 0 L=[]) (h:Q .normal a w):wpAnyH P .any ops Q S fuel (done n n) a w:=by
 refine wpAnyH_done (List.eq_nil_iff_forall_not_mem.2 fun i hi=> ?_) h fuel
 have:=(j4 R.look R.size (Nat.le_refl n)).1 hi
 rw [hr] at this
 cases this
theorem start {L:List Line} {n id:Nat} {a:Act} {w:World} (R:eT ops L n) (hm:P.follows .mixedOrders=true) (hS:S w.drew) (h:wpAnyH P .any ops Q S n (done n 0) a w.drew):(Code.region id ops true).wp P Q a w:=by
 refine wp_region_held_drew (S:=S) hm hS fun _=> ?_
 rw [R.size,←Px]
 exact h
/-! What the operations yield. -/
variable {ρ:Operand→Value} {d:Option Tmp} {ty:TypeId} {w:World}
theorem j6 {x:Operand} {v:Value} (h:ρ x=v):(execOp ρ ⟨d,.move x,ty, "",#[],none⟩).run P w=.ok (.value v) w:=by simp [execOp,h]
theorem Py {x:Operand} {v:Value} (h:ρ x=v):(execOp ρ ⟨d,.assign x,ty, "",#[],none⟩).run P w=.ok (.value v) w:=by simp [execOp,h]
end
end Chain
