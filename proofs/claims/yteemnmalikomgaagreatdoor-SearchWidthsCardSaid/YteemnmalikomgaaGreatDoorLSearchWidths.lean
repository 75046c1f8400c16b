/-
  The statement SearchWidths: which hit is told does not hang on how wide lines are laid out. For every two texts (of which the statement takes the first thirty and the first sixty bytes) and every two numbers; it holds where the table of widths is as its initialiser lays it, which the card ties to the program's text.
-/
import Derived.Test.YteemnmalikomgaaGreatDoorQSwEvZ0
import Derived.Test.YteemnmalikomgaaGreatDoorQSwLine5
set_option maxRecDepth 100000
set_option maxHeartbeats 0
namespace Go.Proofs.YteemnmalikomgaaGreatDoor.searchWidths
open Go.ChangeShapes Go.WideShapes Go.ChangeAt Go.RowKit
open NF
theorem UC (f:Nat→Nat→Int) (o:Option (Nat×Nat)):∃(a b c:Int) (k:Bool),Cz f o=.tuple #[.agg #[.int .i64 a,.int .i64 b,.int .i64 c],.bool k]:=by
 cases o with
 | none=>exact ⟨0,0,0,false,rfl⟩
 | some x=>exact ⟨_,_,_,true,rfl⟩
theorem V9 (a b c:Int) (w:World):(binOp .eql 61 (.agg #[.int .i64 a,.int .i64 b,.int .i64 c]) (.agg #[.int .i64 a,.int .i64 b,.int .i64 c])).run Tryz.prog w=.ok (.bool true) w:=by
 have hw:=w
 go_simp
def kM (l:List Int):List au:=l.flatMap fun r=>(fC r 0).take 1
theorem UD {l:List Int} {i:Nat} {r:Int} (h:l[i]? = some r):kM (l.take (i+1))=kM (l.take i)++(fC r 0).take 1:=by
 obtain ⟨h3,h4⟩:=List.getElem?_eq_some_iff.1 h
 unfold kM
 rw [List.take_succ_eq_append_getElem h3,h4,List.flatMap_append]
 simp
theorem ug (r:Int):(eZ r=1∨eZ r=2)∧(∃c tl,fC r 0=c::tl∧c=(r,eZ r,0))∨fC r 0=[]:=by
 have hw:=wG r
 unfold fC
 rw [if_pos (show Me 0=true from rfl)]
 by_cases h1:eZ r=1
 ·rw [if_pos h1]; exact .inl ⟨.inl h1,_,_,rfl,by rw [h1]⟩
 ·rw [if_neg h1]
  by_cases h2:eZ r=2
  ·rw [if_pos h2]; exact .inl ⟨.inr h2,_,_,rfl,by rw [h2]⟩
  ·rw [if_neg h2]; exact .inr rfl
theorem Wd (l:List Int):(kM l).length≤l.length:=by
 induction l with
 | nil=>simp [kM]
 | cons r l ih =>
  unfold kM at ih ⊢
  rw [List.flatMap_cons,List.length_append,List.length_cons,List.length_take]
  omega
theorem UE (l:List Int):Ln.gK (kM l)=true:=by
 unfold Ln.gK
 rw [List.all_eq_true]
 intro c hc
 unfold kM at hc
 obtain ⟨r,_,hr⟩:=List.mem_flatMap.1 hc
 rcases ug r with ⟨hw,c',tl,e,e2⟩ | e
 ·rw [e] at hr
  simp at hr
  subst hr
  subst e2
  have h0:r≠0:=by
   intro h
   subst h
   rcases hw with h | h<;>(unfold eZ at h; simp at h)
  have h3:(r == 0)=false:=by simp [h0]
  unfold Ln.qF hasB jM iK
  rcases hw with h | h<;>simp [h,h3]
 ·rw [e] at hr
  simp at hr
theorem Rn {l:List Int} (h:∀r∈l,-2147483648≤r∧r≤2147483647):∀c∈kM l,-2147483648≤c.1∧c.1≤2147483647:=by
 intro c hc
 unfold kM at hc
 obtain ⟨r,h1,hr⟩:=List.mem_flatMap.1 hc
 rcases ug r with ⟨_,c',tl,e,e2⟩ | e
 ·rw [e] at hr
  simp at hr
  subst hr
  subst e2
  exact h r h1
 ·rw [e] at hr
  simp at hr
theorem Ro {W:World} {B:Nat} {v:Value} {vs:List Value} {ls:List (List au)} (h:Ln.mO W B v vs ls) (hs:∀l∈ls,l.length≤1000000):∃A c,v=.slice A ls.length c∧NF.zi W W.heap.size A ls:=by
 obtain ⟨A,c,rfl,_⟩:=Ln.fO h.own
 refine ⟨A,c,rfl,fun i l hl=> ?_,hs⟩
 have hi:=(List.getElem?_eq_some_iff.1 hl).1
 have hlen:=h.len
 obtain ⟨x,hx⟩:∃x,vs[i]? = some x:=⟨_,List.getElem?_eq_getElem (by omega)⟩
 obtain ⟨b,off,e,hb,hc⟩:=(Sq.own h.own).spot (by omega)
 have hh:W.ownsRow B 76 3 x l.length (flat l):=h.each i x l hx hl
 obtain ⟨A',c',rfl,hcc⟩:=Ln.fO hh
 exact ⟨b,off,A',c',e,hb,hc i _ hx,hcc,Sq.own hh⟩
theorem LZ (x:Int):∃(r:Int) (d:Nat),x.tmod 15=r∧IntKind.i64.wrap (r+15)=r+15∧(r+15).tmod 15=(d:Int)∧d<15∧IntKind.i64.wrap (2+(d:Int))=((d+2:Nat):Int):=by
 obtain ⟨r,d,h1,h2,h3,h4⟩:=mod_range x 15 (by omega) (by omega)
 exact ⟨r,d,h1,h2,h3,by omega,by rw [IntWalk.i64_in _ (by omega)]; omega⟩
theorem walk (re:ByteArray) (_:re.size≤9223372036854775807) (s0:ByteArray) (_:s0.size≤9223372036854775807) (x:Int) (_ : -9223372036854775808≤x∧x≤9223372036854775807) (y:Int) (_ : -9223372036854775808≤y∧y≤9223372036854775807) (w:World) (hs:dw w) :
  Calls Tryz.prog 10 #[.string re,.string s0,.int .i64 x,.int .i64 y] w fun e w'=>e=.returned (.bool true)∧Below w.heap.size w w':=by
 obtain ⟨rx,d1,x1,x2,x3,x4,x5⟩:=LZ x
 obtain ⟨ry,d2,y1,y2,y3,y4,y5⟩:=LZ y
 have S:=Lib.hid hs
 have PW:=Lib.hid (fun wx=>Pq re wx)
 have SH:=Lib.hid (fun wx=>zh s0 60 wx)
 obtain ⟨T,hT⟩:∃T,l7 s0 60=T:=⟨_,rfl⟩
 have hT60:T.size≤60:=by rw [←hT]; exact zf s0 60
 rw [hT] at SH
 clear hs hT
 go_enter Tryz.func10,Tryz.ntmps10
 go_wp2_with fail
 refine (Ev.kZ.at Ev.VT w S.out).mono ?_
 rintro e w1 ⟨rfl,b1⟩
 have B1:=Lib.hid b1
 clear b1
 go_wp2_with fail
 refine (PW.out w1).mono ?_
 rintro e w2 ⟨⟨k,A,nn,c,nt,A2,n2,c2,mn,mx⟩,P,ok,rfl,b2,hok,_⟩
 have B2:=Lib.hid (B1.out.trans (b2.mono B1.out.size))
 clear PW
 cases ok with
 | false =>
  clear hok b2
  try dsimp only [Nv.v]
  go_wp2_with fail
  go_ret
  exact ⟨rfl,B2.out.alloc B2.out.size _⟩
 | true =>
  obtain ⟨t,p,rfl,_,hp,_⟩:=hok rfl
  obtain ⟨w3,hw3,k3,b3,z3⟩:=dL w2 k A nn c nt A2 n2 c2 mn mx
  have G3:=Lib.hid ((hp.below b3).up b3.size)
  have B3:=Lib.hid (B2.out.trans (b3.mono B2.out.size))
  have HW3:=Lib.hid hw3
  clear hok b2 hp k3 b3 z3 hw3
  try dsimp only [Nv.v]
  go_upto_region 5 with fail
  first
   | rw [HW3.out]
   | (change Code.wp _ _ _ _ (w2.alloc (.cells #[.int .i64 k,.slice A nn c,.bool nt,.slice A2 n2 c2,.int .i64 mn,.int .i64 mx] 29)); rw [HW3.out])
  clear HW3
  go_wp2_with fail
  refine (SH.out w3).mono ?_
  rintro e w' ⟨rfl,rfl⟩
  have RW:=Lib.hid (Kn T (by omega) w3)
  have hln:=nE (aF T) st0
  rw [bB] at hln
  have RNG:=Lib.hid (show ∀r∈bW st0 (aF T),-2147483648≤r∧r≤2147483647 from fun r hr=>by
   rcases xD (aF T) (fun x hx=>(lX T x hx).1) r (by unfold lg; exact List.mem_append_left _ hr) with h | h
   ·unfold bL at h
    simp at h
    omega
   ·omega)
  unfold o7 at RW
  obtain ⟨l,hl⟩:∃l,bW st0 (aF T)=l:=⟨_,rfl⟩
  obtain ⟨qq,hqq⟩:∃q,(dF st0 (aF T)).waits=q:=⟨_,rfl⟩
  rw [hl,hqq] at RW
  rw [hl] at hln RNG
  clear hl hqq SH
  go_wp2_with fail
  refine RW.out.mono ?_
  rintro e w4 ⟨v,rfl,hh,b4⟩
  obtain ⟨A4,c4,rfl⟩:=hh.shape
  have SQ:=Lib.hid (hh.sq).2
  have B4:=Lib.hid (B3.out.trans (b4.mono B3.out.size))
  have G4:=Lib.hid ((G3.out.below b4).up b4.size)
  obtain ⟨n,hn⟩:∃n,l.length=n:=⟨_,rfl⟩
  have HN:=Lib.hid hn
  rw [hn] at SQ hln ⊢
  obtain ⟨i0,hi,hz0,hz1,hz2⟩:=info_parts uw
  clear hh b4 RW hn G3
  go_wp2_with fail
  go_loopw [15,16] (fun v u wr=>∃i:Nat,u=.int .i64 (i:Int)∧i≤n∧Hid (cZ wr w4.heap.size v (kM (l.take i)))∧Hid (Below w4.heap.size w4 wr)) (fun _ u _=>n - (intOf u).toNat)
  case atStart=>exact ⟨0,rfl,Nat.zero_le _,Lib.hid (World.ownsRow_nil _ _ _ _),Lib.hid (Below.refl _ _)⟩
  case round =>
   obtain ⟨i,rfl,hin,HC,BR⟩:=hrel
   have hi0:(0:Int)≤(i:Int):=by omega
   have hiw:IntKind.i64.wrap ((i:Int)+1)=(i:Int)+1:=IntWalk.i64_in _ (by omega)
   have hcl:(kM (l.take i)).length≤120:=by
    have:=Wd (l.take i)
    rw [List.length_take] at this
    omega
   by_cases hlt:i<n
   ·have h1:(i:Int)<(n:Int):=by omega
    obtain ⟨r,hr⟩:∃r,l[i]? = some r:=⟨_,List.getElem?_eq_getElem (by rw [HN.out]; exact hlt)⟩
    obtain ⟨b,off,rfl,_,hc0⟩:=(SQ.out.below BR.out).spot (by omega)
    have c0:wr.cell? ⟨b,off+i,none⟩=some (.int .i32 r):=hc0 i _ (by rw [List.getElem?_map,hr]; rfl)
    have hrr:=RNG.out r (List.mem_of_getElem? hr)
    have CW:=Lib.hid (FK r 0 hrr.1 hrr.2 (by omega) (by omega) wr)
    unfold OZ at CW
    have CN:=Lib.hid (UD hr)
    clear hc0 hr hrr
    go_wp2_with fail
    refine CW.out.mono ?_
    rintro e w5 ⟨v5,rfl,ho5,b5⟩
    obtain ⟨A5,c5,rfl,_⟩:=Ln.fO ho5
    have BR5:=Lib.hid (BR.out.trans (b5.mono BR.out.size))
    have O5:=Lib.hid (Ln.nA HC.out b5)
    rcases ug r with ⟨_,cc,tl,e1,e2⟩ | e1
    ·have Q5:=Lib.hid (Sq.own ho5)
     obtain ⟨m,hm⟩:∃m,(fC r 0).length=m+1:=⟨tl.length,by rw [e1]; rfl⟩
     have CN2:=Lib.hid (show kM (l.take (i+1))=kM (l.take i)++[cc] from by rw [CN.out,e1]; rfl)
     have FL:fC r 0=cc::tl:=e1
     rw [hm] at Q5 ⊢
     rw [FL] at Q5
     obtain ⟨b6,off6,rfl,_,cc',hcc',d0,d1',d2'⟩:=Q5.out.three (show 0<m+1 by omega)
     simp at hcc'
     subst hcc'
     rw [Nat.zero_mul,Nat.add_zero] at d0 d1' d2'
     have hm0:(0:Int)<(m:Int)+1:=by omega
     obtain ⟨p0,p1,p2⟩:=cc
     dsimp only at d0 d1' d2'
     obtain ⟨w6,hw6⟩:∃w6,w5.alloc (.cells #[.int .i32 p0,.int .i64 p1,.int .i64 p2] 76)=w6:=⟨_,rfl⟩
     have b6':Below w5.heap.size w5 w6:=by rw [←hw6]; exact (Below.refl _ _).alloc (Nat.le_refl _) _
     have sq:=Sj w5 #[.int .i32 p0,.int .i64 p1,.int .i64 p2] 76 3 1 rfl
     rw [hw6] at sq
     have SQ6:=Lib.hid sq
     have O6:=Lib.hid (Ln.nA O5.out b6')
     have BX:=Lib.hid (BR5.out.trans (b6'.mono BR5.out.size))
     have F1:=Lib.hid (show (kM (l.take i)).length+1≤maxLen∧((kM (l.take i)).length+1)*24≤140737488355328 from by unfold maxLen; omega)
     clear sq b6' e1 e2 FL hm Q5 ho5 b5 CW c0
     go_wp2_with (first | (at_builtin; refine sV rfl _ _ 68 rfl w4.heap.size 76 i0 (.agg #[.int .i32 0,.int .i64 0,.int .i64 0]) 3 24 Tryz.underlying68 hi hz0 hz1 hz2 rfl (by decide) _ (kM (l.take i)).length (flat (kM (l.take i))) rfl O6.out (some ⟨w5.heap.size,0,none⟩) 1 1 [.int .i32 p0,.int .i64 p1,.int .i64 p2] rfl w6.heap.size SQ6.out (uy [(p0,p1,p2)]) F1.out.1 F1.out.2 BX.out.size ?_; intro v7 w7 h3 h4 _; (have O7:=Lib.hid h3); (have G7:=Lib.hid h4); clear h3 h4))
     have B7:=Lib.hid (show Below w4.heap.size w4 w7 from BX.out.trans ((ak.jB G7.out).toBelow BX.out.size (fun k hk e=>by have:=(World.ownsRow.lt O6.out k e).1; omega)))
     have H7:=Lib.hid (show cZ w7 w4.heap.size v7 (kM (l.take (i+1))) from by
      unfold cZ
      rw [CN2.out,List.length_append,gL]
      exact O7.out)
     go_roundw
     case rel=>exact ⟨i+1,by first | rfl | (congr 1; done) | (congr 1; omega),by omega,H7,B7⟩
     case measure=>first | (simp [intOf]; done) | (simp [intOf]; omega)
    ·have CN2:=Lib.hid (show kM (l.take (i+1))=kM (l.take i) from by rw [CN.out,e1]; simp)
     rw [e1]
     simp only [List.length_nil]
     clear ho5 b5 CW c0 e1
     go_wp2_with fail
     go_roundw
     case rel=>exact ⟨i+1,by first | rfl | (congr 1; done) | (congr 1; omega),by omega,Lib.hid (by rw [CN2.out]; exact O5.out),BR5⟩
     case measure=>first | (simp [intOf]; done) | (simp [intOf]; omega)
   ·obtain rfl:i=n:=by omega
    have TA:l.take i=l:=List.take_of_length_le (by rw [HN.out]; exact Nat.le_refl _)
    obtain ⟨AC,cC,rfl,hcC⟩:=Ln.fO HC.out
    have HC2:=HC.out
    rw [TA] at HC2 hcl
    rw [TA]
    have LB:=Lib.hid (UE l)
    have LS:=Lib.hid (Rn RNG.out)
    obtain ⟨cs,hcs⟩:∃cs,kM l=cs:=⟨_,rfl⟩
    rw [hcs] at HC2 hcl LB LS ⊢
    have QC:=Lib.hid (Sq.own HC2)
    obtain ⟨m,hm⟩:∃m,cs.length=m:=⟨_,rfl⟩
    rw [hm] at QC hcl ⊢
    have SR:=Lib.hid (S.out.below (B4.out.trans (BR.out.mono B4.out.size)) S.out.size)
    have HM:=Lib.hid hm
    have BRR:=Lib.hid (B4.out.trans (BR.out.mono B4.out.size))
    have GR:=Lib.hid ((G4.out.below BR.out).up BR.out.size)
    have L1:=Lib.hid (show ∀W,Below wr.heap.size wr W→∀d:Nat,d<15→Calls Tryz.prog 40 #[.slice AC m cC,.int .i64 ((d+2:Nat):Int)] W fun e w'=>∃v rs,e=.returned v∧Ln.d9 w' W.heap.size v (d+2) rs∧rs.map Ln.lr=Ln.jm (d+2) cs∧Below W.heap.size W w' from fun W b d hd=>by
     refine (Ln.Ky AC m cC cs ((d+2:Nat):Int) W (SR.out.below b SR.out.size) LS.out ((QC.out.below b).up b.size) (by omega)).mono ?_
     rintro e w' ⟨h2,_,b2⟩
     obtain ⟨v,rs,h3,h4,h5⟩:=h2 ⟨by omega,by omega,LB.out⟩
     rw [Int.toNat_natCast] at h4 h5
     exact ⟨v,rs,h3,h4,h5,b2⟩)
    clear HC HC2 hcs hm hcC SQ RNG LS QC
    have TL:=Lib.hid (show ∀q∈[eX cs],q.length≤1000000 from fun q hq=>by
     rw [List.mem_singleton] at hq
     subst hq
     have h1:(eX cs).length≤cs.length:=by unfold eX; rw [List.length_take]; omega
     have:=HM.out
     omega)
    go_wp2_with fail
    refine (L1.out wr (Below.refl wr.heap.size wr) d1 x4).mono ?_
    rintro e w5 ⟨v5,rs5,rfl,sh5,hm5,b5⟩
    obtain ⟨A5,c5,rfl,hc5⟩:=sh5.own.shape
    have C5:=Lib.hid ((Below.refl wr.heap.size wr).trans (b5.mono (Below.refl wr.heap.size wr).size))
    have hl5:rs5.length≤1000000:=by
     have h1:=Ln.Jt (d1+2) cs
     rw [←hm5,List.length_map] at h1
     have:=HM.out
     omega
    have JW5:=Lib.hid (Ln.EW A5 rs5.length c5 rs5 w5 (SR.out.below C5.out SR.out.size) ((sh5.own.rws).2.up (Nat.le_refl _)) hc5 hl5)
    rw [hm5,Ln.Jp (by omega) (by omega) LB.out] at JW5
    unfold Ln.DF at JW5
    clear sh5 hm5 b5 hc5 hl5
    go_wp2_with fail
    refine JW5.out.mono ?_
    rintro e w6 ⟨v6,vs6,rfl,l6,b6⟩
    obtain ⟨A6,c6,rfl,lat6⟩:=Ro l6 TL.out
    have C6:=Lib.hid (C5.out.trans (b6.mono C5.out.size))
    have LT6:=Lib.hid lat6
    clear l6 lat6 b6 JW5
    simp only [List.length_cons,List.length_nil,Nat.zero_add]
    go_wp2_with fail
    refine (L1.out w6 C6.out d2 y4).mono ?_
    rintro e w7 ⟨v7,rs7,rfl,sh7,hm7,b7⟩
    obtain ⟨A7,c7,rfl,hc7⟩:=sh7.own.shape
    have C7:=Lib.hid (C6.out.trans (b7.mono C6.out.size))
    have C67:=Lib.hid b7
    have hl7:rs7.length≤1000000:=by
     have h1:=Ln.Jt (d2+2) cs
     rw [←hm7,List.length_map] at h1
     have:=HM.out
     omega
    have JW7:=Lib.hid (Ln.EW A7 rs7.length c7 rs7 w7 (SR.out.below C7.out SR.out.size) ((sh7.own.rws).2.up (Nat.le_refl _)) hc7 hl7)
    rw [hm7,Ln.Jp (by omega) (by omega) LB.out] at JW7
    unfold Ln.DF at JW7
    clear sh7 hm7 b7 hc7 hl7
    go_wp2_with fail
    refine JW7.out.mono ?_
    rintro e w8 ⟨v8,vs8,rfl,l8,b8⟩
    obtain ⟨A8,c8,rfl,lat8⟩:=Ro l8 TL.out
    have C8:=Lib.hid (C7.out.trans (b8.mono C7.out.size))
    have C78:=Lib.hid (C67.out.trans (b8.mono C67.out.size))
    have LT8:=Lib.hid lat8
    clear l8 lat8 b8 JW7
    simp only [List.length_cons,List.length_nil,Nat.zero_add]
    obtain ⟨ua,ub,uc,uk,hu⟩:=UC (mP t [eX cs]) (GU t [eX cs] 0 0)
    have N1:=Lib.hid (show ∀W (A:Option Addr) (c:Nat),Below wr.heap.size wr W→zi W W.heap.size A [eX cs]→Calls Tryz.prog 32 #[.slice A 1 c,.pointer (some ⟨p,0,none⟩),.agg #[.int .i64 0,.int .i64 0,.int .i64 0]] W fun e w'=>e=.returned (.tuple #[.agg #[.int .i64 ua,.int .i64 ub,.int .i64 uc],.bool uk])∧Below W.heap.size W w' from fun W A c b h=>by
     rw [←hu]
     exact CF t p A 1 c [eX cs] 0 0 0 W ((GR.out.below b).up b.size) rfl (by omega) h)
    have EH:=fun w=>V9 ua ub uc w
    clear hu L1
    go_wp2_with fail
    refine (N1.out w8 A6 c6 C8.out ((LT6.out.below C78.out).up C78.out.size)).mono ?_
    rintro e w9 ⟨rfl,b9⟩
    obtain ⟨w10,hw10,k10,b10,z10⟩:=nO w9 61 ua ub uc
    obtain ⟨g20,hg20⟩:∃g,w9.heap.size=g:=⟨_,rfl⟩
    rw [hg20] at k10
    have b810:=b9.trans (b10.mono b9.size)
    have C10:=Lib.hid (C8.out.trans (b810.mono C8.out.size))
    have LT10:=Lib.hid ((LT8.out.below b810).up b810.size)
    have K10:=Lib.hid k10
    have HW10:=Lib.hid hw10
    have HG20:=Lib.hid hg20
    clear b9 k10 b10 z10 hw10 hg20 b810 LT6 LT8
    go_upto_region 18 with fail
    rw [HG20.out]
    first
     | rw [HW10.out]
     | (change Code.wp _ _ _ _ (w9.alloc (.cells #[.int .i64 ua,.int .i64 ub,.int .i64 uc] 61)); rw [HW10.out])
    go_wp2_with fail
    refine (N1.out w10 A8 c8 C10.out LT10.out).mono ?_
    rintro e w11 ⟨rfl,b11⟩
    obtain ⟨w12,hw12,k12,b12,z12⟩:=nO w11 61 ua ub uc
    obtain ⟨g22,hg22⟩:∃g,w11.heap.size=g:=⟨_,rfl⟩
    rw [hg22] at k12
    have b1012:=b11.trans (b12.mono b11.size)
    obtain ⟨s0,s1,s2⟩:=bU.get (K10.out.below b1012 K10.out.lt)
    obtain ⟨s3,s4,s5⟩:=bU.get k12
    have BF:=Lib.hid (BRR.out.trans ((C10.out.trans (b1012.mono C10.out.size)).mono BRR.out.size))
    have HW12:=Lib.hid hw12
    have HG22:=Lib.hid hg22
    clear b11 k12 b12 z12 hw12 hg22 b1012 N1
    go_upto_region 19 with fail
    rw [HG22.out]
    first
     | rw [HW12.out]
     | (change Code.wp _ _ _ _ (w11.alloc (.cells #[.int .i64 ua,.int .i64 ub,.int .i64 uc] 61)); rw [HW12.out])
    go_wp2_with fail
    go_ret
    exact ⟨rfl,BF.out⟩
theorem contract (H:Type) (enc:TypeId×Value→H) (W:World) (base:Nat) (args:Array Value) (ds gs:List (DataW H)) (before:List MemPlace)
  (hval:∀(j:Nat) t v,Tryz.f10.params[j]? = some t→args[j]? = some v→Value.okWide Tryz.prog W .any base t v)
  (hW:DataW.Whole enc Tryz.prog Tryz.f10.params.toList Rows.searchWidthsSpec.vars false W args.toList ds gs before) (hL:laidMetH Tryz.prog Rows.searchWidthsRow.laid W) :
  Calls Tryz.prog 10 args W fun e W'=>∃v,e=.returned v∧Rows.searchWidthsSpec.post enc Tryz.prog Tryz.f10 false true false false W args v W':=by
 have hW':=hW
 obtain ⟨p,q,hA0,hV,rfl,hfz,hnd⟩:=hW
 have hA:DataW.TrodAll enc Tryz.prog W 0 (fun _=>true) true Tryz.f10.params.toList args.toList ds p:=hA0
 rw [Tryz.params10] at hA hval
 obtain ⟨v0,vs0,d0,ds0,p0,q0,hargs,rfl,rfl,h0,r0⟩:=trodAll_cons hA
 obtain ⟨v1,vs1,d1,ds1,p1,q1,rfl,rfl,rfl,h1,r1⟩:=trodAll_cons r0
 obtain ⟨v2,vs2,d2,ds2,p2,q2,rfl,rfl,rfl,h2,r2⟩:=trodAll_cons r1
 obtain ⟨v3,vs3,d3,ds3,p3,q3,rfl,rfl,rfl,h3,r3⟩:=trodAll_cons r2
 obtain ⟨rfl,rfl,rfl⟩:=trodAll_nil r3
 obtain rfl:args = #[v0,v1,v2,v3]:=by cases args; simp_all
 obtain ⟨rfl,rfl⟩:=trodVars_none hV
 obtain ⟨x,rfl,rfl,rfl,wx⟩:=Go.ChangeMaps.open_string Tryz.underlying9 (hval 0 9 v0 rfl rfl) h0
 obtain ⟨y,rfl,rfl,rfl,wy⟩:=Go.ChangeMaps.open_string Tryz.underlying9 (hval 1 9 v1 rfl rfl) h1
 obtain ⟨z,rfl,rfl,rfl,wz⟩:=open_int Tryz.underlying3 (hval 2 3 v2 rfl rfl) h2
 obtain ⟨u,rfl,rfl,rfl,wu⟩:=open_int Tryz.underlying3 (hval 3 3 v3 rfl rfl) h3
 clear hA0
 refine (walk x wx y wy z (wf_i64 wz) u (wf_i64 wu) W (Rq hL) ).mono fun e W' ⟨he,hg⟩=> ?_
 subst he
 exact ⟨_,rfl,close rfl hW' ⟨rfl,rfl,rfl⟩ (by kernel_rfl) (by kernel_rfl) hg⟩
theorem UF (os:Os):laidMet Tryz.prog Rows.searchWidthsRow.laid ((wK os).forCall (fun _ _=>0) ⟨#[],#[.string .empty,.string .empty,.int .i64 0,.int .i64 0],[]⟩).memory :=
 laidMet_of_run' 8 (by kernel_rfl) (by kernel_rfl)
theorem reads (os:Os) {H:Type} (enc:TypeId×Value→H):∃places,DataW.whole enc Tryz.prog ((wK os).forCall (fun _ _=>0) ⟨#[],#[.string .empty,.string .empty,.int .i64 0,.int .i64 0],[]⟩).memory Tryz.f10.params.toList Rows.searchWidthsSpec.vars false (#[.string .empty,.string .empty,.int .i64 0,.int .i64 0]:Array Value).toList 8=some ([.lit (.string []),.lit (.string []),.lit (.int .i64 0),.lit (.int .i64 0)],[],places) :=
 ⟨[],by kernel_rfl⟩
theorem lifted (os:Os) (started:os.Started) (H:Type) (enc:TypeId×Value→H) (F:Stop.Interp) :
  ReturnsInHanded {} Tryz.checked os 10 .any ((OpenSpec.ofChange Rows.searchWidthsSpec).preRow enc Tryz.prog Tryz.f10 Rows.searchWidthsRow.domain false Rows.searchWidthsRow.laid) (((OpenSpec.ofChange Rows.searchWidthsSpec).at F).post enc Tryz.prog Tryz.f10 false true false false):=by
 obtain ⟨places,hx⟩:=reads os enc
 refine returnsInHanded_of_row (C:=Tryz.checked) (s:=OpenSpec.ofChange Rows.searchWidthsSpec) U9 started (by kernel_rfl) Tryz.func10
  (witness_row_at (enc:=enc) (C:=Tryz.checked) false (wK os) #[.string .empty,.string .empty,.int .i64 0,.int .i64 0] rfl (by kernel_rfl) (by kernel_rfl) (by kernel_rfl)
   (OpenSpec.preRow_of_cond 8 hx (by kernel_rfl) (fun k hk=>by cases hk) (by kernel_rfl) (UF os))) ?_
 intro W base args ds gs before hval hW _ _ _ hL _ _
 exact contract H enc W base args ds gs before hval hW hL
theorem facts:joinedFacts Tryz.checked.prog 10 Tryz.f10 (OpenSpec.ofChange Rows.searchWidthsSpec).bare Rows.searchWidthsRow=true:=by
 have h1:=Sum.tables.1
 have h2:=Sum.tables.2.1
 have h3:=Sum.tables.2.2
 have h4:=Sum.mayEnter
 have e1:Rows.searchWidthsRow.lifted=Rows.findAllRow.lifted:=by kernel_rfl
 have e2:Rows.searchWidthsRow.make=Rows.findAllRow.make:=by kernel_rfl
 have h5:(Rows.searchWidthsRow.lifted == Tryz.checked.prog.liftsFinal)=true:=by rw [e1]; exact Sum.lifts
 have h6:(Tryz.checked.prog.make == some Rows.searchWidthsRow.make)=true:=by rw [e2]; exact Sum.make
 unfold joinedFacts
 repeat' (with_reducible refine Sum.Wi ?_ ?_)
 all_goals first
  | with_reducible exact h1
  | with_reducible exact h2
  | with_reducible exact h4
  | with_reducible exact h5
  | with_reducible exact h6
  | (rw [h3]; as_aux_lemma=>kernel_rfl)
  | (clear h1 h2 h3 h4 h5 h6 e1 e2; as_aux_lemma=>kernel_rfl)
theorem said:Rows.SearchWidthsSaid :=
 OpenClaim.holds_of_cond 10 Tryz.f10 rfl rfl rfl rfl rfl rfl rfl ⟨rfl,rfl,rfl,rfl,rfl⟩ rfl rfl rfl rfl rfl (by kernel_rfl) Tryz.func10 facts
  (of_decide_eq_true (by kernel_rfl)) (by unfold Func.isWrapper; first | (rw [if_pos (by decide +kernel)]; kernel_rfl) | (rw [if_neg (by decide +kernel)]; exact ⟨rfl,rfl⟩))
  (fun os started H enc _ F=>by rw [OpenClaim.pre_eq_preRow]; exact lifted os started H enc F)
theorem plain (f:FuncId) (fn:Func) (hf:Tryz.pinned.checked.prog.funcNamed "rotulus/rotuluslaw16.SearchWidths" = some f) (hfn:Tryz.pinned.checked.prog.funcs[f]? = some fn) :
  false=Tryz.pinned.checked.prog.looks []∧∀(j:Nat) t,fn.params[j]? = some t→Tryz.pinned.checked.prog.wantsStandIn t=false:=by
 obtain rfl:f=10:=Option.some.inj ((show Tryz.prog.funcNamed "rotulus/rotuluslaw16.SearchWidths" = some 10 by kernel_rfl).symm.trans hf) |>.symm
 obtain rfl:fn=Tryz.f10:=(Option.some.inj (Tryz.func10.symm.trans hfn)).symm
 refine ⟨by kernel_rfl,fun j t ht=> ?_⟩
 rw [Tryz.params10] at ht
 have hm:=Array.mem_of_getElem? ht
 simp at hm
 rcases hm with rfl | rfl
 ·exact (show Tryz.prog.wantsStandIn 9=false by kernel_rfl)
 ·exact (show Tryz.prog.wantsStandIn 3=false by kernel_rfl)
theorem card:Rows.SearchWidthsCardSaid :=
 Claim7.holds_tied_plain_at .later [] _ _ _ _ said (fun _ h=>by cases h) (by kernel_rfl) (fun _ h=>by cases h) searchWidths_row_tie rfl ⟨rfl,rfl⟩ (by kernel_rfl) rfl plain (by kernel_rfl)
end Go.Proofs.YteemnmalikomgaaGreatDoor.searchWidths
