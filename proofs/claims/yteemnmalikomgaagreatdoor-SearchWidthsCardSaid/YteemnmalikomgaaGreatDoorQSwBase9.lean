import Derived.Test.YteemnmalikomgaaGreatDoorQSwBase8
import Derived.Shelf.SlSortCmp.NoneTotal
set_option maxRecDepth 100000
set_option maxHeartbeats 3200000
namespace Go.Proofs.YteemnmalikomgaaGreatDoor
open Go.ChangeShapes Go.WideShapes Go.ChangeAt Go.RowKit
namespace NF
def l9 (s:ByteArray):Option Nd:=if 60<s.size then .none else if (65533:Int)∈lg (aF s) then .none else sP (lg (aF s))
theorem Tg (l:List Int):(lg l).length≤2*l.length+1:=by
  unfold lg
  rw [List.length_append]
  have h1:=nE l st0
  have h2:(brk (dF st0 l)).length≤1:=by unfold brk; split<;>simp
  omega
def pR (o:Option Nd) (w:World) (e:Ending) (w':World):Prop :=
  match o with
  | .none=>e=.returned (.tuple #[zeroV.v,.int .i64 5])∧Below w.heap.size w w'
  | .some t=>∃x:Nv,e=.returned (.tuple #[x.v,.int .i64 0])∧gq w' (fun b=>w.heap.size≤b) t x∧Below w.heap.size w w'
theorem GJ {s:ByteArray} {t:Nd} (h:l9 s=.some t):may t=true∧deep t≤s.size∧count t≤2*s.size∧s.size≤60∧(∀r∈lg (aF s),bL r=true)∧sP (lg (aF s))=.some t:=by
  unfold l9 at h
  split at h
  · cases h
  · split at h
    · cases h
    · have h1:=Te (aF s) (fun x hx=>(lX s x hx).1) ‹_›
      obtain ⟨h2,h3,h4,_⟩:=JV h h1
      have h5:=Qk (aF s)
      rw [bB] at h5
      exact ⟨h2,by omega,by omega,by omega,h1,h⟩
theorem Nn (A:Option Addr) (n c:Nat) (l:List Int) (v:Int) (w:World) (hq:Sq w w.heap.size 1 n A (bI l)) (hn:n≤1000000) :
    Calls Tryz.prog 88 #[.slice A n c,.int .i32 v] w fun e w'=>∃k:Int,e=.returned (.int .i64 k)∧(0≤k↔v∈l)∧w'=w:=by
  have hl:l.length=n:=by have:=hq.len; simpa [bI] using this
  have HQ:=Lib.hid hq
  have HL:=Lib.hid hl
  clear hq hl
  go_enter Tryz.func88,Tryz.ntmps88
  go_wp2_with fail
  go_loopw [8] (fun y wr=>∃i:Nat,y=.int .i64 (i:Int)∧i≤n∧Hid (∀j,j<i→l[j]?≠some v)∧wr=w) (fun y _=>n - (intOf y).toNat)
  case atStart=>exact ⟨0,rfl,Nat.zero_le _,Lib.hid (fun j hj=>absurd hj (Nat.not_lt_zero _)),rfl⟩
  case round =>
    obtain ⟨i,rfl,hi,NO,rfl⟩:=hrel
    by_cases hlt:i<n
    · obtain ⟨x,hx⟩:∃x,l[i]? = some x:=⟨_,List.getElem?_eq_getElem (by rw [HL.out]; exact hlt)⟩
      obtain ⟨b,off,rfl,_,hc⟩:=HQ.out.spot (by omega)
      have cx:wr.cell? ⟨b,off+i,none⟩=some (.int .i32 x):=hc i _ (by unfold bI; rw [List.getElem?_map,hx]; rfl)
      have h1:(i:Int)<(n:Int):=by omega
      have h0:(0:Int)≤(i:Int):=by omega
      have hw:IntKind.i64.wrap ((i:Int)+1)=(i:Int)+1:=IntWalk.i64_in _ (by omega)
      have HX:=Lib.hid hx
      clear hc hx
      by_cases he:v=x
      · subst he
        go_wp2_with fail
        go_ret
        exact ⟨_,rfl,⟨fun _=>List.mem_of_getElem? HX.out,fun _=>by omega⟩,rfl⟩
      · have hb:(v == x)=false:=by simp [he]
        have NX:=Lib.hid (show ∀j,j<i+1→l[j]?≠some v from fun j hj=>by
          by_cases hj2:j=i
          · rw [hj2,HX.out]; intro h; injection h with h; exact he h.symm
          · exact NO.out j (by omega))
        go_wp2_with fail
        go_roundw
        case rel=>exact ⟨i+1,by first | rfl | (congr 1; done) | (congr 1; omega),by omega,NX,by trivial⟩
        case measure=>first | (simp [intOf]; done) | (simp [intOf]; omega)
    · obtain rfl:i=n:=by omega
      go_wp2_with fail
      go_ret
      refine ⟨_,rfl,⟨fun h=>absurd h (by decide),fun h=> ?_⟩,rfl⟩
      obtain ⟨j,hj⟩:=List.mem_iff_getElem?.1 h
      exact absurd hj (NO.out j (by have:=(List.getElem?_eq_some_iff.1 hj).1; rw [HL.out] at this; exact this))
theorem Fy (A:Option Addr) (n c:Nat) (l:List Int) (v:Int) (w:World) (hq:Sq w w.heap.size 1 n A (bI l)) (hn:n≤1000000) :
    Calls Tryz.prog 50 #[.slice A n c,.int .i32 v] w fun e w'=>e=.returned (.bool (decide (v∈l)))∧w'=w:=by
  have IW:=Lib.hid (Nn A n c l v w hq hn)
  clear hq hn
  go_enter Tryz.func50,Tryz.ntmps50
  go_wp2_with fail
  refine IW.out.mono ?_
  rintro e w' ⟨k,rfl,hk,rfl⟩
  have HK:=Lib.hid hk
  clear hk
  go_wp2_with fail
  go_ret
  exact ⟨aC (by by_cases h:v∈l
                · have:=HK.out.2 h; simp [h,this]
                · have:¬0≤k:=fun x=>h (HK.out.1 x); simp [h]; omega),rfl⟩
theorem Mv (s:ByteArray) (hs:s.size≤274877906944) (w:World):Calls Tryz.prog 14 #[.string s] w fun e w'=>pR (l9 s) w e w':=by
  obtain ⟨w1,hw1,k1,b1,z1⟩:=dL w 0 none 0 0 false none 0 0 0 0
  have K1:=Lib.hid k1
  have B1:=Lib.hid b1
  have Z1:=Lib.hid z1
  clear k1 b1 z1
  unfold l9
  by_cases hlen:60<s.size
  · rw [if_pos hlen]
    have hle:(60:Int)<(s.size:Int):=by omega
    have M:=Lib.hid (show pR .none w (.returned (.tuple #[zeroV.v,.int .i64 5])) (aA w1 w.heap.size 0 ⟨0,none,0,0,false,none,0,0,0,0⟩) from ⟨rfl,B1.out.trans ((dK w1 w.heap.size 0 _).toBelow B1.out.size fun k hk e=>by omega)⟩)
    obtain ⟨⟨m0,o0⟩,⟨m1,o1⟩,⟨m2,o2⟩,⟨m3,o3⟩,⟨m4,o4⟩,⟨m5,o5⟩,f0,f1,f2,f3,f4,f5⟩:=bE (o:=0) K1.out (by simp)
    go_enter Tryz.func14,Tryz.ntmps14
    go_wp2_with fail
    have PN:=aQ K1.out ⟨0,none,0,0,false,none,0,0,0,0⟩
    change bodyPost _ _ _ _ _ (aA w1 w.heap.size 0 ⟨0,none,0,0,false,none,0,0,0,0⟩)
    generalize aA w1 w.heap.size 0 ⟨0,none,0,0,false,none,0,0,0,0⟩=W at PN M ⊢
    obtain ⟨p0,p1,p2,p3,p4,p5⟩:=aB PN
    refine bodyPost_ret (v:=.tuple #[zeroV.v,.int .i64 5]) (by simp [results,Tryz.results14,go_sem,p0,p1,p2,p3,p4,p5]<;>rfl) rfl ?_
    exact M.out
  · rw [if_neg hlen]
    have hle:¬(60:Int)<(s.size:Int):=by omega
    have AW:=Lib.hid (RH s hs w1)
    have hll:=Tg (aF s)
    rw [bB] at hll
    obtain ⟨l,hl⟩:∃l,lg (aF s)=l:=⟨_,rfl⟩
    rw [hl] at AW hll ⊢
    have HL:=Lib.hid hl
    have HLL:=Lib.hid (show l.length≤1000000 by omega)
    have RU:=Lib.hid (show Runes l from fun r hr=>by
      rcases xD (aF s) (fun x hx=>(lX s x hx).1) r (by rw [hl]; exact hr) with h | h
      · unfold bL at h
        simp at h
        omega
      · omega)
    clear hl hll hlen
    obtain ⟨O,hO⟩:∃O,(if (65533:Int)∈l then .none else sP l)=O:=⟨_,rfl⟩
    rw [hO]
    have HO:=Lib.hid hO
    clear hO
    go_enter Tryz.func14,Tryz.ntmps14
    go_wp2_with fail
    refine AW.out.mono ?_
    rintro e w2 ⟨v,rfl,hh,b2⟩
    obtain ⟨A,c,rfl⟩:=hh.shape
    have hsq:Sq w2 w2.heap.size 1 l.length A (bI l):=(hh.sq).2
    have hnc:l.length≤c:=by
      rcases hh.2 with ⟨h1,h2⟩ | ⟨g,cap,cur,h1,_,_,h3,_⟩
      · rw [h2]; exact Nat.zero_le _
      · injection h1 with _ _ h1; omega
    have K2:=Lib.hid (K1.out.below b2 (by have:=Z1.out; omega))
    have B2:=Lib.hid (B1.out.trans (b2.mono (by have:=Z1.out; omega)))
    have CW:=Lib.hid (Fy A l.length c l 65533 w2 hsq HLL.out)
    have SQ:=Lib.hid hsq
    have HNC:=Lib.hid hnc
    obtain ⟨n,hn⟩:∃n,l.length=n:=⟨_,rfl⟩
    have HN:=Lib.hid hn
    rw [hn] at CW SQ HNC ⊢
    clear hh b2 hsq hnc AW hn
    by_cases hbad:(65533:Int)∈l
    · have OE:=Lib.hid (show Option.none=O from by rw [←HO.out,if_pos hbad])
      rw [decide_eq_true hbad] at CW
      clear hbad
      go_wp2_with fail
      refine CW.out.mono ?_
      rintro e w' ⟨rfl,rfl⟩
      have M:=Lib.hid (show pR .none w (.returned (.tuple #[zeroV.v,.int .i64 5])) (aA w' w.heap.size 0 ⟨0,none,0,0,false,none,0,0,0,0⟩) from ⟨rfl,B2.out.trans ((dK w' w.heap.size 0 _).toBelow B2.out.size fun k hk e=>by omega)⟩)
      obtain ⟨⟨m0,o0⟩,⟨m1,o1⟩,⟨m2,o2⟩,⟨m3,o3⟩,⟨m4,o4⟩,⟨m5,o5⟩,f0,f1,f2,f3,f4,f5⟩:=bE (o:=0) K2.out (by simp)
      go_wp2_with fail
      have PN:=aQ K2.out ⟨0,none,0,0,false,none,0,0,0,0⟩
      change bodyPost _ _ _ _ _ (aA w' w.heap.size 0 ⟨0,none,0,0,false,none,0,0,0,0⟩)
      generalize aA w' w.heap.size 0 ⟨0,none,0,0,false,none,0,0,0,0⟩=W at PN M ⊢
      obtain ⟨p0,p1,p2,p3,p4,p5⟩:=aB PN
      refine bodyPost_ret (v:=.tuple #[zeroV.v,.int .i64 5]) (by simp [results,Tryz.results14,go_sem,p0,p1,p2,p3,p4,p5]<;>rfl) rfl ?_
      rw [←OE.out]; exact M.out
    · have OE:=Lib.hid (show sP l=O from by rw [←HO.out,if_neg hbad])
      rw [decide_eq_false hbad] at CW
      clear hbad
      obtain ⟨p,hp⟩:∃p,w2.heap.size=p:=⟨_,rfl⟩
      obtain ⟨w3,hw3⟩:∃w3,w2.alloc (.cells #[.slice A n c,.bool false] 92)=w3:=⟨_,rfl⟩
      have b3:Below w2.heap.size w2 w3:=by rw [←hw3]; exact (Below.refl _ _).alloc (Nat.le_refl _) _
      have r3:aT w3 p ⟨l,false⟩:=by
        refine ⟨⟨A,n,c,?_,?_,HNC.out,?_⟩,RU.out⟩
        · rw [←hw3,←hp]; exact heap_alloc_new w2 _
        · rw [←hp]; exact SQ.out.below b3
        · rw [←HN.out]; exact HLL.out
      have K3:=Lib.hid (K2.out.below b3 (by have:=K2.out.lt; omega))
      have B3:=Lib.hid (B2.out.trans (b3.mono B2.out.size))
      have R3:=Lib.hid r3
      have HP:=Lib.hid hp
      have HW3:=Lib.hid hw3
      have PW:=Lib.hid (show w.heap.size<p from by rw [←hp]; exact K2.out.lt)
      have P3:=Lib.hid (show p<w3.heap.size from r3.lt)
      have AL:=Lib.hid (Ia (nP (l.length+1)) (H9 (nP (l.length+1)) (AZ (Qh p (l.length+1)))) ⟨l,false⟩ w3 r3 (Nat.lt_succ_self _))
      obtain ⟨t,ht⟩:∃t,(mh (jN (l.length+1)) ⟨l,false⟩).1=t:=⟨_,rfl⟩
      obtain ⟨r',hr'⟩:∃r',(mh (jN (l.length+1)) ⟨l,false⟩).2=r':=⟨_,rfl⟩
      have OE2:=Lib.hid (show (if r'.broken || !r'.left.isEmpty then Option.none else Option.some t)=O from by
        rw [←OE.out,←ht,←hr']; rfl)
      rw [ht,hr'] at AL
      clear b3 r3 hp hw3 ht hr' OE
      go_wp2_with fail
      refine CW.out.mono ?_
      rintro e w' ⟨rfl,rfl⟩
      clear CW
      go_wp2_with fail
      rw [HP.out]
      first
        | rw [HW3.out]
        | (change Code.wp _ _ _ _ (w'.alloc (.cells #[.slice A n c,.bool false] 92)); rw [HW3.out])
      go_wp2_with fail
      refine AL.out.mono ?_
      intro e w4 hn
      obtain ⟨x,rfl,hx,h4,t4⟩:=hn.out
      obtain ⟨k',A',n',c',nt',A2',n2',c2',mn',mx'⟩:=x
      have K4:=Lib.hid (show aR w4 w.heap.size ⟨0,none,0,0,false,none,0,0,0,0⟩ from t4.bk K3.out (by have:=PW.out; omega))
      have B4:=Lib.hid (B3.out.trans (t4.toBelow B3.out.size (fun k hk e=>by have:=PW.out; omega)))
      obtain ⟨nb,hnb⟩:∃b,w4.heap.size=b:=⟨_,rfl⟩
      obtain ⟨w5,hw5,k5,b5,z5⟩:=dL w4 k' A' n' c' nt' A2' n2' c2' mn' mx'
      have K5:=Lib.hid (K4.out.below b5 K4.out.lt)
      have B5:=Lib.hid (B4.out.trans (b5.mono B4.out.size))
      have KX:=Lib.hid (hnb ▸ k5:aR w5 nb ⟨k',A',n',c',nt',A2',n2',c2',mn',mx'⟩)
      have r5:=h4.turned (ak.aH b5 fun _=>False) (fun _ _ x=>x)
      have HX:=Lib.hid (nN hx b5)
      have HW5:=Lib.hid hw5
      have HNB:=Lib.hid hnb
      obtain ⟨Ar,nr,cr,g1,g2,_,_⟩:=r5.ex
      have hnr:r'.left.length=nr:=by have:=g2.len; simpa [bI] using this
      have c1:w5.cell? ⟨p,1,none⟩=some (.bool r'.broken):=g1.get 1
      have c0:w5.cell? ⟨p,0,none⟩=some (.slice Ar nr cr):=g1.get 0
      have HNR:=Lib.hid hnr
      have W3:=Lib.hid (show w.heap.size<w3.heap.size from by have:=P3.out; have:=PW.out; omega)
      try dsimp only [Nv.v]
      clear hn hx h4 t4 AL hw5 hnb k5 b5 z5 r5 g1 g2 hnr
      go_upto_region 8 with fail
      rw [HNB.out]
      first
        | rw [HW5.out]
        | (change Code.wp _ _ _ _ (w4.alloc (.cells #[.int .i64 k',.slice A' n' c',.bool nt',.slice A2' n2' c2',.int .i64 mn',.int .i64 mx'] 29)); rw [HW5.out])
      cases hbr:r'.broken with
      | true =>
        rw [hbr] at c1
        have OE:=Lib.hid (show Option.none=O from by rw [←OE2.out,hbr]; rfl)
        clear hbr
        have M:=Lib.hid (show pR .none w (.returned (.tuple #[zeroV.v,.int .i64 5])) (aA w5 w.heap.size 0 ⟨0,none,0,0,false,none,0,0,0,0⟩) from ⟨rfl,B5.out.trans ((dK w5 w.heap.size 0 _).toBelow B5.out.size fun k hk e=>by omega)⟩)
        obtain ⟨⟨m0,o0⟩,⟨m1,o1⟩,⟨m2,o2⟩,⟨m3,o3⟩,⟨m4,o4⟩,⟨m5,o5⟩,f0,f1,f2,f3,f4,f5⟩:=bE (o:=0) K5.out (by simp)
        go_wp2_with fail
        have PN:=aQ K5.out ⟨0,none,0,0,false,none,0,0,0,0⟩
        change bodyPost _ _ _ _ _ (aA w5 w.heap.size 0 ⟨0,none,0,0,false,none,0,0,0,0⟩)
        generalize aA w5 w.heap.size 0 ⟨0,none,0,0,false,none,0,0,0,0⟩=W at PN M ⊢
        obtain ⟨p0,p1,p2,p3,p4,p5⟩:=aB PN
        refine bodyPost_ret (v:=.tuple #[zeroV.v,.int .i64 5]) (by simp [results,Tryz.results14,go_sem,p0,p1,p2,p3,p4,p5]<;>rfl) rfl ?_
        rw [←OE.out]; exact M.out
      | false =>
        rw [hbr] at c1
        by_cases hz:nr=0
        · subst hz
          have OE:=Lib.hid (show Option.some t=O from by
            have h:=OE2.out
            rw [hbr,List.eq_nil_of_length_eq_zero HNR.out] at h
            exact h)
          clear hbr
          obtain ⟨y0,y1,y2,y3,y4,y5⟩:=aB KX.out
          have M:=Lib.hid (show pR (.some t) w (.returned (.tuple #[Nv.v ⟨k',A',n',c',nt',A2',n2',c2',mn',mx'⟩,.int .i64 0])) (aA w5 w.heap.size 0 ⟨k',A',n',c',nt',A2',n2',c2',mn',mx'⟩) from by
            have t6:=dK w5 w.heap.size 0 ⟨k',A',n',c',nt',A2',n2',c2',mn',mx'⟩
            refine ⟨_,rfl,?_,B5.out.trans (t6.toBelow B5.out.size fun k hk e=>by omega)⟩
            exact iO (fun b hb _=>by have:=W3.out; omega) (gH t6 (fun b hb _ e=>by have:=W3.out; omega) HX.out))
          obtain ⟨⟨m0,o0⟩,⟨m1,o1⟩,⟨m2,o2⟩,⟨m3,o3⟩,⟨m4,o4⟩,⟨m5,o5⟩,f0,f1,f2,f3,f4,f5⟩:=bE (o:=0) K5.out (by simp)
          go_wp2_with fail
          have PN:=aQ K5.out ⟨k',A',n',c',nt',A2',n2',c2',mn',mx'⟩
          change bodyPost _ _ _ _ _ (aA w5 w.heap.size 0 ⟨k',A',n',c',nt',A2',n2',c2',mn',mx'⟩)
          generalize aA w5 w.heap.size 0 ⟨k',A',n',c',nt',A2',n2',c2',mn',mx'⟩=W at PN M ⊢
          obtain ⟨p0,p1,p2,p3,p4,p5⟩:=aB PN
          refine bodyPost_ret (v:=.tuple #[Nv.v ⟨k',A',n',c',nt',A2',n2',c2',mn',mx'⟩,.int .i64 0]) (by simp [results,Tryz.results14,go_sem,p0,p1,p2,p3,p4,p5]<;>rfl) rfl ?_
          rw [←OE.out]
          exact M.out
        · have OE:=Lib.hid (show Option.none=O from by
            have h:=OE2.out
            have hne:r'.left.isEmpty=false:=by
              cases e:r'.left with
              | nil=>have h2:=HNR.out; rw [e] at h2; exact absurd h2.symm hz
              | cons=>rfl
            rw [hbr,hne] at h
            exact h)
          have hpos:(0:Int)<(nr:Int):=by omega
          clear hbr
          have M:=Lib.hid (show pR .none w (.returned (.tuple #[zeroV.v,.int .i64 5])) (aA w5 w.heap.size 0 ⟨0,none,0,0,false,none,0,0,0,0⟩) from ⟨rfl,B5.out.trans ((dK w5 w.heap.size 0 _).toBelow B5.out.size fun k hk e=>by omega)⟩)
          obtain ⟨⟨m0,o0⟩,⟨m1,o1⟩,⟨m2,o2⟩,⟨m3,o3⟩,⟨m4,o4⟩,⟨m5,o5⟩,f0,f1,f2,f3,f4,f5⟩:=bE (o:=0) K5.out (by simp)
          go_wp2_with fail
          have PN:=aQ K5.out ⟨0,none,0,0,false,none,0,0,0,0⟩
          change bodyPost _ _ _ _ _ (aA w5 w.heap.size 0 ⟨0,none,0,0,false,none,0,0,0,0⟩)
          generalize aA w5 w.heap.size 0 ⟨0,none,0,0,false,none,0,0,0,0⟩=W at PN M ⊢
          obtain ⟨p0,p1,p2,p3,p4,p5⟩:=aB PN
          refine bodyPost_ret (v:=.tuple #[zeroV.v,.int .i64 5]) (by simp [results,Tryz.results14,go_sem,p0,p1,p2,p3,p4,p5]<;>rfl) rfl ?_
          rw [←OE.out]; exact M.out
end NF
end Go.Proofs.YteemnmalikomgaaGreatDoor
namespace Go.Proofs.YteemnmalikomgaaGreatDoor
open Go.ChangeShapes Go.WideShapes Go.ChangeAt Go.RowKit Go.Shelf Go.Lib Go.Sort
namespace NF
theorem Ig:(Tryz.prog.info? 189).map (fun i=>(i.zero,i.size,i.bytes))=some (some (.agg #[.int .i32 0,.int .i32 0]),2,8):=by kernel_rfl
theorem xE {n c:Nat} {A:Option Addr} {xs:List Value} (w:World) (hq:Sq w w.heap.size 2 n A xs) (h1:∀u∈xs,u.oneCell'=true) (hn:n≤17592186044416) :
  Calls Tryz.prog 136 #[.slice A n c] w fun e w'=>∃A' c',e=.returned (.slice A' n c')∧w'.ownsRow w.heap.size 189 2 (.slice A' n c') n xs∧Below w.heap.size w w':=by
 obtain ⟨i0,hi,hz0,hz1,hz2⟩:=info_parts Ig
 rcases A with _ | ad
 ·have hn0:n=0:=by
   rcases Nat.eq_zero_or_pos n with h | h
   ·exact h
   ·obtain ⟨b,off,e,_⟩:=hq.spot (by omega)
    cases e
  have hl:xs=[]:=List.length_eq_zero_iff.1 (by simp [hq.len,hn0])
  subst hn0 hl
  have q22:∀(w:World) (n c n' c':Nat),(binOp .eql 26 (.slice none n c) (.slice none n' c')).run Tryz.prog w=.ok (.bool true) w:=fun w n c n' c'=>Lib.run_eql_slice_nil w _ _ none n c n' c' Tryz.underlying26
  clear hq
  go_enter Tryz.func136,Tryz.ntmps136
  go_wp2
  go_ret
  exact ⟨none,0,rfl,World.ownsRow_nil _ _ _ _,Below.refl _ _⟩
 ·have q22:∀(w:World) (a:Option Addr) (n c n' c':Nat),(binOp .eql 26 (.slice a n c) (.slice none n' c')).run Tryz.prog w=.ok (.bool a.isNone) w:=fun w a n c n' c'=>Lib.run_eql_slice_nil w _ _ a n c n' c' Tryz.underlying26
  have QQ:=Lib.hid (hq.alloc (Nat.le_refl _) (.cells #[] 189))
  have H1:=Lib.hid h1
  clear hq h1
  go_enter Tryz.func136,Tryz.ntmps136
  go_wp2_with (
   at_builtin
   refine sV rfl _ _ 26 rfl w.heap.size 189 i0 (.agg #[.int .i32 0,.int .i32 0]) 2 8 Tryz.underlying26 hi hz0 hz1 hz2 rfl (by decide) (.slice (some ⟨w.heap.size,0,none⟩) 0 0) 0 [] rfl (World.ownsRow_made w #[] 0 (Nat.le_refl _) (Nat.zero_le _) rfl) (some ad) n c xs rfl w.heap.size QQ.out H1.out (by unfold maxLen; omega) (by omega) (by simp) ?_
   intro v1 w1 hown hg _
   have HO:=Lib.hid (show w1.ownsRow w.heap.size 189 2 v1 n xs by simpa using hown)
   have HB:=Lib.hid (((Below.refl w.heap.size w).alloc (Nat.le_refl _) (.cells #[] 189)).grown hg (by simp) (fun k e=>by simp [Value.ownBlock] at e; omega))
   clear hown hg)
  obtain ⟨A,c',rfl⟩:=jA HO.out
  go_ret
  exact ⟨A,c',rfl,HO.out,HB.out⟩
theorem WB:(Tryz.prog.info? 29).map (fun i=>(i.zero,i.size,i.bytes))=some (some (.agg #[.int .i64 0,.slice none 0 0,.bool false,.slice none 0 0,.int .i64 0,.int .i64 0]),6,80):=by kernel_rfl
theorem Gp {n c:Nat} {A:Option Addr} {xs:List Value} (w:World) (hq:Sq w w.heap.size 6 n A xs) (h1:∀u∈xs,u.oneCell'=true) (hn:n≤1759218604441) :
  Calls Tryz.prog 97 #[.slice A n c] w fun e w'=>∃A' c',e=.returned (.slice A' n c')∧w'.ownsRow w.heap.size 29 6 (.slice A' n c') n xs∧Below w.heap.size w w':=by
 obtain ⟨i0,hi,hz0,hz1,hz2⟩:=info_parts WB
 rcases A with _ | ad
 ·have hn0:n=0:=by
   rcases Nat.eq_zero_or_pos n with h | h
   ·exact h
   ·obtain ⟨b,off,e,_⟩:=hq.spot (by omega)
    cases e
  have hl:xs=[]:=List.length_eq_zero_iff.1 (by simp [hq.len,hn0])
  subst hn0 hl
  have q22:∀(w:World) (n c n' c':Nat),(binOp .eql 27 (.slice none n c) (.slice none n' c')).run Tryz.prog w=.ok (.bool true) w:=fun w n c n' c'=>Lib.run_eql_slice_nil w _ _ none n c n' c' Tryz.underlying27
  clear hq
  go_enter Tryz.func97,Tryz.ntmps97
  go_wp2
  go_ret
  exact ⟨none,0,rfl,World.ownsRow_nil _ _ _ _,Below.refl _ _⟩
 ·have q22:∀(w:World) (a:Option Addr) (n c n' c':Nat),(binOp .eql 27 (.slice a n c) (.slice none n' c')).run Tryz.prog w=.ok (.bool a.isNone) w:=fun w a n c n' c'=>Lib.run_eql_slice_nil w _ _ a n c n' c' Tryz.underlying27
  have QQ:=Lib.hid (hq.alloc (Nat.le_refl _) (.cells #[] 29))
  have H1:=Lib.hid h1
  clear hq h1
  go_enter Tryz.func97,Tryz.ntmps97
  go_wp2_with (
   at_builtin
   refine sV rfl _ _ 27 rfl w.heap.size 29 i0 (.agg #[.int .i64 0,.slice none 0 0,.bool false,.slice none 0 0,.int .i64 0,.int .i64 0]) 6 80 Tryz.underlying27 hi hz0 hz1 hz2 rfl (by decide) (.slice (some ⟨w.heap.size,0,none⟩) 0 0) 0 [] rfl (World.ownsRow_made w #[] 0 (Nat.le_refl _) (Nat.zero_le _) rfl) (some ad) n c xs rfl w.heap.size QQ.out H1.out (by unfold maxLen; omega) (by omega) (by simp) ?_
   intro v1 w1 hown hg _
   have HO:=Lib.hid (show w1.ownsRow w.heap.size 29 6 v1 n xs by simpa using hown)
   have HB:=Lib.hid (((Below.refl w.heap.size w).alloc (Nat.le_refl _) (.cells #[] 29)).grown hg (by simp) (fun k e=>by simp [Value.ownBlock] at e; omega))
   clear hown hg)
  obtain ⟨A,c',rfl⟩:=jA HO.out
  go_ret
  exact ⟨A,c',rfl,HO.out,HB.out⟩
theorem Ih (a b:Int) (w:World):Calls Tryz.prog 139 #[.int .i32 a,.int .i32 b] w fun e w'=>e=.returned (.int .i64 (if a<b then -1 else if b<a then 1 else 0))∧w'=w:=by
 have NA:∀(x:Int) (W:World),Calls Tryz.prog 178 #[.int .i32 x] W fun e w'=>e=.returned (.bool false)∧w'=W:=by
  intro x W
  go_enter Tryz.func178,Tryz.ntmps178
  go_wp2_with fail
  go_ret
  exact ⟨rfl,rfl⟩
 have N1:=Lib.hid NA
 clear NA
 by_cases h1:a<b
 ·rw [if_pos h1]
  go_enter Tryz.func139,Tryz.ntmps139
  go_wp2_with fail
  refine (N1.out a w).mono ?_
  rintro e w' ⟨rfl,rfl⟩
  go_wp2_with fail
  refine (N1.out b w').mono ?_
  rintro e w' ⟨rfl,rfl⟩
  go_wp2_with fail
  go_ret
  exact ⟨rfl,rfl⟩
 ·rw [if_neg h1]
  by_cases h2:b<a
  ·rw [if_pos h2]
   go_enter Tryz.func139,Tryz.ntmps139
   go_wp2_with fail
   refine (N1.out a w).mono ?_
   rintro e w' ⟨rfl,rfl⟩
   go_wp2_with fail
   refine (N1.out b w').mono ?_
   rintro e w' ⟨rfl,rfl⟩
   go_wp2_with fail
   go_ret
   exact ⟨rfl,rfl⟩
  ·rw [if_neg h2]
   go_enter Tryz.func139,Tryz.ntmps139
   go_wp2_with fail
   refine (N1.out a w).mono ?_
   rintro e w' ⟨rfl,rfl⟩
   go_wp2_with fail
   refine (N1.out b w').mono ?_
   rintro e w' ⟨rfl,rfl⟩
   go_wp2_with fail
   go_ret
   exact ⟨rfl,rfl⟩
def uZ (x y:Int×Int):Int:=if x.1<y.1 then -1 else if y.1<x.1 then 1 else 0
def encR (x:Int×Int):List Value:=[.int .i32 x.1,.int .i32 x.2]
theorem Ii (x y:Int×Int) (W:World):Calls Tryz.prog 138 #[.agg #[.int .i32 x.1,.int .i32 x.2],.agg #[.int .i32 y.1,.int .i32 y.2]] W fun e w'=>e=.returned (.int .i64 (uZ x y))∧∃q os',w'=grow (W.drewN q) os':=by
 have hcon:=Lib.hid (fun W'=>Ih x.1 y.1 W')
 unfold uZ
 generalize (if x.1<y.1 then (-1:Int) else if y.1<x.1 then 1 else 0)=r at hcon ⊢
 go_enter Tryz.func138,Tryz.ntmps138
 go_wp2_with fail
 refine (hcon.out _).mono ?_
 rintro e w' ⟨rfl,rfl⟩
 go_wp2_with fail
 go_ret
 exact ⟨rfl,0,_,by rw [alloc_eq_grow,alloc_eq_grow,grow_grow]; rfl⟩
end NF
end Go.Proofs.YteemnmalikomgaaGreatDoor
namespace Go.Proofs.YteemnmalikomgaaGreatDoor
open Go.ChangeShapes Go.WideShapes Go.ChangeAt Go.RowKit Go.Shelf Go.Lib Go.Sort
namespace NF
def fD (J:Sg) (x:Int×Int):Sg:=match J.getLast? with
 | some l=>if x.1≤l.2+1 then J.dropLast++[(l.1,max l.2 x.2)] else J++[x]
 | none=>J++[x]
structure WE (J:Sg) (h:Int):Prop where
 rise:dQ J
 ok:bK J=true
 last:∀x,J.getLast? = some x→x.1≤h
theorem sw:∀ {J:Sg} {x:Int×Int},dQ J→x.1≤x.2→(∀l,J.getLast? = some l→l.2<x.1)→dQ (J++[x])
 | [],x,_,h,_=>h
 | [y],x,h1,h2,h3=>⟨h1,h3 y rfl,h2⟩
 | y::z::r,x,h1,h2,h3=>⟨h1.1,h1.2.1,sw (J:=z::r) h1.2.2 h2 (fun l hl=>h3 l (by rw [List.getLast?_cons_cons]; exact hl))⟩
theorem zl:∀ {J:Sg},dQ J→dQ J.dropLast
 | [],_=>trivial
 | [y],_=>trivial
 | [y,z],h=>h.1
 | y::z::u::r,h=>by
  have:=zl (J:=z::u::r) h.2.2
  exact ⟨h.1,h.2.1,this⟩
theorem Np {J:Sg} {l p:Int×Int} (h:dQ J) (hl:J.getLast? = some l) (hp:J.dropLast.getLast? = some p):p.2<l.1:=by
 have e1:J=J.dropLast++[l]:=by
  have hne:J≠[]:=fun e=>by rw [e] at hl; cases hl
  rw [List.getLast?_eq_some_getLast hne] at hl
  injection hl with hl
  rw [←hl]
  exact (List.dropLast_concat_getLast hne).symm
 have e2:J.dropLast=J.dropLast.dropLast++[p]:=by
  have hne:J.dropLast≠[]:=fun e=>by rw [e] at hp; cases hp
  rw [List.getLast?_eq_some_getLast hne] at hp
  injection hp with hp
  rw [←hp,List.dropLast_concat_getLast]
 generalize hq:J.dropLast.dropLast=q at e2
 have hp1:J[q.length]? = some p:=by rw [e1,e2]; simp
 have hl1:J[q.length+0+1]? = some l:=by rw [e1,e2]; simp
 exact nS h 0 q.length p l hp1 hl1
theorem u6 (a b:Sg) (r:Int):anyS (a++b) r=(anyS a r || anyS b r):=by unfold anyS; rw [List.any_append]
theorem vg {J:Sg} {l:Int×Int} (hl:J.getLast? = some l):J=J.dropLast++[l]:=by
 have hne:J≠[]:=fun e=>by rw [e] at hl; cases hl
 rw [List.getLast?_eq_some_getLast hne] at hl
 injection hl with hl
 rw [←hl]
 exact (List.dropLast_concat_getLast hne).symm
theorem xG (a b:Sg):bK (a++b)=(bK a && bK b):=by unfold bK; rw [List.all_append]
theorem Ti {J:Sg} {h:Int} {x:Int×Int} (hj:WE J h) (hx:bL x.1=true∧bL x.2=true∧x.1≤x.2) (hh:h≤x.1):WE (fD J x) x.1∧(∀r,anyS (fD J x) r=(anyS J r || anyS [x] r))∧(fD J x).isEmpty=false:=by
 have h1:bK [x]=true:=by simp [bK,hx.1,hx.2.1,hx.2.2]
 unfold fD
 cases hl:J.getLast? with
 | none =>
  have hJ:J=[]:=List.getLast?_eq_none_iff.1 hl
  subst hJ
  refine ⟨⟨hx.2.2,h1,fun y hy=>by simp at hy; subst hy; exact Int.le_refl _⟩,fun r=>rfl,rfl⟩
 | some l =>
  have hs:=vg hl
  have hlh:=hj.last l hl
  dsimp only
  by_cases hc:x.1≤l.2+1
  ·rw [if_pos hc]
   have hok:=hj.ok
   rw [hs,xG,Bool.and_eq_true] at hok
   have hl3:bL l.1=true∧bL l.2=true∧l.1≤l.2:=by
    have:=hok.2
    simp [bK] at this
    exact ⟨this.1.1,this.1.2,this.2⟩
   refine ⟨⟨?_,?_,?_⟩,?_,by simp⟩
   ·exact sw (zl hj.rise) (by dsimp only; omega) (fun p hp=>show p.2<l.1 from Np hj.rise hl hp)
   ·rw [xG,hok.1]
    have:bL (max l.2 x.2)=true:=by
     rcases Int.le_total l.2 x.2 with hm | hm
     ·rw [Int.max_eq_right hm]; exact hx.2.1
     ·rw [Int.max_eq_left hm]; exact hl3.2.1
    simp [bK,hl3.1,this]
    omega
   ·intro y hy
    simp at hy
    subst hy
    dsimp only
    omega
   ·intro r
    conv=>rhs; rw [hs]
    rw [u6,u6,Bool.or_assoc]
    congr 1
    simp only [anyS,List.any_cons,List.any_nil,Bool.or_false]
    rw [Bool.eq_iff_iff]
    simp only [Bool.and_eq_true,Bool.or_eq_true,decide_eq_true_eq]
    omega
  ·rw [if_neg hc]
   refine ⟨⟨sw hj.rise hx.2.2 (fun y hy=>by rw [hl] at hy; cases hy; omega),by rw [xG,hj.ok,h1]; rfl,fun y hy=>by simp at hy; subst hy; exact Int.le_refl _⟩,fun r=>by rw [u6],by simp⟩
theorem Ql (J:Sg) (x:Int×Int):(fD J x).length≤J.length+1:=by
 unfold fD
 cases hl:J.getLast? with
 | none=>simp
 | some l =>
  dsimp only
  split
  ·simp only [List.length_append,List.length_dropLast,List.length_singleton]; omega
  ·simp
structure Ba (D:Sg) (i:Nat) (J:Sg):Prop where
 ris:∃h,WE J h∧∀x,(D.drop i).head? = some x→h≤x.1
 any:∀r,anyS J r=anyS (D.take i) r
 len:J.length≤i
 empty:J.isEmpty=(D.take i).isEmpty
theorem Ba.start (D:Sg):Ba D 0 []:=by
 refine ⟨?_,fun r=>by simp [anyS],Nat.le_refl _,by simp⟩
 cases D with
 | nil=>exact ⟨0,⟨trivial,rfl,fun x h=>by cases h⟩,fun x h=>by cases h⟩
 | cons y ys=>exact ⟨y.1,⟨trivial,rfl,fun x h=>by cases h⟩,fun x h=>by simp at h; subst h; exact Int.le_refl _⟩
theorem Ba.next {D:Sg} {i:Nat} {J:Sg} {x:Int×Int} (h:Ba D i J) (hx:D[i]? = some x) (hok:bK D=true) (hs:∀a y z,D[a]? = some y→D[a+1]? = some z→y.1≤z.1):Ba D (i+1) (fD J x):=by
 obtain ⟨hv,h1,h2⟩:=h.ris
 obtain ⟨hi,he⟩:=List.getElem?_eq_some_iff.1 hx
 have hxo:bL x.1=true∧bL x.2=true∧x.1≤x.2:=by
  unfold bK at hok
  have:=List.all_eq_true.1 hok x (List.mem_of_getElem? hx)
  simpa [and_assoc] using this
 have hle:hv≤x.1:=h2 x (by rw [List.head?_drop,hx])
 obtain ⟨g1,g2,g3⟩:=Ti h1 hxo hle
 refine ⟨⟨x.1,g1,fun y hy=>hs i x y hx (by rw [List.head?_drop] at hy; exact hy)⟩,fun r=> ?_,by have:=Ql J x; have:=h.len; omega,?_⟩
 ·rw [g2,h.any,List.take_succ_eq_append_getElem hi,u6,he]
 ·rw [g3,List.take_succ_eq_append_getElem hi]
  cases D.take i<;>rfl
section
variable {P:Program}
theorem Ij {w:World} {ops:Array Oper} {rest:List Oper} {o:Oper} {a:Act} {Q:Exit→Act→World→Prop} (hgd:o.guard=none) (s x:Operand) (t:TypeId)
  (ho:o.op=.call { callee:=.builtin .append,args:= #[s,x],argTypes:= #[t,t] })
  (e:TypeId) (i:TypeInfo) (size:Nat) (ht:P.underlying t=some (.slice e)) (hi:P.info? e=some i) (hsize:i.size=size)
  (g n cap:Nat) (cur:Array Value) (hs:a.eval s=.slice (some ⟨g,0,none⟩) n cap) (hg:w.heap[g]? = some (.cells cur e (0,0)))
  (ad:Addr) (m c:Nat) (news:List Value) (hx:a.eval x=.slice (some ad) m c) (hl:news.length=m*size) (hnews:∀j u,news[j]? = some u→w.cell? (ad.add j)=some u) (h1:∀u∈news,u.oneCell'=true)
  (hroom:n+m≤cap) (hfit:n*size+news.length≤cur.size)
  (h:wpList P ops Q rest (a.put o.dst (.slice (some ⟨g,0,none⟩) (n+m) cap)) (w.setRow g (cur.toList.take (n*size)++news++cur.toList.drop (n*size+news.length)).toArray)):wpList P ops Q (o::rest) a w:=by
 subst hsize
 have hrun:=run_append_room (P:=P) w t o.type e i ht hi g n cap cur hg ad m c news hl hnews h1 hroom hfit
 refine wpList_plain hgd fun K hK=> ?_
 unfold Oper.wp
 simp only [execOp,ho,resolve,invoke,builtin,Sem.run_bind,Sem.run_pure,Result.andThen_ok,List.map_toArray,List.map_cons,List.map_nil,hs,hx,hrun]
 exact hK _ _ h
end
theorem Nq (x y:Int×Int):ltOf uZ x y=decide (x.1<y.1):=by
 unfold ltOf uZ
 by_cases h1:x.1<y.1
 ·simp [h1]
 ·by_cases h2:y.1<x.1<;>simp [h1,h2]
theorem XF:SWO (ltOf uZ) where
 irrefl x:=by rw [Nq]; simp
 trans x y z h1 h2:=by rw [Nq] at *; simp at *; omega
 ntrans x y z h1 h2:=by rw [Nq] at *; simp at *; omega
end NF
end Go.Proofs.YteemnmalikomgaaGreatDoor
namespace Go.Proofs.YteemnmalikomgaaGreatDoor
open Go.ChangeShapes Go.WideShapes Go.ChangeAt Go.RowKit Go.Shelf Go.Lib Go.Sort
namespace NF
theorem Eu {s:Sg} {j:Nat} (h:j<s.length*2):(aN s)[j]? = some ((encR s.toArray[j / 2]!)[j % 2]!):=by
 have hk:j / 2<s.length:=by omega
 have hx:s[j / 2]? = some s[j / 2]:=List.getElem?_eq_getElem hk
 obtain ⟨h0,h1⟩:=nR s (j / 2) _ hx
 have e:s.toArray[j / 2]! = s[j / 2]:=by
  rw [getElem!_pos s.toArray (j / 2) (by simpa using hk)]
  simp
 rw [e]
 rcases Nat.mod_two_eq_zero_or_one j with hr | hr
 ·rw [hr]
  have:j=j / 2*2:=by omega
  conv=>lhs; rw [this]
  exact h0
 ·rw [hr]
  have:j=j / 2*2+1:=by omega
  conv=>lhs; rw [this]
  exact h1
theorem holds_of {w:World} {g n:Nat} {cur:Array Value} {s:Sg} (hb:Bk w 189 g cur) (ht:cur.toList.take (n*2)=aN s) (hn:s.length=n):HoldsK encR 2 w g 0 s.toArray:=by
 intro j hj
 rw [size_flatK] at hj
 simp only [List.size_toArray] at hj
 refine ⟨?_,Bk.free hb _⟩
 rw [Bk.get hb,get_flatK encR 2 s.toArray j (by simpa using hj),Nat.zero_add]
 have h1:=Eu (s:=s) hj
 rw [←ht,List.getElem?_take,if_pos (by omega),Array.getElem?_toList] at h1
 exact h1
theorem sorted_world {w:World} {g n cap m:Nat} {cur:Array Value} {s s2:Sg} {os:Array Obj} (hb:Bk w 189 g cur) (hcap:cur.size=cap*2) (_ht:cur.toList.take (n*2)=aN s) (_hn:s.length=n) (hnc:n≤cap) (h2:s2.length=n) :
  ∃cur2,Bk (sortWorldK encR 2 w g 0 m s2.toArray os) 189 g cur2∧cur2.size=cur.size∧cur2.toList.take (n*2)=aN s2∧ak (· = g) w (sortWorldK encR 2 w g 0 m s2.toArray os):=by
 have hg:=Bk.lt hb
 have hsz:(flatK encR 2 s2.toArray).size=n*2:=by rw [size_flatK]; simp [h2]
 have e1:(sortWorldK encR 2 w g 0 m s2.toArray os).heap[g]? = some (.cells (Sort.putCells id 0 (flatK encR 2 s2.toArray) cur) 189 (0,0)):=by
  unfold sortWorldK
  rw [Sort.heap_grow_old _ _ (by rw [size_putRowK]; exact hg)]
  show (w.heap.modify g (Sort.onCells _))[g]? = _
  rw [Array.getElem?_modify,if_pos rfl,hb]
  rfl
 refine ⟨_,e1,by simp [Sort.putCells],?_,rfl,rfl,rfl,?_,?_⟩
 ·refine List.ext_getElem? fun j=> ?_
  rw [List.getElem?_take]
  by_cases hj:j<n*2
  ·rw [if_pos hj,Eu (by rw [h2]; exact hj),Array.getElem?_toList]
   simp only [Sort.putCells,Array.getElem?_mapIdx]
   rw [Array.getElem?_eq_getElem (by rw [hcap]; omega)]
   simp only [Option.map_some,Nat.zero_le,true_and,hsz,Nat.zero_add,Nat.sub_zero,hj,if_true,id]
   rw [get_flatK encR 2 s2.toArray j (by simpa [h2] using hj)]
  ·rw [if_neg hj,List.getElem?_eq_none (by rw [nQ,h2]; omega)]
 ·unfold sortWorldK
  rw [Sort.size_grow,size_putRowK]
  exact Nat.le_add_right _ _
 ·intro k hk hne
  unfold sortWorldK
  rw [Sort.heap_grow_old _ _ (by rw [size_putRowK]; exact hk)]
  show (w.heap.modify g (Sort.onCells _))[k]? = _
  rw [Array.getElem?_modify,if_neg (fun e=>hne e.symm)]
  try rfl
theorem Qm (g n cap:Nat) (cur:Array Value) (s:Sg) (w:World) (hb:Bk w 189 g cur) (hcap:cur.size=cap*2) (ht:cur.toList.take (n*2)=aN s) (hn:s.length=n) (hnc:n≤cap) (hbig:n≤17592186044416) :
  Calls Tryz.prog 137 #[.slice (some ⟨g,0,none⟩) n cap,.func (.func 138) #[] #[]] w fun e w'=>e=.returned (.tuple #[]) ∧
   ∃(s2:Sg) (cur2:Array Value),s2.Perm s∧(∀(a:Nat) (y z:Int×Int),s2[a]? = some y→s2[a+1]? = some z→y.1≤z.1)∧Bk w' 189 g cur2∧cur2.size=cur.size∧cur2.toList.take (n*2)=aN s2∧ak (· = g) w w':=by
 have eg:∀args w,(callFunc 138 args).run Tryz.prog w=.ok (.enter 138 args) w:=enters_of Tryz.func138 (by kernel_rfl) rfl
 have hlays:CmpLays Tryz.prog 138 #[] encR 2 uZ g 0 s.toArray.size w:=fun _ _ _ _ x y=>Ii x y _
 have hcon:=AnyQ.slices_SortFunc Tryz.sortR 2 Tryz.isAgg189 Tryz.sizeOf189 encR (fun _=>rfl) (fun x v hv=>by simp [encR] at hv; rcases hv with rfl | rfl<;>rfl) uZ XF 138 #[] g 0 cap s.toArray w eg hlays (holds_of hb ht hn) (Bk.lt hb) (by simp [hn]; omega)
 have hsz:s.toArray.size=n:=by simp [hn]
 rw [hsz] at hcon
 change Calls Tryz.prog 137 _ _ _ at hcon
 refine hcon.mono ?_
 rintro e w' ⟨rfl,d',m,os,⟨p1,p2,p3⟩,hs,rfl⟩
 have hd:d'.size=n:=by rw [p1,hsz]
 have hl:d'.toList.length=n:=by rw [Array.length_toList,hd]
 obtain ⟨cur2,c1,c2,c3,c4⟩:=sorted_world (m:=m) (os:=os) hb hcap ht hn hnc hl
 rw [Array.toArray_toList] at c1 c4
 refine ⟨rfl,d'.toList,cur2,?_,?_,c1,c2,c3,c4⟩
 ·have e1:d'.extract 0 n=d':=by rw [←hd]; simp
  have e2:s.toArray.extract 0 n=s.toArray:=by rw [←hsz]; simp
  rw [e1,e2] at p3
  simpa using p3
 ·intro a y z hy hz
  have ha:=(List.getElem?_eq_some_iff.1 hz).1
  rw [hl] at ha
  have h1:=hs a (a+1) (Nat.zero_le _) (by omega) ha
  rw [Array.getElem?_toList] at hy hz
  obtain ⟨i1,j1⟩:=Array.getElem?_eq_some_iff.1 hy
  obtain ⟨i2,j2⟩:=Array.getElem?_eq_some_iff.1 hz
  rw [getElem!_pos d' a i1,getElem!_pos d' (a+1) i2,j1,j2,Nq] at h1
  simpa using h1
end NF
end Go.Proofs.YteemnmalikomgaaGreatDoor
namespace Go.Proofs.YteemnmalikomgaaGreatDoor
open Go.ChangeShapes Go.WideShapes Go.ChangeAt Go.RowKit
namespace NF
theorem Ew (A:Option Addr) (m c:Nat) (w:World) (hm:m≤c) (hA:A=none→m=0) :
  Calls Tryz.prog 140 #[.slice A m c] w fun e w'=>e=.returned (.slice A m m)∧w'=w:=by
 have h1:(m:Int)≤(c:Int):=by omega
 have h2:(0:Int)≤(m:Int):=by omega
 cases A with
 | none =>
  obtain rfl:=hA rfl
  go_enter Tryz.func140,Tryz.ntmps140
  go_wp2_with fail
  go_ret
  exact ⟨rfl,rfl⟩
 | some ad =>
  go_enter Tryz.func140,Tryz.ntmps140
  go_wp2_with fail
  go_ret
  exact ⟨rfl,rfl⟩
structure Bb (w1 wr:World) (g cap n i m:Nat) (D J:Sg):Prop where
 aO:ak (· = g) w1 wr
 row:∃cur,Bk wr 189 g cur∧cur.size=cap*2∧cur.toList.take (m*2)=aN J∧∀j,i*2≤j→j<n*2→cur[j]? = (aN D)[j]?
 jnd:Ba D i J
 len:J.length=m
theorem Qn (w:World) (x y:Value) (t:TypeId):∀j u,[x,y][j]? = some u→(w.alloc (.cells #[x,y] t)).cell? ((⟨w.heap.size,0,none⟩:Addr).add j)=some u:=by
 intro j u hu
 rw [pI,Nat.zero_add,cell_of_row _ _ _ _ _ (0,0) (heap_alloc_new w _)]
 match j,hu with
 | 0,hu=>exact hu
 | 1,hu=>exact hu
 | j+2,hu=>simp at hu
theorem Bb.drew {w1 wr:World} {g cap n i m:Nat} {D J:Sg} (h:Bb w1 wr g cap n i m D J):Bb w1 wr.drew g cap n i m D J:=⟨h.aO.drew,h.row,h.jnd,h.len⟩
theorem xH (a b:Sg):aN (a++b)=aN a++aN b:=by unfold aN; rw [List.flatMap_append]
theorem Qo {w1 wr w5:World} {g cap n i m:Nat} {D J:Sg} {lo hi:Int} {cr:Array Value} (h:Bb w1 wr g cap n i m D J) (t5:ak (· = g) w1 w5) (hk:Bk w5 189 g cr) (k2:cr.size=cap*2) (k3:cr.toList.take (m*2)=aN J)
  (k4:∀j,i*2≤j→j<n*2→cr[j]? = (aN D)[j]?) (hnx:Ba D (i+1) (fD J (lo,hi))) (he:fD J (lo,hi)=J++[(lo,hi)]) (hmi:m≤i) (hin:i<n) (hnc:n≤cap) (o:Obj) :
  Bb w1 ((w5.alloc o).setRow g (cr.toList.take (m*2)++[Value.int .i32 lo,Value.int .i32 hi]++cr.toList.drop (m*2+2)).toArray) g cap n (i+1) (m+1) D (fD J (lo,hi)):=by
 have ha:Bk (w5.alloc o) 189 g cr:=(((Below.refl w5.heap.size w5).alloc (Nat.le_refl _) o).block g hk.lt).trans hk
 have hlen:(cr.toList.take (m*2)).length=m*2:=by rw [List.length_take,Array.length_toList,k2]; omega
 refine ⟨(t5.trans (ak.aH ((Below.refl _ _).alloc (Nat.le_refl _) o) (fun _=>False)) (fun _ _ h=>h.elim)).trans (M':=(· = g)) ⟨rfl,rfl,rfl,by simp,fun k _ hk=>setRow_other _ g k _ hk⟩ (fun _ _ h=>h),⟨_,setRow_heap _ g cr _ _ _ ha,?_,?_,fun j h1 h2=> ?_⟩,hnx,by rw [he,List.length_append,h.len]; rfl⟩
 ·simp only [List.size_toArray,List.length_append,hlen,List.length_drop,Array.length_toList,List.length_cons,List.length_nil]
  omega
 ·rw [he,xH,←k3]
  have e:(m+1)*2=(cr.toList.take (m*2)++[Value.int .i32 lo,Value.int .i32 hi]).length:=by rw [List.length_append,hlen]; simp; omega
  rw [e,List.take_left]
  rfl
 ·rw [←k4 j (by omega) h2,List.getElem?_toArray,List.getElem?_append_right (by rw [List.length_append,hlen]; simp; omega),List.getElem?_drop,List.length_append,hlen,Array.getElem?_toList]
  simp only [List.length_cons,List.length_nil]
  congr 1
  omega
theorem WG {w1 wr w5:World} {g cap n i m:Nat} {D J:Sg} {lo hi:Int} {l:Int×Int} {cr:Array Value} (h:Bb w1 wr g cap n i (m+1) D J) (t5:ak (· = g) w1 w5) (hk:Bk w5 189 g cr) (k2:cr.size=cap*2) (k3:cr.toList.take ((m+1)*2)=aN J)
  (k4:∀j,i*2≤j→j<n*2→cr[j]? = (aN D)[j]?) (hnx:Ba D (i+1) (fD J (lo,hi))) (hl:J.getLast? = some l) (he:fD J (lo,hi)=J.dropLast++[(l.1,max l.2 hi)]) (hmi:m+1≤i) (_hnc:n≤cap) :
  Bb w1 (w5.setCell ⟨g,m*2+1,none⟩ (.int .i32 (max l.2 hi))) g cap n (i+1) (m+1) D (fD J (lo,hi)):=by
 have hs:=vg hl
 have hdl:J.dropLast.length=m:=by rw [List.length_dropLast,h.len]; omega
 have hmc:m+1≤cap:=by
  have:=congrArg List.length k3
  rw [List.length_take,Array.length_toList,k2,nQ,h.len] at this
  omega
 refine ⟨t5.trans (ak.bR g _ w5 _) (fun _ _ h=>h),⟨_,hk.put _ _,by simp [k2],?_,fun j h1 h2=> ?_⟩,hnx,by rw [he,List.length_append,hdl]; rfl⟩
 ·rw [he,xH]
  rw [hs,xH] at k3
  have hf:(aN J.dropLast).length=m*2:=by rw [nQ,hdl]
  refine List.ext_getElem? fun j=> ?_
  have hj:(cr.toList.take ((m+1)*2))[j]? = (aN J.dropLast++aN [l])[j]?:=by rw [k3]
  rw [List.getElem?_take,Array.getElem?_toList] at hj ⊢
  by_cases hjm:j<(m+1)*2
  ·rw [if_pos hjm] at hj ⊢
   by_cases hj2:j=m*2+1
   ·subst hj2
    rw [Array.getElem?_setIfInBounds_self_of_lt (by rw [k2]; omega),List.getElem?_append_right (by rw [hf]; omega),hf,show m*2+1 - m*2=1 by omega]
    rfl
   ·rw [Array.getElem?_setIfInBounds_ne (fun e=>hj2 e.symm),hj]
    by_cases hj3:j<m*2
    ·rw [List.getElem?_append_left (by rw [hf]; exact hj3),List.getElem?_append_left (by rw [hf]; exact hj3)]
    ·rw [List.getElem?_append_right (by rw [hf]; omega),List.getElem?_append_right (by rw [hf]; omega),hf,show j - m*2=0 by omega]
     rfl
  ·rw [if_neg hjm,List.getElem?_eq_none (by rw [List.length_append,hf]; simp [aN]; omega)]
 ·rw [Array.getElem?_setIfInBounds_ne (by omega)]
  exact k4 j (by omega) h2
structure Cq (w w':World) (s s2:Sg) (A:Option Addr) (n c:Nat):Prop where
 sq:Sq w' w'.heap.size 2 n A (aN s2)
 low:∀b off,A=some ⟨b,off,none⟩→0<n→w.heap.size≤b
 le:n≤c
 len:n≤s.length
 any:∀r,anyS s2 r=anyS s r
 ok:bK s2=true
 empty:s2.isEmpty=s.isEmpty
 rise:dQ s2
 old:Below w.heap.size w w'
theorem Ke (A:Option Addr) (n c:Nat) (s:Sg) (w:World) (hq:Sq w w.heap.size 2 n A (aN s)) (hok:bK s=true) (hn:n≤17592186044416) (h0:0<n) :
  Calls Tryz.prog 96 #[.slice A n c] w fun e w'=>∃s2 A' n' c',e=.returned (.slice A' n' c')∧Cq w w' s s2 A' n' c':=by
 have hl:=mQ hq
 have CL:=Lib.hid (xE (c:=c) w hq (by intro u hu; unfold aN at hu; obtain ⟨x,_,hx⟩:=List.mem_flatMap.1 hu; simp at hx; rcases hx with rfl | rfl<;>rfl) hn)
 have HL:=Lib.hid hl
 have OK:=Lib.hid hok
 clear hq hl hok
 go_enter Tryz.func96,Tryz.ntmps96
 go_wp2_with fail
 refine CL.out.mono ?_
 rintro e w1 ⟨A1,cap,rfl,o1,b1⟩
 obtain ⟨g,cur,rfl,hgl,hg,hnc,hcm,hcs,htk⟩:∃g cur,A1=some ⟨g,0,none⟩∧w.heap.size≤g∧Bk w1 189 g cur∧n≤cap∧cap≤maxLen∧cur.size=cap*2∧cur.toList.take (n*2)=aN s:=by
  rcases o1.2 with ⟨_,h1⟩ | ⟨g,cp,cur,h1,e2,e3,e4,e5,e6,e7⟩
  ·omega
  ·injection h1 with h2 _ h4
   subst h2 h4
   exact ⟨g,cur,rfl,e2,e3,e4,e5,e6,e7⟩
 have ST:=Lib.hid (Qm g n cap cur s w1 hg hcs htk HL.out hnc hn)
 have B1:=Lib.hid b1
 have HG:=Lib.hid hgl
 have HC:=Lib.hid (And.intro hnc (And.intro hcm hcs))
 clear o1 b1 hg htk CL hgl hcs
 go_wp2_with fail
 refine ST.out.mono ?_
 rintro e w2 ⟨rfl,D,cur2,dp,ds,d1,d2,d3,d4⟩
 have DL:D.length=n:=by rw [dp.length_eq,HL.out]
 have DK:bK D=true:=by
  unfold bK
  rw [List.all_eq_true]
  intro x hx
  have:=OK.out
  unfold bK at this
  exact List.all_eq_true.1 this x (dp.mem_iff.1 hx)
 have DA:∀r,anyS D r=anyS s r:=fun r=>by
  unfold anyS
  rw [Bool.eq_iff_iff,List.any_eq_true,List.any_eq_true]
  exact ⟨fun ⟨x,h1,h2⟩=>⟨x,dp.mem_iff.1 h1,h2⟩,fun ⟨x,h1,h2⟩=>⟨x,dp.mem_iff.2 h1,h2⟩⟩
 have FD:=Lib.hid (And.intro DL (And.intro DK (And.intro DA ds)))
 have I0:=Lib.hid (show ∃J,Bb w1 w2 g cap n 0 0 D J from ⟨[],d4,⟨cur2,d1,by rw [d2]; exact HC.out.2.2,by simp [aN],fun j _ hj=>by rw [←d3,List.getElem?_take,if_pos hj,Array.getElem?_toList]⟩,Ba.start D,rfl⟩)
 clear ST dp ds d1 d2 d3 d4 DL DK DA
 go_wp2_with fail
 go_loopw [16,4] (fun y s4 wr=>∃i m:Nat,y=.int .i64 (i:Int)∧s4=.slice (some ⟨g,0,none⟩) m cap∧i≤n∧m≤i∧Hid (∃J,Bb w1 wr g cap n i m D J)) (fun y _ _=>n - (intOf y).toNat)
 case atStart=>exact ⟨0,0,rfl,rfl,Nat.zero_le _,Nat.le_refl _,I0⟩
 case round =>
  obtain ⟨i,m,rfl,rfl,hi,hmi,I⟩:=hrel
  clear I0
  have hi0:(0:Int)≤(i:Int):=by omega
  have hinc:IntKind.i64.wrap ((i:Int)+1)=(i:Int)+1:=IntWalk.i64_in _ (by omega)
  by_cases hlt:i<n
  ·obtain ⟨J,I⟩:=I.out
   obtain ⟨cr,k1,k2,k3,k4⟩:=I.row
   obtain ⟨x,hx⟩:∃x,D[i]? = some x:=⟨_,List.getElem?_eq_getElem (by rw [FD.out.1]; exact hlt)⟩
   obtain ⟨f0,f1⟩:=nR D i x hx
   obtain ⟨lo,hi'⟩:=x
   have c0:wr.cell? ⟨g,i*2,none⟩=some (.int .i32 lo):=by rw [Bk.get k1,k4 _ (by omega) (by omega)]; exact f0
   have c1:wr.cell? ⟨g,i*2+1,none⟩=some (.int .i32 hi'):=by rw [Bk.get k1,k4 _ (by omega) (by omega)]; exact f1
   have hi1:(i:Int)<(n:Int):=by omega
   obtain ⟨w4,hw4⟩:∃w4,wr.alloc (.cells #[.int .i32 lo,.int .i32 hi'] 189)=w4:=⟨_,rfl⟩
   have b4:Below wr.heap.size wr w4:=by rw [←hw4]; exact (Below.refl _ _).alloc (Nat.le_refl _) _
   have q4:Bk w4 189 wr.heap.size #[.int .i32 lo,.int .i32 hi']:=by rw [←hw4]; exact heap_alloc_new wr _
   have v0:w4.cell? ⟨wr.heap.size,0,none⟩=some (.int .i32 lo):=Bk.get q4 0
   have v1:w4.cell? ⟨wr.heap.size,1,none⟩=some (.int .i32 hi'):=Bk.get q4 1
   have kg:Bk w4 189 g cr:=(b4.block g k1.lt).trans k1
   have hsub:IntKind.i64.wrap ((m:Int) - 1)=(m:Int) - 1:=IntWalk.i64_in _ (by omega)
   have II:=Lib.hid I
   have KG:=Lib.hid kg
   have KF:=Lib.hid (And.intro k1.lt (And.intro k2 (And.intro k3 k4)))
   have HX:=Lib.hid hx
   have T4:=Lib.hid (I.aO.trans (ak.aH b4 (fun _=>False)) (fun _ _ h=>h.elim))
   have NX:=Lib.hid (I.jnd.next hx FD.out.2.1 FD.out.2.2.2)
   clear I k1 k2 k3 k4 f0 f1 b4 q4 kg hx
   by_cases hm0:m=0
   ·subst hm0
    have HE:=Lib.hid (show fD J (lo,hi')=J++[(lo,hi')] from by
     have:J=[]:=List.length_eq_zero_iff.1 II.out.len
     rw [this]
     rfl)
    have IN:=Lib.hid (info_parts Ig)
    go_wp2_with fail
    go_quiet (fail)
    have RA:=Lib.hid (fun o=>Qo (w5:=w4.drewN nq) II.out ⟨T4.out.os,T4.out.tape,T4.out.output,T4.out.size,T4.out.block⟩ KG.out KF.out.2.1 KF.out.2.2.1 KF.out.2.2.2 NX.out HE.out hmi hlt HC.out.1 o)
    have v0':(w4.drewN nq).cell? ⟨wr.heap.size,0,none⟩=some (.int .i32 lo):=v0
    have v1':(w4.drewN nq).cell? ⟨wr.heap.size,1,none⟩=some (.int .i32 hi'):=v1
    have KG5:=Lib.hid (show Bk (w4.drewN nq) 189 g cr from KG.out)
    generalize w4.drewN nq=w5 at RA v0' v1' KG5 ⊢
    clear v0 v1 c0 c1 hw4 KG T4
    obtain ⟨i0,hi0',hz0,hz1,hz2⟩:=IN.out
    go_wp2_with (
     at_builtin
     refine Ij rfl _ _ 26 rfl 189 i0 2 Tryz.underlying26 hi0' hz1 g 0 cap cr rfl (((Below.refl w5.heap.size w5).alloc (Nat.le_refl _) _).block g KG5.out.lt |>.trans KG5.out) ⟨w5.heap.size,0,none⟩ 1 1 [.int .i32 lo,.int .i32 hi'] rfl rfl (Qn w5 _ _ _) (by intro u hu; simp at hu; rcases hu with rfl | rfl<;>rfl) (by have:=HC.out; omega) (by have:=HC.out; have:=KF.out.2.1; simp; omega) ?_)
    refine ⟨⟨i+1,1,by first | rfl | (congr 1; done) | (congr 1; omega),rfl,by omega,by omega,Lib.hid ⟨fD J (lo,hi'),?_⟩⟩,by first | (simp [intOf]; done) | (simp [intOf]; omega)⟩
    have:=RA.out (.cells #[.int .i32 lo,.int .i32 hi'] 189)
    simpa using this
   ·obtain ⟨m,rfl⟩:∃k,m=k+1:=⟨m - 1,by omega⟩
    have hJ:J.length=m+1:=II.out.len
    obtain ⟨l,hl⟩:∃l,J.getLast? = some l:=⟨_,List.getLast?_eq_some_getLast (fun e=>by rw [e] at hJ; simp at hJ)⟩
    have hls:=vg hl
    have hlm:J[m]? = some l:=by rw [List.getLast?_eq_getElem?,hJ] at hl; exact hl
    obtain ⟨_,g1⟩:=nR J m l hlm
    have z1:cr[m*2+1]? = some (.int .i32 l.2):=by
     rw [←KF.out.2.2.1,List.getElem?_take,if_pos (by omega),Array.getElem?_toList] at g1
     exact g1
    have u1:w4.cell? ⟨g,m*2+1,none⟩=some (.int .i32 l.2):=(Bk.get KG.out _).trans z1
    have hlok:0≤l.2∧l.2≤1114111:=by
     obtain ⟨h,hr,_⟩:=II.out.jnd.ris
     have:=hr.ok
     unfold bK at this
     have:=List.all_eq_true.1 this l (List.mem_of_getElem? hlm)
     simp [bL] at this
     omega
    have hwi:IntKind.i32.wrap (l.2+1)=l.2+1:=by simp [IntKind.wrap,IntKind.bits,IntKind.signed]; omega
    have hs1:IntKind.i64.wrap (((m+1:Nat):Int) - 1)=(m:Int):=by rw [IntWalk.i64_in _ (by omega)]; omega
    have hs2:IntKind.i64.wrap ((m:Int)+1 - 1)=(m:Int):=by rw [IntWalk.i64_in _ (by omega)]; omega
    have hm0':(0:Int)≤(m:Int):=by omega
    have hm1:(m:Int)<(m:Int)+1:=by omega
    have hm2:(m:Int)<((m+1:Nat):Int):=by omega
    have ff:=Bk.free KG.out (m*2+1)
    have HLL:=Lib.hid (And.intro hl (And.intro hls hlm))
    clear hsub hJ hl hls hlm g1 z1 hm0
    by_cases hc:lo≤l.2+1
    ·have HE:=Lib.hid (show fD J (lo,hi')=J.dropLast++[(l.1,max l.2 hi')] from by unfold fD; rw [HLL.out.1]; dsimp only; rw [if_pos hc])
     go_wp2_with fail
     go_quiet (fail)
     have RS:=Lib.hid (WG (w5:=w4.drewN nq) II.out ⟨T4.out.os,T4.out.tape,T4.out.output,T4.out.size,T4.out.block⟩ KG.out KF.out.2.1 KF.out.2.2.1 KF.out.2.2.2 NX.out HLL.out.1 HE.out hmi HC.out.1)
     have u1':(w4.drewN nq).cell? ⟨g,m*2+1,none⟩=some (.int .i32 l.2):=u1
     have v1':(w4.drewN nq).cell? ⟨wr.heap.size,1,none⟩=some (.int .i32 hi'):=v1
     have ff':(w4.drewN nq).frozen? ⟨g,m*2+1,none⟩=false:=ff
     generalize w4.drewN nq=w5 at RS u1' v1' ff' ⊢
     clear v0 v1 c0 c1 hw4 KG T4 u1 ff
     go_wp2_with fail
     go_region
     have R2:=Lib.hid RS.out.drew
     generalize (w5.setCell ⟨g,m*2+1,none⟩ (.int .i32 (max l.2 hi'))).drew=w6 at R2 ⊢
     go_wp2
     go_roundw
     case rel=>exact ⟨i+1,m+1,by first | rfl | (congr 1; done) | (congr 1; omega),by first | rfl | (congr 1; omega),by omega,by omega,Lib.hid ⟨fD J (lo,hi'),R2.out⟩⟩
     case measure=>first | (simp [intOf]; done) | (simp [intOf]; omega)
    ·have HE:=Lib.hid (show fD J (lo,hi')=J++[(lo,hi')] from by unfold fD; rw [HLL.out.1]; dsimp only; rw [if_neg hc])
     have IN:=Lib.hid (info_parts Ig)
     go_wp2_with fail
     go_quiet (fail)
     have RA:=Lib.hid (fun o=>Qo (w5:=w4.drewN nq) II.out ⟨T4.out.os,T4.out.tape,T4.out.output,T4.out.size,T4.out.block⟩ KG.out KF.out.2.1 KF.out.2.2.1 KF.out.2.2.2 NX.out HE.out hmi hlt HC.out.1 o)
     have v0':(w4.drewN nq).cell? ⟨wr.heap.size,0,none⟩=some (.int .i32 lo):=v0
     have v1':(w4.drewN nq).cell? ⟨wr.heap.size,1,none⟩=some (.int .i32 hi'):=v1
     have KG5:=Lib.hid (show Bk (w4.drewN nq) 189 g cr from KG.out)
     generalize w4.drewN nq=w5 at RA v0' v1' KG5 ⊢
     clear v0 v1 c0 c1 hw4 KG T4 u1 ff
     obtain ⟨i0,hi0',hz0,hz1,hz2⟩:=IN.out
     go_wp2_with (
      at_builtin
      refine Ij rfl _ _ 26 rfl 189 i0 2 Tryz.underlying26 hi0' hz1 g (m+1) cap cr rfl (((Below.refl w5.heap.size w5).alloc (Nat.le_refl _) _).block g KG5.out.lt |>.trans KG5.out) ⟨w5.heap.size,0,none⟩ 1 1 [.int .i32 lo,.int .i32 hi'] rfl rfl (Qn w5 _ _ _) (by intro u hu; simp at hu; rcases hu with rfl | rfl<;>rfl) (by have:=HC.out; omega) (by have:=HC.out; have:=KF.out.2.1; simp; omega) ?_)
     refine ⟨⟨i+1,m+2,by first | rfl | (congr 1; done) | (congr 1; omega),by first | rfl | (congr 1; omega),by omega,by omega,Lib.hid ⟨fD J (lo,hi'),?_⟩⟩,by first | (simp [intOf]; done) | (simp [intOf]; omega)⟩
     have:=RA.out (.cells #[.int .i32 lo,.int .i32 hi'] 189)
     simpa using this
  ·obtain rfl:i=n:=by omega
   have CP:=Lib.hid (Ew (some ⟨g,0,none⟩) m cap wr (by have:=HC.out; omega) (fun e=>by cases e))
   have R:=Lib.hid (show ∃J,Cq w wr s J (some ⟨g,0,none⟩) m m from by
    obtain ⟨J,I⟩:=I.out
    obtain ⟨cr,k1,k2,k3,_⟩:=I.row
    obtain ⟨h,hr,_⟩:=I.jnd.ris
    refine ⟨J,⟨⟨by rw [←k3,List.length_take,Array.length_toList,k2]; have:=HC.out; omega,fun hm=>⟨g,0,rfl,k1.lt,fun j u hu=> ?_⟩⟩,fun b off e _=> ?_,Nat.le_refl _,?_,?_,hr.ok,?_,hr.rise,B1.out.trans (I.aO.toBelow B1.out.size (fun k hk e=>by have:=HG.out; omega))⟩⟩
    ·rw [←k3,List.getElem?_take] at hu
     split at hu
     ·rw [Nat.zero_add,Bk.get k1]; simpa using hu
     ·cases hu
    ·injection e with e
     injection e with e
     have:=HG.out
     omega
    ·rw [HL.out,←I.len]; exact I.jnd.len
    ·intro r
     rw [I.jnd.any,List.take_of_length_le (by rw [FD.out.1]; exact Nat.le_refl _),FD.out.2.2.1]
    ·rw [I.jnd.empty,List.take_of_length_le (by rw [FD.out.1]; exact Nat.le_refl _)]
     have h1:=FD.out.1
     have h2:=HL.out
     cases D<;>cases s<;>simp at h1 h2 ⊢ <;> omega)
   clear I
   go_wp2_with fail
   refine CP.out.mono ?_
   rintro e w' ⟨rfl,rfl⟩
   go_wp2_with fail
   go_ret
   obtain ⟨J,hJ⟩:=R.out
   exact ⟨J,_,_,_,rfl,hJ⟩
theorem Kg (A:Option Addr) (c:Nat) (w:World) (hq:Sq w w.heap.size 2 0 A (aN [])) :
  Calls Tryz.prog 96 #[.slice A 0 c] w fun e w'=>∃s2 A' n' c',e=.returned (.slice A' n' c')∧Cq w w' [] s2 A' n' c':=by
 have CL:=Lib.hid (xE (c:=c) w hq (by intro u hu; simp [aN] at hu) (Nat.zero_le _))
 have SN:=Lib.hid (fun p cap fv W=>show Calls Tryz.prog 137 #[.slice p 0 cap,fv] W fun e w'=>e=.returned (.tuple #[])∧w'=W from AnyF.slices_SortFunc_none Tryz.sortR p cap fv W)
 clear hq
 go_enter Tryz.func96,Tryz.ntmps96
 go_wp2_with fail
 refine CL.out.mono ?_
 rintro e w1 ⟨A1,cap,rfl,o1,b1⟩
 have hA:A1=none→cap=0:=by
  intro e
  subst e
  rcases o1.2 with ⟨h1,_⟩ | ⟨g,cp,cur,h1,_⟩
  ·injection h1
  ·injection h1 with h1
   cases h1
 have CP:=Lib.hid (Ew A1 0 cap w1 (Nat.zero_le _) (fun _=>rfl))
 have R:=Lib.hid (show Cq w w1 [] [] A1 0 0 from ⟨⟨rfl,fun h=>absurd h (Nat.lt_irrefl 0)⟩,fun _ _ _ h=>absurd h (Nat.lt_irrefl 0),Nat.le_refl _,Nat.zero_le _,fun _=>rfl,rfl,rfl,trivial,b1⟩)
 clear o1 b1 CL
 go_wp2_with fail
 refine (SN.out _ _ _ _).mono ?_
 rintro e w2 ⟨rfl,rfl⟩
 cases A1 with
 | none =>
  obtain rfl:=hA rfl
  go_wp2_with fail
  go_loopw [16,4] (fun y s4 wr=>y=.int .i64 0∧s4=.slice none 0 0∧wr=w2) (fun _ _ _=>0)
  case atStart=>exact ⟨rfl,rfl,rfl⟩
  case round =>
   obtain ⟨rfl,rfl,rfl⟩:=hrel
   go_wp2_with fail
   refine CP.out.mono ?_
   rintro e w' ⟨rfl,rfl⟩
   go_wp2_with fail
   go_ret
   exact ⟨[],_,_,_,rfl,R.out⟩
 | some ad =>
  go_wp2_with fail
  go_loopw [16,4] (fun y s4 wr=>y=.int .i64 0∧s4=.slice (some ad) 0 cap∧wr=w2) (fun _ _ _=>0)
  case atStart=>exact ⟨rfl,rfl,rfl⟩
  case round =>
   obtain ⟨rfl,rfl,rfl⟩:=hrel
   go_wp2_with fail
   refine CP.out.mono ?_
   rintro e w' ⟨rfl,rfl⟩
   go_wp2_with fail
   go_ret
   exact ⟨[],_,_,_,rfl,R.out⟩
theorem JC (A:Option Addr) (n c:Nat) (s:Sg) (w:World) (hq:Sq w w.heap.size 2 n A (aN s)) (hok:bK s=true) (hn:n≤17592186044416) :
  Calls Tryz.prog 96 #[.slice A n c] w fun e w'=>∃s2 A' n' c',e=.returned (.slice A' n' c')∧Cq w w' s s2 A' n' c':=by
 by_cases h0:n=0
 ·subst h0
  have hs:s=[]:=List.length_eq_zero_iff.1 (mQ hq)
  subst hs
  exact Kg A c w hq
 ·exact Ke A n c s w hq hok hn (by omega)
end NF
