import Derived.Test.YteemnmalikomgaaGreatDoorQSwBase6
import Derived.Test.YteemnmalikomgaaGreatDoorQSwBase1
import Derived.Laws.AppendOwnNone
import Derived.Deep.LoopGhost
import Derived.Deep.RegionLaw
set_option maxRecDepth 100000
set_option maxHeartbeats 3200000
namespace Go.Proofs.YteemnmalikomgaaGreatDoor
open Go.ChangeShapes Go.WideShapes Go.ChangeAt Go.RowKit
namespace NF
def dA (p:Nat) (ok:Nat→Prop) (t:Nd) (r':PR) (w:World) (e:Ending) (w':World):Prop:=∃x:Nv,e=.returned x.v∧gq w' (fun b=>ok b∨w.heap.size≤b) t x∧aT w' p r'∧ak (· = p) w w'
theorem lU {p rb:Nat} {ok okr:Nat→Prop} {t:Nd} {r':PR} {w wr:World} {y:Nv} (hrd:aT wr p r') (ht:ak (· = p) w wr) (hy:gq wr okr t y) (hok:∀b,okr b→b<wr.heap.size→(ok b∨w.heap.size≤b)∧b≠rb) (hrb:w.heap.size≤rb) (hp:p<w.heap.size) :
  dA p ok t r' w (.returned y.v) (aA wr rb 0 y):=by
 have t1:=dK wr rb 0 y
 exact ⟨y,rfl,iO (fun b h _=>h) (gH t1 (fun b h _ e=>h.2 e) (iO (ok':=fun b=>(ok b∨w.heap.size≤b)∧b≠rb) hok hy)) |> iO (fun b h _=>h.1),AY hrd t1 (by omega),uX ht t1 hrb⟩
structure Env (p pb rb:Nat) (x:Nv) (w w':World) (r:PR):Prop where
 rd:aT w' p r
 aO:ak (· = p) w w'
 kb:aR w' pb x
 kr:aR w' rb zeroV
 lt:p<w.heap.size∧w.heap.size≤pb∧w.heap.size≤rb
theorem Env.step {p pb rb:Nat} {x:Nv} {w w' w2:World} {r r2:PR} (h:Env p pb rb x w w' r) (h2:aT w2 p r2) (t2:ak (· = p) w' w2):Env p pb rb x w w2 r2:=by
 have:=h.lt
 exact ⟨h2,h.aO.more t2,t2.bk h.kb (by omega),t2.bk h.kr (by omega),this⟩
theorem Env.below {p pb rb:Nat} {x:Nv} {w w' w2:World} {r:PR} (h:Env p pb rb x w w' r) (hb:Below w'.heap.size w' w2):Env p pb rb x w w2 r :=
 h.step (h.rd.turned (ak.aH hb fun _=>False) fun _ _ x=>x) (ak.aH hb _)
theorem Ka {w:World} {p:Nat} {r:PR} (h:aT w p r):Runes (bq r).2.left:=by
 unfold bq
 dsimp only
 split
 ·intro x hx; cases hx
 ·unfold PR.next
  cases e:r.left with
  | nil=>intro x hx; cases hx
  | cons s l=>exact fun x hx=>h.signs x (by rw [e]; exact List.mem_cons_of_mem _ hx)
theorem Ni {a:Int} {r:PR} (hr:Runes r.left) (ha : -9223372036854775808≤a∧a≤9223372036854775807) : -9223372036854775808≤(eB a r).1∧(eB a r).1≤9223372036854775807:=by
 unfold eB
 split
 ·split
  ·exact ⟨(by decide:(-9223372036854775808:Int)≤ -1),(by decide:(-1:Int)≤9223372036854775807)⟩
  ·have hd : -2147483648≤r.tail.next.1∧r.tail.next.1≤2147483647:=by
    unfold PR.next PR.tail
    cases e:r.left.tail with
    | nil=>exact ⟨(by decide:(-2147483648:Int)≤0),(by decide:(0:Int)≤2147483647)⟩
    | cons s l=>exact AR hr s (by rw [e]; exact List.mem_cons_self)
   unfold bq
   dsimp only
   split<;>(dsimp only; omega)
 ·exact ha
theorem bounds_i64 {w:World} {p:Nat} {r:PR} (h:aT w p r):(-9223372036854775808≤(bV r).1.1∧(bV r).1.1≤9223372036854775807)∧ -9223372036854775808≤(bV r).1.2∧(bV r).1.2≤9223372036854775807:=by
 have h1:=Qe h
 have h2:=Ni (r:=(bq r).2) (Ka h) h1
 unfold bV
 dsimp only
 split<;>exact ⟨h1,h2⟩
theorem su (p:Nat) (r:PR) (t:Nd) (x:Nv) (ok:Nat→Prop) (w:World) (h:aT w p r) (hx:gq w ok t x) (hok:∀b,ok b→b<w.heap.size∧b≠p) :
  Calls Tryz.prog 174 #[.pointer (some ⟨p,0,none⟩),x.v] w fun e w'=>dA p ok (iW t r).1 (iW t r).2 w e w':=by
 obtain ⟨k,A,n,c,nt,A2,n2,c2,mn,mx⟩:=x
 obtain ⟨w1,hw1,k1,b1,z1⟩:=dL w k A n c nt A2 n2 c2 mn mx
 obtain ⟨w2,hw2,k2,b2,z2⟩:=dL w1 0 none 0 0 false none 0 0 0 0
 obtain ⟨RB,hRB⟩:∃b,w1.heap.size=b:=⟨_,rfl⟩
 have hRW:RB=w.heap.size+1:=by omega
 rw [hRB,hRW] at k2
 have E2:=Lib.hid (show Env p w.heap.size (w.heap.size+1) ⟨k,A,n,c,nt,A2,n2,c2,mn,mx⟩ w w2 r from by
  have hb:Below w.heap.size w w2:=b1.trans (b2.mono (by omega))
  exact ⟨h.turned (ak.aH hb fun _=>False) (fun _ _ x=>x),ak.aH hb _,k1.below b2 (by omega),k2,h.lt,Nat.le_refl _,by omega⟩)
 have HX:=Lib.hid (fun (wx:World) (hb:ak (· = p) w wx)=>gH (M:=(· = p)) hb (fun b hb' _ e=>(hok b hb').2 e) hx)
 have HOK:=Lib.hid hok
 have HB:=Lib.hid hRW
 have HS:=Lib.hid hRB
 dsimp only [Nv.v]
 unfold iW
 clear hx hok h k1 k2 b1 b2 hRB
 cases n42:r.sees 42 with
 | true =>
  rw [if_pos rfl]
  go_enter Tryz.func174,Tryz.ntmps174
  have TW:=Lib.hid (iP E2.out.rd (s:=42) n42)
  go_wp2_with fail
  refine TW.out.mono ?_
  rintro e w3 ⟨rfl,h3,t3⟩
  have E3:=Lib.hid (E2.out.step h3 t3)
  clear h3 t3 TW
  have TT:=Lib.hid (oO t ⟨k,A,n,c,nt,A2,n2,c2,mn,mx⟩ ok 0 (-1) w3 (HX.out _ E3.out.aO) ⟨by decide,by decide⟩ ⟨by decide,by decide⟩)
  obtain ⟨y0,y1,y2,y3,y4,y5⟩:=aB E3.out.kb
  dsimp only [Nv.v] at TT
  go_wp2_with fail
  refine TT.out.mono ?_
  rintro e w4 ⟨y,rfl,hy,hb⟩
  obtain ⟨k',A',n',c',nt',A2',n2',c2',mn',mx'⟩:=y
  have E4:=Lib.hid (E3.out.below hb)
  have M:=Lib.hid (show dA p ok (fH t 0 (-1)) r.tail w (.returned (Nv.v ⟨k',A',n',c',nt',A2',n2',c2',mn',mx'⟩)) (aA w4 (w.heap.size+1) 0 ⟨k',A',n',c',nt',A2',n2',c2',mn',mx'⟩) from
   lU E4.out.rd E4.out.aO hy (fun b h hlt=>by
    have h1:=E3.out.kr.lt
    have h2:=E3.out.aO.size
    rcases h with h | h
    ·have:=HOK.out b h; exact ⟨.inl h,by have:=HB.out; omega⟩
    ·exact ⟨.inr (by omega),by omega⟩) E4.out.lt.2.2 E4.out.lt.1)
  obtain ⟨⟨m0,o0⟩,⟨m1,o1⟩,⟨m2,o2⟩,⟨m3,o3⟩,⟨m4,o4⟩,⟨m5,o5⟩,f0,f1,f2,f3,f4,f5⟩:=bE (o:=0) E4.out.kr (by simp)
  clear hy hb TT y0 y1 y2 y3 y4 y5
  dsimp only [Nv.v]
  go_wp2_with fail
  have PN:=aQ E4.out.kr ⟨k',A',n',c',nt',A2',n2',c2',mn',mx'⟩
  change bodyPost _ _ _ _ _ (aA w4 (w.heap.size+1) 0 ⟨k',A',n',c',nt',A2',n2',c2',mn',mx'⟩)
  generalize aA w4 (w.heap.size+1) 0 ⟨k',A',n',c',nt',A2',n2',c2',mn',mx'⟩=W at PN M ⊢
  obtain ⟨p0,p1,p2,p3,p4,p5⟩:=aB PN
  exact bodyPost_ret (by simp [results,Tryz.results174,go_sem,p0,p1,p2,p3,p4,p5]<;>rfl) rfl M.out
 | false =>
  cases n43:r.sees 43 with
  | true =>
   rw [if_neg (show ¬(false=true) by decide)]
   rw [if_pos rfl]
   go_enter Tryz.func174,Tryz.ntmps174
   have TW:=Lib.hid (eO E2.out.rd (s:=42) n42)
   go_wp2_with fail
   refine TW.out.mono ?_
   rintro e w3 ⟨rfl,h3,t3⟩
   have E3:=Lib.hid (E2.out.step h3 t3)
   clear h3 t3 TW
   have TW:=Lib.hid (iP E3.out.rd (s:=43) n43)
   go_wp2_with fail
   refine TW.out.mono ?_
   rintro e w4 ⟨rfl,h4,t4⟩
   have E4:=Lib.hid (E3.out.step h4 t4)
   clear h4 t4 TW
   have TT:=Lib.hid (oO t ⟨k,A,n,c,nt,A2,n2,c2,mn,mx⟩ ok 1 (-1) w4 (HX.out _ E4.out.aO) ⟨by decide,by decide⟩ ⟨by decide,by decide⟩)
   obtain ⟨y0,y1,y2,y3,y4,y5⟩:=aB E4.out.kb
   dsimp only [Nv.v] at TT
   go_wp2_with fail
   refine TT.out.mono ?_
   rintro e w5 ⟨y,rfl,hy,hb⟩
   obtain ⟨k',A',n',c',nt',A2',n2',c2',mn',mx'⟩:=y
   have E5:=Lib.hid (E4.out.below hb)
   have M:=Lib.hid (show dA p ok (fH t 1 (-1)) r.tail w (.returned (Nv.v ⟨k',A',n',c',nt',A2',n2',c2',mn',mx'⟩)) (aA w5 (w.heap.size+1) 0 ⟨k',A',n',c',nt',A2',n2',c2',mn',mx'⟩) from
    lU E5.out.rd E5.out.aO hy (fun b h hlt=>by
     have h1:=E4.out.kr.lt
     have h2:=E4.out.aO.size
     rcases h with h | h
     ·have:=HOK.out b h; exact ⟨.inl h,by have:=HB.out; omega⟩
     ·exact ⟨.inr (by omega),by omega⟩) E5.out.lt.2.2 E5.out.lt.1)
   obtain ⟨⟨m0,o0⟩,⟨m1,o1⟩,⟨m2,o2⟩,⟨m3,o3⟩,⟨m4,o4⟩,⟨m5,o5⟩,f0,f1,f2,f3,f4,f5⟩:=bE (o:=0) E5.out.kr (by simp)
   clear hy hb TT y0 y1 y2 y3 y4 y5
   dsimp only [Nv.v]
   go_wp2_with fail
   have PN:=aQ E5.out.kr ⟨k',A',n',c',nt',A2',n2',c2',mn',mx'⟩
   change bodyPost _ _ _ _ _ (aA w5 (w.heap.size+1) 0 ⟨k',A',n',c',nt',A2',n2',c2',mn',mx'⟩)
   generalize aA w5 (w.heap.size+1) 0 ⟨k',A',n',c',nt',A2',n2',c2',mn',mx'⟩=W at PN M ⊢
   obtain ⟨p0,p1,p2,p3,p4,p5⟩:=aB PN
   exact bodyPost_ret (by simp [results,Tryz.results174,go_sem,p0,p1,p2,p3,p4,p5]<;>rfl) rfl M.out
  | false =>
   cases n63:r.sees 63 with
   | true =>
    rw [if_neg (show ¬(false=true) by decide)]
    rw [if_neg (show ¬(false=true) by decide)]
    rw [if_pos rfl]
    go_enter Tryz.func174,Tryz.ntmps174
    have TW:=Lib.hid (eO E2.out.rd (s:=42) n42)
    go_wp2_with fail
    refine TW.out.mono ?_
    rintro e w3 ⟨rfl,h3,t3⟩
    have E3:=Lib.hid (E2.out.step h3 t3)
    clear h3 t3 TW
    have TW:=Lib.hid (eO E3.out.rd (s:=43) n43)
    go_wp2_with fail
    refine TW.out.mono ?_
    rintro e w4 ⟨rfl,h4,t4⟩
    have E4:=Lib.hid (E3.out.step h4 t4)
    clear h4 t4 TW
    have TW:=Lib.hid (iP E4.out.rd (s:=63) n63)
    go_wp2_with fail
    refine TW.out.mono ?_
    rintro e w5 ⟨rfl,h5,t5⟩
    have E5:=Lib.hid (E4.out.step h5 t5)
    clear h5 t5 TW
    have TT:=Lib.hid (oO t ⟨k,A,n,c,nt,A2,n2,c2,mn,mx⟩ ok 0 1 w5 (HX.out _ E5.out.aO) ⟨by decide,by decide⟩ ⟨by decide,by decide⟩)
    obtain ⟨y0,y1,y2,y3,y4,y5⟩:=aB E5.out.kb
    dsimp only [Nv.v] at TT
    go_wp2_with fail
    refine TT.out.mono ?_
    rintro e w6 ⟨y,rfl,hy,hb⟩
    obtain ⟨k',A',n',c',nt',A2',n2',c2',mn',mx'⟩:=y
    have E6:=Lib.hid (E5.out.below hb)
    have M:=Lib.hid (show dA p ok (fH t 0 1) r.tail w (.returned (Nv.v ⟨k',A',n',c',nt',A2',n2',c2',mn',mx'⟩)) (aA w6 (w.heap.size+1) 0 ⟨k',A',n',c',nt',A2',n2',c2',mn',mx'⟩) from
     lU E6.out.rd E6.out.aO hy (fun b h hlt=>by
      have h1:=E5.out.kr.lt
      have h2:=E5.out.aO.size
      rcases h with h | h
      ·have:=HOK.out b h; exact ⟨.inl h,by have:=HB.out; omega⟩
      ·exact ⟨.inr (by omega),by omega⟩) E6.out.lt.2.2 E6.out.lt.1)
    obtain ⟨⟨m0,o0⟩,⟨m1,o1⟩,⟨m2,o2⟩,⟨m3,o3⟩,⟨m4,o4⟩,⟨m5,o5⟩,f0,f1,f2,f3,f4,f5⟩:=bE (o:=0) E6.out.kr (by simp)
    clear hy hb TT y0 y1 y2 y3 y4 y5
    dsimp only [Nv.v]
    go_wp2_with fail
    have PN:=aQ E6.out.kr ⟨k',A',n',c',nt',A2',n2',c2',mn',mx'⟩
    change bodyPost _ _ _ _ _ (aA w6 (w.heap.size+1) 0 ⟨k',A',n',c',nt',A2',n2',c2',mn',mx'⟩)
    generalize aA w6 (w.heap.size+1) 0 ⟨k',A',n',c',nt',A2',n2',c2',mn',mx'⟩=W at PN M ⊢
    obtain ⟨p0,p1,p2,p3,p4,p5⟩:=aB PN
    exact bodyPost_ret (by simp [results,Tryz.results174,go_sem,p0,p1,p2,p3,p4,p5]<;>rfl) rfl M.out
   | false =>
    cases n123:r.sees 123 with
    | true =>
     rw [if_neg (show ¬(false=true) by decide)]
     rw [if_neg (show ¬(false=true) by decide)]
     rw [if_neg (show ¬(false=true) by decide)]
     rw [if_pos rfl]
     obtain ⟨a,ha⟩:∃a,(bV r.tail).1.1=a:=⟨_,rfl⟩
     obtain ⟨b,hb⟩:∃b,(bV r.tail).1.2=b:=⟨_,rfl⟩
     obtain ⟨r2,hr2⟩:∃r2,(bV r.tail).2=r2:=⟨_,rfl⟩
     rw [ha,hb,hr2]
     have BW:=Lib.hid (show ∀wx,aT wx p r.tail→Calls Tryz.prog 212 #[.pointer (some ⟨p,0,none⟩)] wx fun e w'=>fJ p (kC a b) r2 wx e w' from fun wx h=>by have:=JZ p r.tail wx h; rw [ha,hb,hr2] at this; exact this)
     have BI:=Lib.hid (show ∀wx,aT wx p r.tail→(-9223372036854775808≤a∧a≤9223372036854775807)∧ -9223372036854775808≤b∧b≤9223372036854775807 from fun wx h=>by have:=bounds_i64 h; rw [ha,hb] at this; exact this)
     clear ha hb hr2
     go_enter Tryz.func174,Tryz.ntmps174
     have TW:=Lib.hid (eO E2.out.rd (s:=42) n42)
     go_wp2_with fail
     refine TW.out.mono ?_
     rintro e w3 ⟨rfl,h3,t3⟩
     have E3:=Lib.hid (E2.out.step h3 t3)
     clear h3 t3 TW
     have TW:=Lib.hid (eO E3.out.rd (s:=43) n43)
     go_wp2_with fail
     refine TW.out.mono ?_
     rintro e w4 ⟨rfl,h4,t4⟩
     have E4:=Lib.hid (E3.out.step h4 t4)
     clear h4 t4 TW
     have TW:=Lib.hid (eO E4.out.rd (s:=63) n63)
     go_wp2_with fail
     refine TW.out.mono ?_
     rintro e w5 ⟨rfl,h5,t5⟩
     have E5:=Lib.hid (E4.out.step h5 t5)
     clear h5 t5 TW
     have TW:=Lib.hid (iP E5.out.rd (s:=123) n123)
     go_wp2_with fail
     refine TW.out.mono ?_
     rintro e w6 ⟨rfl,h6,t6⟩
     have E6:=Lib.hid (E5.out.step h6 t6)
     clear h6 t6 TW
     have BX:=Lib.hid (BW.out _ E6.out.rd)
     obtain ⟨IA,IB⟩:=BI.out _ E6.out.rd
     unfold kC at BX
     go_wp2_with fail
     refine BX.out.mono ?_
     rintro e w7 ⟨rfl,h7,t7⟩
     have E7:=Lib.hid (E6.out.step h7 t7)
     clear h7 t7 BX
     have TT:=Lib.hid (oO t ⟨k,A,n,c,nt,A2,n2,c2,mn,mx⟩ ok a b w7 (HX.out _ E7.out.aO) IA IB)
     obtain ⟨y0,y1,y2,y3,y4,y5⟩:=aB E7.out.kb
     dsimp only [Nv.v] at TT
     go_wp2_with fail
     refine TT.out.mono ?_
     rintro e w8 ⟨y,rfl,hy,hb⟩
     obtain ⟨k',A',n',c',nt',A2',n2',c2',mn',mx'⟩:=y
     have E8:=Lib.hid (E7.out.below hb)
     have M:=Lib.hid (show dA p ok (fH t a b) r2 w (.returned (Nv.v ⟨k',A',n',c',nt',A2',n2',c2',mn',mx'⟩)) (aA w8 (w.heap.size+1) 0 ⟨k',A',n',c',nt',A2',n2',c2',mn',mx'⟩) from
      lU E8.out.rd E8.out.aO hy (fun b h hlt=>by
       have h1:=E7.out.kr.lt
       have h2:=E7.out.aO.size
       rcases h with h | h
       ·have:=HOK.out b h; exact ⟨.inl h,by have:=HB.out; omega⟩
       ·exact ⟨.inr (by omega),by omega⟩) E8.out.lt.2.2 E8.out.lt.1)
     obtain ⟨⟨m0,o0⟩,⟨m1,o1⟩,⟨m2,o2⟩,⟨m3,o3⟩,⟨m4,o4⟩,⟨m5,o5⟩,f0,f1,f2,f3,f4,f5⟩:=bE (o:=0) E8.out.kr (by simp)
     clear hy hb TT y0 y1 y2 y3 y4 y5
     dsimp only [Nv.v]
     go_wp2_with fail
     have PN:=aQ E8.out.kr ⟨k',A',n',c',nt',A2',n2',c2',mn',mx'⟩
     change bodyPost _ _ _ _ _ (aA w8 (w.heap.size+1) 0 ⟨k',A',n',c',nt',A2',n2',c2',mn',mx'⟩)
     generalize aA w8 (w.heap.size+1) 0 ⟨k',A',n',c',nt',A2',n2',c2',mn',mx'⟩=W at PN M ⊢
     obtain ⟨p0,p1,p2,p3,p4,p5⟩:=aB PN
     exact bodyPost_ret (by simp [results,Tryz.results174,go_sem,p0,p1,p2,p3,p4,p5]<;>rfl) rfl M.out
    | false =>
     rw [if_neg (show ¬(false=true) by decide)]
     rw [if_neg (show ¬(false=true) by decide)]
     rw [if_neg (show ¬(false=true) by decide)]
     rw [if_neg (show ¬(false=true) by decide)]
     go_enter Tryz.func174,Tryz.ntmps174
     have TW:=Lib.hid (eO E2.out.rd (s:=42) n42)
     go_wp2_with fail
     refine TW.out.mono ?_
     rintro e w3 ⟨rfl,h3,t3⟩
     have E3:=Lib.hid (E2.out.step h3 t3)
     clear h3 t3 TW
     have TW:=Lib.hid (eO E3.out.rd (s:=43) n43)
     go_wp2_with fail
     refine TW.out.mono ?_
     rintro e w4 ⟨rfl,h4,t4⟩
     have E4:=Lib.hid (E3.out.step h4 t4)
     clear h4 t4 TW
     have TW:=Lib.hid (eO E4.out.rd (s:=63) n63)
     go_wp2_with fail
     refine TW.out.mono ?_
     rintro e w5 ⟨rfl,h5,t5⟩
     have E5:=Lib.hid (E4.out.step h5 t5)
     clear h5 t5 TW
     have TW:=Lib.hid (eO E5.out.rd (s:=123) n123)
     go_wp2_with fail
     refine TW.out.mono ?_
     rintro e w6 ⟨rfl,h6,t6⟩
     have E6:=Lib.hid (E5.out.step h6 t6)
     clear h6 t6 TW
     obtain ⟨y0,y1,y2,y3,y4,y5⟩:=aB E6.out.kb
     have M:=Lib.hid (show dA p ok t r w (.returned (Nv.v ⟨k,A,n,c,nt,A2,n2,c2,mn,mx⟩)) (aA w6 (w.heap.size+1) 0 ⟨k,A,n,c,nt,A2,n2,c2,mn,mx⟩) from
      lU E6.out.rd E6.out.aO (HX.out _ E6.out.aO) (fun b h hlt=>⟨.inl h,by have:=HOK.out b h; have:=HB.out; omega⟩) E6.out.lt.2.2 E6.out.lt.1)
     obtain ⟨⟨m0,o0⟩,⟨m1,o1⟩,⟨m2,o2⟩,⟨m3,o3⟩,⟨m4,o4⟩,⟨m5,o5⟩,f0,f1,f2,f3,f4,f5⟩:=bE (o:=0) E6.out.kr (by simp)
     dsimp only [Nv.v]
     go_wp2_with fail
     have PN:=aQ E6.out.kr ⟨k,A,n,c,nt,A2,n2,c2,mn,mx⟩
     change bodyPost _ _ _ _ _ (aA w6 (w.heap.size+1) 0 ⟨k,A,n,c,nt,A2,n2,c2,mn,mx⟩)
     generalize aA w6 (w.heap.size+1) 0 ⟨k,A,n,c,nt,A2,n2,c2,mn,mx⟩=W at PN M ⊢
     obtain ⟨p0,p1,p2,p3,p4,p5⟩:=aB PN
     exact bodyPost_ret (by simp [results,Tryz.results174,go_sem,p0,p1,p2,p3,p4,p5]<;>rfl) rfl M.out
end NF
namespace NF
def pX (f:FuncId) (p:Nat) (g:PR→Nd×PR) (m:Nat):Prop :=
 ∀(r:PR) (w:World),aT w p r→r.left.length<m→Calls Tryz.prog f #[.pointer (some ⟨p,0,none⟩)] w fun e w'=>dA p (fun _=>False) (g r).1 (g r).2 w e w'
structure kN (p rb:Nat) (w w':World) (r:PR):Prop where
 rd:aT w' p r
 aO:ak (· = p) w w'
 kr:aR w' rb zeroV
 lt:p<w.heap.size∧w.heap.size≤rb
theorem kN.step {p rb:Nat} {w w' w2:World} {r r2:PR} (h:kN p rb w w' r) (h2:aT w2 p r2) (t2:ak (· = p) w' w2):kN p rb w w2 r2:=by
 have:=h.lt
 exact ⟨h2,h.aO.more t2,t2.bk h.kr (by omega),this⟩
theorem kN.below {p rb:Nat} {w w' w2:World} {r:PR} (h:kN p rb w w' r) (hb:Below w'.heap.size w' w2):kN p rb w w2 r :=
 h.step (h.rd.turned (ak.aH hb fun _=>False) fun _ _ x=>x) (ak.aH hb _)
theorem pY {p:Nat} {w:World} {r:PR} (h:aT w p r):∃w1,w.alloc (.cells #[.int .i64 0,.slice none 0 0,.bool false,.slice none 0 0,.int .i64 0,.int .i64 0] 29)=w1∧kN p w.heap.size w w1 r:=by
 obtain ⟨w1,hw1,k1,b1,z1⟩:=dL w 0 none 0 0 false none 0 0 0 0
 exact ⟨w1,hw1,h.turned (ak.aH b1 fun _=>False) (fun _ _ x=>x),ak.aH b1 _,k1,h.lt,Nat.le_refl _⟩
theorem kN.done {p rb:Nat} {w w':World} {r:PR} (h:kN p rb w w' r) {okr:Nat→Prop} {t:Nd} {y:Nv} (hy:gq w' okr t y) (hok:∀b,okr b→b<w'.heap.size→w.heap.size≤b∧b≠rb):dA p (fun _=>False) t r w (.returned y.v) (aA w' rb 0 y) :=
 lU h.rd h.aO hy (fun b h1 h2=>⟨.inr (hok b h1 h2).1,(hok b h1 h2).2⟩) h.lt.2 h.lt.1
theorem dA.out {p:Nat} {t:Nd} {r':PR} {w:World} {e:Ending} {w':World} (h:dA p (fun _=>False) t r' w e w'):∃x:Nv,e=.returned x.v∧gq w' (fun b=>w.heap.size≤b∧b<w'.heap.size) t x∧aT w' p r'∧ak (· = p) w w':=by
 obtain ⟨x,e,h1,h2,h3⟩:=h
 exact ⟨x,e,iO (fun b hb hlt=>⟨hb.elim False.elim id,hlt⟩) h1,h2,h3⟩
theorem AZ {p m:Nat} {g:PR→Nd×PR} (AT:pX 175 p g m):pX 133 p (fq g) m:=by
 intro r w h hm
 obtain ⟨w1,hw1,e1⟩:=pY h
 have E1:=Lib.hid e1
 have AW:=Lib.hid (fun (wx:World) (hx:aT wx p r)=>AT r wx hx hm)
 unfold fq
 clear e1 h AT hm
 cases n94:r.sees 94 with
 | true =>
  rw [if_pos rfl]
  go_enter Tryz.func133,Tryz.ntmps133
  have TW:=Lib.hid (iP E1.out.rd (s:=94) n94)
  go_wp2_with fail
  refine TW.out.mono ?_
  rintro e w2 ⟨rfl,h2,t2⟩
  have E2:=Lib.hid (E1.out.step h2 t2)
  clear h2 t2 TW
  have M:=Lib.hid (show dA p (fun _=>False) (.mk 6 [] false [] 0 0) r.tail w (.returned (Nv.v ⟨6,none,0,0,false,none,0,0,0,0⟩)) (aA w2 w.heap.size 0 ⟨6,none,0,0,false,none,0,0,0,0⟩) from E2.out.done (qW _ (fun _=>False) 6 false 0 0 ⟨⟨(by decide:(-9223372036854775808:Int)≤0),(by decide:(0:Int)≤9223372036854775807)⟩,(by decide:(-9223372036854775808:Int)≤0),(by decide:(0:Int)≤9223372036854775807)⟩) (fun b h=>h.elim))
  obtain ⟨⟨m0,o0⟩,⟨m1,o1⟩,⟨m2,o2⟩,⟨m3,o3⟩,⟨m4,o4⟩,⟨m5,o5⟩,f0,f1,f2,f3,f4,f5⟩:=bE (o:=0) E2.out.kr (by simp)
  go_wp2_with fail
  have PN:=aQ E2.out.kr ⟨6,none,0,0,false,none,0,0,0,0⟩
  change bodyPost _ _ _ _ _ (aA w2 w.heap.size 0 ⟨6,none,0,0,false,none,0,0,0,0⟩)
  generalize aA w2 w.heap.size 0 ⟨6,none,0,0,false,none,0,0,0,0⟩=W at PN M ⊢
  obtain ⟨p0,p1,p2,p3,p4,p5⟩:=aB PN
  exact bodyPost_ret (by simp [results,Tryz.results133,go_sem,p0,p1,p2,p3,p4,p5]<;>rfl) rfl M.out
 | false =>
  rw [if_neg (show ¬(false=true) by decide)]
  cases n36:r.sees 36 with
  | true =>
   rw [if_pos rfl]
   go_enter Tryz.func133,Tryz.ntmps133
   have TW:=Lib.hid (eO E1.out.rd (s:=94) n94)
   go_wp2_with fail
   refine TW.out.mono ?_
   rintro e w2 ⟨rfl,h2,t2⟩
   have E2:=Lib.hid (E1.out.step h2 t2)
   clear h2 t2 TW
   have TW:=Lib.hid (iP E2.out.rd (s:=36) n36)
   go_wp2_with fail
   refine TW.out.mono ?_
   rintro e w3 ⟨rfl,h3,t3⟩
   have E3:=Lib.hid (E2.out.step h3 t3)
   clear h3 t3 TW
   have M:=Lib.hid (show dA p (fun _=>False) (.mk 7 [] false [] 0 0) r.tail w (.returned (Nv.v ⟨7,none,0,0,false,none,0,0,0,0⟩)) (aA w3 w.heap.size 0 ⟨7,none,0,0,false,none,0,0,0,0⟩) from E3.out.done (qW _ (fun _=>False) 7 false 0 0 ⟨⟨(by decide:(-9223372036854775808:Int)≤0),(by decide:(0:Int)≤9223372036854775807)⟩,(by decide:(-9223372036854775808:Int)≤0),(by decide:(0:Int)≤9223372036854775807)⟩) (fun b h=>h.elim))
   obtain ⟨⟨m0,o0⟩,⟨m1,o1⟩,⟨m2,o2⟩,⟨m3,o3⟩,⟨m4,o4⟩,⟨m5,o5⟩,f0,f1,f2,f3,f4,f5⟩:=bE (o:=0) E3.out.kr (by simp)
   go_wp2_with fail
   have PN:=aQ E3.out.kr ⟨7,none,0,0,false,none,0,0,0,0⟩
   change bodyPost _ _ _ _ _ (aA w3 w.heap.size 0 ⟨7,none,0,0,false,none,0,0,0,0⟩)
   generalize aA w3 w.heap.size 0 ⟨7,none,0,0,false,none,0,0,0,0⟩=W at PN M ⊢
   obtain ⟨p0,p1,p2,p3,p4,p5⟩:=aB PN
   exact bodyPost_ret (by simp [results,Tryz.results133,go_sem,p0,p1,p2,p3,p4,p5]<;>rfl) rfl M.out
  | false =>
   rw [if_neg (show ¬(false=true) by decide)]
   obtain ⟨t,ht⟩:∃t,(g r).1=t:=⟨_,rfl⟩
   obtain ⟨r1,hr1⟩:∃r1,(g r).2=r1:=⟨_,rfl⟩
   rw [ht,hr1] at AW
   rw [ht,hr1]
   clear ht hr1
   go_enter Tryz.func133,Tryz.ntmps133
   have TW:=Lib.hid (eO E1.out.rd (s:=94) n94)
   go_wp2_with fail
   refine TW.out.mono ?_
   rintro e w2 ⟨rfl,h2,t2⟩
   have E2:=Lib.hid (E1.out.step h2 t2)
   clear h2 t2 TW
   have TW:=Lib.hid (eO E2.out.rd (s:=36) n36)
   go_wp2_with fail
   refine TW.out.mono ?_
   rintro e w3 ⟨rfl,h3,t3⟩
   have E3:=Lib.hid (E2.out.step h3 t3)
   clear h3 t3 TW
   have AX:=Lib.hid (AW.out _ E3.out.rd)
   go_wp2_with fail
   refine AX.out.mono ?_
   intro e w4 hn
   obtain ⟨x,rfl,hx,h4,t4⟩:=hn.out
   have E4:=Lib.hid (E3.out.step h4 t4)
   have RW:=Lib.hid (su p r1 t x (fun b=>w3.heap.size≤b∧b<w4.heap.size) w4 h4 hx (fun b hb=>⟨hb.2,by have:=E3.out.rd.lt; omega⟩))
   obtain ⟨k,A,n,c,nt,A2,n2,c2,mn,mx⟩:=x
   dsimp only [Nv.v] at RW ⊢
   clear hn hx h4 t4 AX AW
   go_wp2_with fail
   refine RW.out.mono ?_
   rintro e w5 ⟨y,rfl,hy,h5,t5⟩
   have E5:=Lib.hid (E4.out.step h5 t5)
   obtain ⟨k',A',n',c',nt',A2',n2',c2',mn',mx'⟩:=y
   have M:=Lib.hid (show dA p (fun _=>False) (iW t r1).1 (iW t r1).2 w (.returned (Nv.v ⟨k',A',n',c',nt',A2',n2',c2',mn',mx'⟩)) (aA w5 w.heap.size 0 ⟨k',A',n',c',nt',A2',n2',c2',mn',mx'⟩) from E5.out.done hy (fun b hb _=>by
    have h1:=E3.out.kr.lt
    have h2:=E4.out.kr.lt
    rcases hb with hb | hb
    ·exact ⟨by omega,by omega⟩
    ·exact ⟨by omega,by omega⟩))
   clear hy h5 t5 RW
   obtain ⟨⟨m0,o0⟩,⟨m1,o1⟩,⟨m2,o2⟩,⟨m3,o3⟩,⟨m4,o4⟩,⟨m5,o5⟩,f0,f1,f2,f3,f4,f5⟩:=bE (o:=0) E5.out.kr (by simp)
   dsimp only [Nv.v]
   go_wp2_with fail
   have PN:=aQ E5.out.kr ⟨k',A',n',c',nt',A2',n2',c2',mn',mx'⟩
   change bodyPost _ _ _ _ _ (aA w5 w.heap.size 0 ⟨k',A',n',c',nt',A2',n2',c2',mn',mx'⟩)
   generalize aA w5 w.heap.size 0 ⟨k',A',n',c',nt',A2',n2',c2',mn',mx'⟩=W at PN M ⊢
   obtain ⟨p0,p1,p2,p3,p4,p5⟩:=aB PN
   exact bodyPost_ret (by simp [results,Tryz.results133,go_sem,p0,p1,p2,p3,p4,p5]<;>rfl) rfl M.out
end NF
theorem pI (b off j:Nat):(⟨b,off,none⟩:Addr).add j=⟨b,off+j,none⟩:=by unfold Addr.add; split<;>simp_all
theorem rZ {P:Program} {w:World} {base:Nat} {t ty e:TypeId} {i:TypeInfo} {size:Nat} (ht:P.underlying t=some (.slice e)) (hi:P.info? e=some i) {v:Value} {n:Nat} {xs:List Value} (hown:w.ownsRow base e size v n xs) (c:Nat) :
  (Builtin.append_ #[t,t] ty #[v,.slice none 0 c]).run P w=.ok v w:=by
 rcases hown.2 with ⟨rfl,rfl⟩ | ⟨g,cap,cur,rfl,_,_,hnc,_⟩
 ·simp [Builtin.append_,run_underlying ht,sizeOf,typeInfo,hi,Builtin.lenOf,Builtin.firstCells]
 ·simp [Builtin.append_,run_underlying ht,sizeOf,typeInfo,hi,Builtin.lenOf,Builtin.firstCells,hnc,storeCells]
theorem sV {P:Program} {w:World} {ops:Array Oper} {rest:List Oper} {o:Oper} {a:Act} {Q:Exit→Act→World→Prop} (hgd:o.guard=none) (s x:Operand) (t:TypeId)
  (ho:o.op=.call { callee:=.builtin .append,args:= #[s,x],argTypes:= #[t,t] })
  (base:Nat) (e:TypeId) (i:TypeInfo) (z:Value) (size bytes:Nat) (ht:P.underlying t=some (.slice e)) (hi:P.info? e=some i) (hz:i.zero=some z)
  (hsize:i.size=size) (hby:i.bytes=bytes) (hzs:z.cells.size=size) (hsz:0<size)
  (v:Value) (n:Nat) (xs:List Value) (hs:a.eval s=v) (hown:w.ownsRow base e size v n xs)
  (A:Option Addr) (m c:Nat) (news:List Value) (hx:a.eval x=.slice A m c) (B:Nat) (hq:Sq w B size m A news) (h1:∀u∈news,u.oneCell'=true)
  (h63:n+m≤maxLen) (hbytes:(n+m)*bytes≤140737488355328) (hbase:base≤w.heap.size)
  (h:∀v' w',w'.ownsRow base e size v' (n+m) (xs++news)→w.grownBy w' v.ownBlock→(v'.ownBlock=v.ownBlock∨v'.ownBlock=some w.heap.size)→wpList P ops Q rest (a.put o.dst v') w'):wpList P ops Q (o::rest) a w:=by
 rcases A with _ | ad
 ·have hm:m=0:=by
   rcases Nat.eq_zero_or_pos m with h0 | h0
   ·exact h0
   ·obtain ⟨_,_,e,_⟩:=hq.spot h0
    cases e
  subst hm
  have hn:news=[]:=List.eq_nil_of_length_eq_zero (by have:=hq.len; omega)
  subst hn
  have hrun:=rZ (P:=P) (ty:=o.type) ht hi hown c
  refine wpList_plain hgd fun K hK=> ?_
  unfold Oper.wp
  simp only [execOp,ho,resolve,invoke,builtin,Sem.run_bind,Sem.run_pure,Result.andThen_ok,List.map_toArray,List.map_cons,List.map_nil,hs,hx,hrun]
  exact hK _ _ (h v w (by simpa using hown) ⟨rfl,rfl,rfl,Nat.le_refl _,fun _ _ _=>rfl⟩ (.inl rfl))
 ·refine wpList_append_own_at w hgd s x t ho base e i z size bytes ht hi hz hsize hby hzs hsz v n xs hs hown ad m c news hx hq.len ?_ h1 h63 hbytes hbase fun v' w' h2 h3 _ h5=>h v' w' h2 h3 h5
  intro j u hu
  have hj:0<m:=by
   rcases Nat.eq_zero_or_pos m with h0 | h0
   ·subst h0
    have hn:news=[]:=List.eq_nil_of_length_eq_zero (by have:=hq.len; omega)
    subst hn
    simp at hu
   ·exact h0
  obtain ⟨b,off,e,_,hc⟩:=hq.spot hj
  injection e with e
  subst e
  rw [pI]
  exact hc j u hu
namespace NF
theorem K9:(Tryz.prog.info? 29).map (fun i=>(i.zero,i.size,i.bytes))=some (some (.agg #[.int .i64 0,.slice none 0 0,.bool false,.slice none 0 0,.int .i64 0,.int .i64 0]),6,80):=by kernel_rfl
structure wC (w:World) (lo:Nat) (v:Value) (L:List Nd):Prop where
 ex:∃xs,w.ownsRow lo 29 6 v L.length (bY xs)∧dn w (fun b=>lo≤b∧v.ownBlock≠some b) L xs
theorem wC.turned {w w':World} {lo:Nat} {v:Value} {L:List Nd} {M:Nat→Prop} (h:wC w lo v L) (ht:ak M w w') (hm:∀b,lo≤b→¬M b):wC w' lo v L:=by
 obtain ⟨xs,h1,h2⟩:=h.ex
 exact ⟨xs,ht.own h1 (fun k hk=>hm k (by obtain ⟨_,_,h3⟩:=iA h1 k hk; exact h3)),kT ht (fun b hb _=>hm b hb.1) h2⟩
theorem qY {w:World} {lo:Nat} {ok:Nat→Prop} {t:Nd} {k:Int} {A:Option Addr} {n c:Nat} {nt:Bool} {A2:Option Addr} {n2 c2:Nat} {mn mx:Int} (hx:gq w ok t ⟨k,A,n,c,nt,A2,n2,c2,mn,mx⟩) (hok:∀b,ok b→lo≤b) (hlo:lo≤w.heap.size) :
  ∃w1,w.alloc (.cells #[.int .i64 k,.slice A n c,.bool nt,.slice A2 n2 c2,.int .i64 mn,.int .i64 mx] 29)=w1∧Below w.heap.size w w1∧wC w1 lo (.slice (some ⟨w.heap.size,0,none⟩) 1 1) [t]:=by
 obtain ⟨w1,hw1,k1,b1,z1⟩:=dL w k A n c nt A2 n2 c2 mn mx
 refine ⟨w1,hw1,b1,[⟨k,A,n,c,nt,A2,n2,c2,mn,mx⟩],⟨rfl,.inr ⟨w.heap.size,1,_,rfl,hlo,k1,Nat.le_refl _,by unfold maxLen; omega,rfl,rfl⟩⟩,?_⟩
 rw [dn]
 refine ⟨_,[],rfl,?_,by rw [dn]⟩
 exact gH (ak.aH b1 fun _=>False) (fun _ _ _ x=>x) (iO (fun b h1 _=>⟨hok b h1,fun e=>by simp [Value.ownBlock] at e; omega⟩) hx)
theorem wC.snoc {w w1 w2:World} {lo:Nat} {v v':Value} {L:List Nd} {ok:Nat→Prop} {t:Nd} {x:Nv} {xs:List Nv} (h2:dn w (fun b=>lo≤b∧v.ownBlock≠some b) L xs) (hx:gq w ok t x) (hok:∀b,ok b→b<w.heap.size→lo≤b∧v.ownBlock≠some b) (b1:Below w.heap.size w w1)
  (ho:w2.ownsRow lo 29 6 v' (L.length+1) (bY xs++x.vals)) (hg:w1.grownBy w2 v.ownBlock) (hv:v'.ownBlock=v.ownBlock∨v'.ownBlock=some w1.heap.size):wC w2 lo v' (L++[t]):=by
 have t1:ak (fun _=>False) w w1:=ak.aH b1 _
 have t2:=ak.jB hg
 refine ⟨xs++[x],by rw [List.length_append,D5]; simpa [bY] using ho,?_⟩
 have key:∀b,(lo≤b∧v.ownBlock≠some b)→b<w.heap.size→(lo≤b∧v.ownBlock≠some b)∧v'.ownBlock≠some b:=fun b hb hlt=>⟨hb,fun e=>by
  rcases hv with hv | hv
  ·exact hb.2 (hv ▸ e)
  ·rw [hv] at e; have:=b1.size; injection e with e; omega⟩
 have k1:=kT t1 (fun _ _ _ x=>x) (nT key h2)
 have k2:=gH t1 (fun _ _ _ x=>x) (iO (fun b hb hlt=>key b (hok b hb hlt) hlt) hx)
 exact nT (fun b hb _=>⟨hb.1.1,hb.2⟩) (kT t2 (fun b hb _ e=>hb.1.2 e) (dn.snoc k2 k1))
theorem wC.all {w:World} {lo:Nat} {v:Value} {L:List Nd} (h:wC w lo v L) (hn:1≤L.length):∃A c xs,v=.slice A L.length c∧L.length≤c∧fF w (fun b=>lo≤b∧b<w.heap.size) 6 L.length A (bY xs)∧dn w (fun b=>lo≤b∧b<w.heap.size) L xs:=by
 obtain ⟨xs,h1,h2⟩:=h.ex
 have hk:=nT (ok':=fun b=>lo≤b∧b<w.heap.size) (fun b hb hlt=>⟨hb.1,hlt⟩) h2
 rcases h1.2 with ⟨_,h0⟩ | ⟨g,cap,cur,rfl,hg,hc,hnc,_,_,htk⟩
 ·omega
 ·have hlt:=(Array.getElem?_eq_some_iff.1 hc).1
  refine ⟨_,cap,xs,rfl,hnc,⟨h1.1,fun _=>⟨g,0,rfl,⟨hg,hlt⟩,hlt,fun j u hu=> ?_⟩⟩,hk⟩
  rw [cell_of_row w g (0+j) cur _ (0,0) hc,Nat.zero_add]
  rw [←htk,List.getElem?_take] at hu
  split at hu
  ·simpa using hu
  ·cases hu
theorem Qf {n:Nat} (h:n≤1000000):n+1≤maxLen∧(n+1)*80≤140737488355328:=by unfold maxLen; omega
theorem H9 {p m:Nat} {g:PR→Nd×PR} (hg:Good g) (SU:pX 133 p (fq g) m):pX 89 p (ji g) m:=by
 intro r w h hm
 obtain ⟨w1,hw1,e1⟩:=pY h
 have hl6:r.left.length≤1000000:=by obtain ⟨A,n,c,_,h2,_,h4⟩:=h.ex; have:=h2.len; simp [bI] at this; omega
 have hfirst:=(mo hg).len r
 have SW:=Lib.hid (SU r w1 e1.rd hm)
 obtain ⟨t0,ht0⟩:∃t,(fq g r).1=t:=⟨_,rfl⟩
 obtain ⟨r0,hr0⟩:∃r1,(fq g r).2=r1:=⟨_,rfl⟩
 rw [hr0] at hfirst
 rw [ht0,hr0] at SW
 unfold ji
 dsimp only
 rw [ht0,hr0]
 obtain ⟨FL,hFL⟩:∃l,t0::(aS (eY g) r0.left.length r0).1=l:=⟨_,rfl⟩
 obtain ⟨FR,hFR⟩:∃r,(aS (eY g) r0.left.length r0).2=r:=⟨_,rfl⟩
 rw [hFL,hFR]
 have FF:=Lib.hid (And.intro hFL hFR)
 have NN:=Lib.hid (show 1+r0.left.length≤1000000∧r0.left.length<m from ⟨by omega,by omega⟩)
 have E1:=Lib.hid e1
 obtain ⟨i0,hi,hz0,hz1,hz2⟩:=info_parts K9
 clear e1 h hl6 hfirst hm ht0 hr0 hFL hFR
 go_enter Tryz.func89,Tryz.ntmps89
 go_wp2_with fail
 refine SW.out.mono ?_
 intro e w2 hn
 obtain ⟨x,rfl,hx,h2,t2⟩:=hn.out
 have E2:=Lib.hid (E1.out.step h2 t2)
 obtain ⟨k,A,n,c,nt,A2,n2,c2,mn,mx⟩:=x
 obtain ⟨w3,hw3,b3,kin3⟩:=qY (lo:=w.heap.size+1) hx (fun b hb=>by have:=E1.out.kr.lt; omega) (by have:=E2.out.kr.lt; omega)
 have E3:=Lib.hid (E2.out.below b3)
 have K3:=Lib.hid kin3
 dsimp only [Nv.v]
 clear hn hx h2 t2 b3 kin3 SW
 go_wp2_with fail
 go_loopg [3] r0.left.length (fun k v wr=>∃(L:List Nd) (r':PR) (v0:Value),k=r'.left.length∧v0=v∧Hid (wC wr (w.heap.size+1) v0 L)∧Hid (kN p w.heap.size w wr r')∧Hid (L++(aS (eY g) r'.left.length r').1=FL∧(aS (eY g) r'.left.length r').2=FR)∧Hid (1≤L.length∧L.length+r'.left.length≤1000000∧r'.left.length<m))
 case atStart=>exact ⟨[t0],r0,_,rfl,rfl,K3,E3,Lib.hid FF.out,Lib.hid ⟨by simp,NN.out⟩⟩
 case round =>
  obtain ⟨L,r',v,hgk,rfl,K,E,F,N⟩:=hrel
  clear K3 E3 E2 E1 FF NN hw1 hw3
  have SL:=Lib.hid (fun (r2:PR) (wx:World) (hx:aT wx p r2) (h1:r2.left.length<m)=>SU r2 wx hx h1)
  have HG:=Lib.hid hgk
  obtain ⟨l,b⟩:=r'
  cases l with
  | nil =>
   have ST:eY g ⟨[],b⟩=.none:=rfl
   obtain ⟨Ar,cr,h1⟩:=E.out.rd.nil
   have c0:wr.cell? ⟨p,0,none⟩=some (.slice Ar 0 cr):=h1.get 0
   clear h1
   obtain ⟨r',hr'⟩:∃r',(⟨[],b⟩:PR)=r':=⟨_,rfl⟩
   rw [hr'] at F E N ST HG hgk
   clear hr'
   obtain ⟨xs,kow,kds⟩:=K.out.ex
   have FS:=gG (k:=r'.left.length) ST
   have FE:=Lib.hid (show bD 3 FL=bD 3 L∧FR=r' from by
    have:=F.out
    rw [FS,List.append_nil] at this
    exact ⟨by rw [this.1],this.2.symm⟩)
   obtain ⟨A',c',xs',hv,hc',hsq,hkd⟩:=K.out.all N.out.1
   subst hv
   have OW:=Lib.hid (kY 3 L xs' (fun b=>w.heap.size+1≤b∧b<wr.heap.size) A' L.length c' wr hsq hkd rfl N.out.1 (by have:=N.out; omega) hc' (fun b hb=>hb.2))
   clear kow kds FS hsq hkd ST
   go_wp2_with fail
   refine OW.out.mono ?_
   rintro e w5 ⟨y,rfl,hy,b5⟩
   have E5:=Lib.hid (E.out.below b5)
   obtain ⟨k',A'',n',c'',nt',A2',n2',c2',mn',mx'⟩:=y
   have M:=Lib.hid (show dA p (fun _=>False) (bD 3 FL) FR w (.returned (Nv.v ⟨k',A'',n',c'',nt',A2',n2',c2',mn',mx'⟩)) (aA w5 w.heap.size 0 ⟨k',A'',n',c'',nt',A2',n2',c2',mn',mx'⟩) from by
    rw [FE.out.1,FE.out.2]
    refine E5.out.done hy (fun b hb _=> ?_)
    have h2:=E.out.kr.lt
    rcases hb with hb | hb
    ·exact ⟨by omega,by omega⟩
    ·exact ⟨by omega,by omega⟩)
   have KZ:=Lib.hid E5.out.kr
   clear hy b5 OW
   obtain ⟨⟨m0,o0⟩,⟨m1,o1⟩,⟨m2,o2⟩,⟨m3,o3⟩,⟨m4,o4⟩,⟨m5,o5⟩,f0,f1,f2,f3,f4,f5⟩:=bE (o:=0) KZ.out (by simp)
   dsimp only [Nv.v]
   go_wp2_with fail
   have PN:=aQ KZ.out ⟨k',A'',n',c'',nt',A2',n2',c2',mn',mx'⟩
   change bodyPost _ _ _ _ _ (aA w5 w.heap.size 0 ⟨k',A'',n',c'',nt',A2',n2',c2',mn',mx'⟩)
   generalize aA w5 w.heap.size 0 ⟨k',A'',n',c'',nt',A2',n2',c2',mn',mx'⟩=W at PN M ⊢
   obtain ⟨p0,p1,p2,p3,p4,p5⟩:=aB PN
   exact bodyPost_ret (by simp [results,Tryz.results89,go_sem,p0,p1,p2,p3,p4,p5]<;>rfl) rfl M.out
  | cons s l =>
   obtain ⟨gg,off,nn,cc,h1,_,_,_⟩:=E.out.rd.cons
   have c0:wr.cell? ⟨p,0,none⟩=some (.slice (some ⟨gg,off,none⟩) (nn+1) (cc+1)):=h1.get 0
   have hne:(⟨s::l,b⟩:PR).left.isEmpty=false:=rfl
   clear h1
   obtain ⟨r',hr'⟩:∃r',(⟨s::l,b⟩:PR)=r':=⟨_,rfl⟩
   rw [hr'] at F E N HG hgk hne
   clear hr'
   cases n124:r'.sees 124 with
   | true =>
    have ST:eY g r'=.none:=by unfold eY; rw [hne,n124]; rfl
    have S1:=Lib.hid (pq E.out.rd n124)
    go_wp2_with fail
    refine S1.out.mono ?_
    rintro e w' ⟨rfl,rfl⟩
    clear S1
    obtain ⟨xs,kow,kds⟩:=K.out.ex
    have FS:=gG (k:=r'.left.length) ST
    have FE:=Lib.hid (show bD 3 FL=bD 3 L∧FR=r' from by
     have:=F.out
     rw [FS,List.append_nil] at this
     exact ⟨by rw [this.1],this.2.symm⟩)
    obtain ⟨A',c',xs',hv,hc',hsq,hkd⟩:=K.out.all N.out.1
    subst hv
    have OW:=Lib.hid (kY 3 L xs' (fun b=>w.heap.size+1≤b∧b<w'.heap.size) A' L.length c' w' hsq hkd rfl N.out.1 (by have:=N.out; omega) hc' (fun b hb=>hb.2))
    clear kow kds FS hsq hkd ST
    go_wp2_with fail
    refine OW.out.mono ?_
    rintro e w5 ⟨y,rfl,hy,b5⟩
    have E5:=Lib.hid (E.out.below b5)
    obtain ⟨k',A'',n',c'',nt',A2',n2',c2',mn',mx'⟩:=y
    have M:=Lib.hid (show dA p (fun _=>False) (bD 3 FL) FR w (.returned (Nv.v ⟨k',A'',n',c'',nt',A2',n2',c2',mn',mx'⟩)) (aA w5 w.heap.size 0 ⟨k',A'',n',c'',nt',A2',n2',c2',mn',mx'⟩) from by
     rw [FE.out.1,FE.out.2]
     refine E5.out.done hy (fun b hb _=> ?_)
     have h2:=E.out.kr.lt
     rcases hb with hb | hb
     ·exact ⟨by omega,by omega⟩
     ·exact ⟨by omega,by omega⟩)
    have KZ:=Lib.hid E5.out.kr
    clear hy b5 OW
    obtain ⟨⟨m0,o0⟩,⟨m1,o1⟩,⟨m2,o2⟩,⟨m3,o3⟩,⟨m4,o4⟩,⟨m5,o5⟩,f0,f1,f2,f3,f4,f5⟩:=bE (o:=0) KZ.out (by simp)
    dsimp only [Nv.v]
    go_wp2_with fail
    have PN:=aQ KZ.out ⟨k',A'',n',c'',nt',A2',n2',c2',mn',mx'⟩
    change bodyPost _ _ _ _ _ (aA w5 w.heap.size 0 ⟨k',A'',n',c'',nt',A2',n2',c2',mn',mx'⟩)
    generalize aA w5 w.heap.size 0 ⟨k',A'',n',c'',nt',A2',n2',c2',mn',mx'⟩=W at PN M ⊢
    obtain ⟨p0,p1,p2,p3,p4,p5⟩:=aB PN
    exact bodyPost_ret (by simp [results,Tryz.results89,go_sem,p0,p1,p2,p3,p4,p5]<;>rfl) rfl M.out
   | false =>
    have S1:=Lib.hid (pq E.out.rd n124)
    cases n41:r'.sees 41 with
    | true =>
     have ST:eY g r'=.none:=by unfold eY; rw [hne,n124,n41]; rfl
     have S2:=Lib.hid (pq E.out.rd n41)
     go_wp2_with fail
     refine S1.out.mono ?_
     rintro e w' ⟨rfl,rfl⟩
     clear S1
     go_wp2_with fail
     refine S2.out.mono ?_
     rintro e w' ⟨rfl,rfl⟩
     clear S2
     obtain ⟨xs,kow,kds⟩:=K.out.ex
     have FS:=gG (k:=r'.left.length) ST
     have FE:=Lib.hid (show bD 3 FL=bD 3 L∧FR=r' from by
      have:=F.out
      rw [FS,List.append_nil] at this
      exact ⟨by rw [this.1],this.2.symm⟩)
     obtain ⟨A',c',xs',hv,hc',hsq,hkd⟩:=K.out.all N.out.1
     subst hv
     have OW:=Lib.hid (kY 3 L xs' (fun b=>w.heap.size+1≤b∧b<w'.heap.size) A' L.length c' w' hsq hkd rfl N.out.1 (by have:=N.out; omega) hc' (fun b hb=>hb.2))
     clear kow kds FS hsq hkd ST
     go_wp2_with fail
     refine OW.out.mono ?_
     rintro e w5 ⟨y,rfl,hy,b5⟩
     have E5:=Lib.hid (E.out.below b5)
     obtain ⟨k',A'',n',c'',nt',A2',n2',c2',mn',mx'⟩:=y
     have M:=Lib.hid (show dA p (fun _=>False) (bD 3 FL) FR w (.returned (Nv.v ⟨k',A'',n',c'',nt',A2',n2',c2',mn',mx'⟩)) (aA w5 w.heap.size 0 ⟨k',A'',n',c'',nt',A2',n2',c2',mn',mx'⟩) from by
      rw [FE.out.1,FE.out.2]
      refine E5.out.done hy (fun b hb _=> ?_)
      have h2:=E.out.kr.lt
      rcases hb with hb | hb
      ·exact ⟨by omega,by omega⟩
      ·exact ⟨by omega,by omega⟩)
     have KZ:=Lib.hid E5.out.kr
     clear hy b5 OW
     obtain ⟨⟨m0,o0⟩,⟨m1,o1⟩,⟨m2,o2⟩,⟨m3,o3⟩,⟨m4,o4⟩,⟨m5,o5⟩,f0,f1,f2,f3,f4,f5⟩:=bE (o:=0) KZ.out (by simp)
     dsimp only [Nv.v]
     go_wp2_with fail
     have PN:=aQ KZ.out ⟨k',A'',n',c'',nt',A2',n2',c2',mn',mx'⟩
     change bodyPost _ _ _ _ _ (aA w5 w.heap.size 0 ⟨k',A'',n',c'',nt',A2',n2',c2',mn',mx'⟩)
     generalize aA w5 w.heap.size 0 ⟨k',A'',n',c'',nt',A2',n2',c2',mn',mx'⟩=W at PN M ⊢
     obtain ⟨p0,p1,p2,p3,p4,p5⟩:=aB PN
     exact bodyPost_ret (by simp [results,Tryz.results89,go_sem,p0,p1,p2,p3,p4,p5]<;>rfl) rfl M.out
    | false =>
     have ST:eY g r'=.some (fq g r'):=by unfold eY; rw [hne,n124,n41]; rfl
     have S2:=Lib.hid (pq E.out.rd n41)
     have EX:=Lib.hid E.out
     have KX:=Lib.hid K.out
     have LN:=Lib.hid (Nat.le_refl r'.left.length)
     go_wp2_with fail
     refine S1.out.mono ?_
     rintro e w' ⟨rfl,rfl⟩
     clear S1
     go_wp2_with fail
     refine S2.out.mono ?_
     rintro e w' ⟨rfl,rfl⟩
     clear S2
     have GS:=Lib.hid (SL.out r' w' EX.out.rd (by have:=N.out; have:=LN.out; omega))
     obtain ⟨t,ht⟩:∃t,(fq g r').1=t:=⟨_,rfl⟩
     obtain ⟨r2,hr2⟩:∃r1,(fq g r').2=r1:=⟨_,rfl⟩
     have STT:=Lib.hid (show eY g r'=.some (t,r2) from by rw [ST,←ht,←hr2])
     have MU:=Lib.hid (Ht hg r' t r2 STT.out)
     rw [ht,hr2] at GS
     clear ht hr2 ST
     go_wp2_with fail
     refine GS.out.mono ?_
     intro e w4 hn
     obtain ⟨x,rfl,hx,h4,t4⟩:=hn.out
     obtain ⟨k,A,n,c,nt,A2,n2,c2,mn,mx⟩:=x
     have E4:=Lib.hid (EX.out.step h4 t4)
     have hlo:∀b,w.heap.size+1≤b→¬b=p:=fun b hb=>by have:=EX.out.lt; omega
     have K4:=KX.out.turned t4 hlo
     obtain ⟨xs,kow,kds⟩:=K4.ex
     obtain ⟨w5,hw5,b5,_⟩:=qY (lo:=0) hx (fun b _=>Nat.zero_le b) (Nat.zero_le _)
     have hq:=sU w4 #[.int .i64 k,.slice A n c,.bool nt,.slice A2 n2 c2,.int .i64 mn,.int .i64 mx] 29 6 1 rfl
     rw [hw5] at hq
     have OW5:=Lib.hid (show w5.ownsRow (w.heap.size+1) 29 6 v L.length (bY xs) from (ak.aH b5 fun _=>False).own kow (fun _ _ x=>x))
     have SN:=Lib.hid (fun (v':Value) (w6:World) (h1:w6.ownsRow (w.heap.size+1) 29 6 v' (L.length+1) (bY xs++Nv.vals ⟨k,A,n,c,nt,A2,n2,c2,mn,mx⟩)) (h2:w5.grownBy w6 v.ownBlock) (h3:v'.ownBlock=v.ownBlock∨v'.ownBlock=some w5.heap.size)=>wC.snoc (t:=t) (x:=⟨k,A,n,c,nt,A2,n2,c2,mn,mx⟩) kds hx (fun b hb _=>⟨by have:=EX.out.kr.lt; omega,fun e=>by obtain ⟨cs,h5,_⟩:=iA (KX.out.ex.choose_spec.1) b e; have:=h5.lt; omega⟩) b5 h1 h2 h3)
     have E5:=Lib.hid (E4.out.below b5)
     have OB:=Lib.hid (show ∀k,v.ownBlock=some k→w.heap.size+1≤k from fun k e=>by obtain ⟨_,_,h5⟩:=iA kow k e; exact h5)
     have HQ:=Lib.hid hq.sq
     have FIT:=Qf (n:=L.length) (by have:=N.out; omega)
     dsimp only [Nv.v]
     clear hn hx h4 t4 K4 kow kds b5 hq GS
     go_wp2_with (refine sV rfl _ _ 27 rfl (w.heap.size+1) 29 i0 (.agg #[.int .i64 0,.slice none 0 0,.bool false,.slice none 0 0,.int .i64 0,.int .i64 0]) 6 80 Tryz.underlying27 hi hz0 hz1 hz2 rfl (by decide) v L.length (bY xs) rfl OW5.out (some ⟨w4.heap.size,0,none⟩) 1 1 (Nv.vals ⟨k,A,n,c,nt,A2,n2,c2,mn,mx⟩) rfl w5.heap.size HQ.out (by intro u hu; simp [Nv.vals] at hu; rcases hu with rfl | rfl | rfl | rfl | rfl | rfl<;>rfl) FIT.1 FIT.2 (by have:=E5.out.kr.lt; omega) ?_)
     intro v' w6 h1 h2 h3
     have K6:=Lib.hid (SN.out v' w6 h1 h2 h3)
     have E6:=Lib.hid (show kN p w.heap.size w w6 r2 from by
      have hl:=E5.out.lt
      have tg:=ak.jB h2
      exact ⟨E5.out.rd.turned tg (fun k hk e=>by have:=OB.out k e; omega),E5.out.aO.trans tg (fun k hk e=>by have:=OB.out k e; omega),tg.bk E5.out.kr (fun e=>by have:=OB.out _ e; omega),hl⟩)
     have F6:=Lib.hid (show (L++[t])++(aS (eY g) r2.left.length r2).1=FL∧(aS (eY g) r2.left.length r2).2=FR from by
      have:=F.out
      rw [uQ (mu:=fun r=>r.left.length) (Ht hg) STT.out] at this
      exact ⟨by rw [List.append_assoc]; exact this.1,this.2⟩)
     have N6:=Lib.hid (show 1≤(L++[t]).length∧(L++[t]).length+r2.left.length≤1000000∧r2.left.length<m from by
      have h4:=N.out
      have h5:=MU.out
      rw [List.length_append,List.length_singleton]
      omega)
     clear h1 h2 h3 SN OW5
     go_wp2_with fail
     go_roundg (r2.left.length)
     case measure=>have h5:=MU.out; have h6:=HG.out; omega
     case rel=>exact ⟨L++[t],r2,v',rfl,rfl,K6,E6,F6,N6⟩
theorem Ia {p m:Nat} {g:PR→Nd×PR} (hg:Good g) (SU:pX 89 p (ji g) m):pX 51 p (mh g) m:=by
 intro r w h hm
 obtain ⟨w1,hw1,e1⟩:=pY h
 have hl6:r.left.length≤1000000:=by obtain ⟨A,n,c,_,h2,_,h4⟩:=h.ex; have:=h2.len; simp [bI] at this; omega
 have hfirst:=(good_row hg).len r
 have SW:=Lib.hid (SU r w1 e1.rd hm)
 obtain ⟨t0,ht0⟩:∃t,(ji g r).1=t:=⟨_,rfl⟩
 obtain ⟨r0,hr0⟩:∃r1,(ji g r).2=r1:=⟨_,rfl⟩
 rw [hr0] at hfirst
 rw [ht0,hr0] at SW
 unfold mh
 dsimp only
 rw [ht0,hr0]
 obtain ⟨FL,hFL⟩:∃l,t0::(aS (gF g) r0.left.length r0).1=l:=⟨_,rfl⟩
 obtain ⟨FR,hFR⟩:∃r,(aS (gF g) r0.left.length r0).2=r:=⟨_,rfl⟩
 rw [hFL,hFR]
 have FF:=Lib.hid (And.intro hFL hFR)
 have NN:=Lib.hid (show 1+r0.left.length≤1000000∧r0.left.length<m from ⟨by omega,by omega⟩)
 have E1:=Lib.hid e1
 obtain ⟨i0,hi,hz0,hz1,hz2⟩:=info_parts K9
 clear e1 h hl6 hfirst hm ht0 hr0 hFL hFR
 go_enter Tryz.func51,Tryz.ntmps51
 go_wp2_with fail
 refine SW.out.mono ?_
 intro e w2 hn
 obtain ⟨x,rfl,hx,h2,t2⟩:=hn.out
 have E2:=Lib.hid (E1.out.step h2 t2)
 obtain ⟨k,A,n,c,nt,A2,n2,c2,mn,mx⟩:=x
 obtain ⟨w3,hw3,b3,kin3⟩:=qY (lo:=w.heap.size+1) hx (fun b hb=>by have:=E1.out.kr.lt; omega) (by have:=E2.out.kr.lt; omega)
 have E3:=Lib.hid (E2.out.below b3)
 have K3:=Lib.hid kin3
 dsimp only [Nv.v]
 clear hn hx h2 t2 b3 kin3 SW
 go_wp2_with fail
 go_loopg [3] r0.left.length (fun k v wr=>∃(L:List Nd) (r':PR) (v0:Value),k=r'.left.length∧v0=v∧Hid (wC wr (w.heap.size+1) v0 L)∧Hid (kN p w.heap.size w wr r')∧Hid (L++(aS (gF g) r'.left.length r').1=FL∧(aS (gF g) r'.left.length r').2=FR)∧Hid (1≤L.length∧L.length+r'.left.length≤1000000∧r'.left.length<m))
 case atStart=>exact ⟨[t0],r0,_,rfl,rfl,K3,E3,Lib.hid FF.out,Lib.hid ⟨by simp,NN.out⟩⟩
 case round =>
  obtain ⟨L,r',v,hgk,rfl,K,E,F,N⟩:=hrel
  clear K3 E3 E2 E1 FF NN hw1 hw3
  have SL:=Lib.hid (fun (r2:PR) (wx:World) (hx:aT wx p r2) (h1:r2.left.length<m)=>SU r2 wx hx h1)
  have HG:=Lib.hid hgk
  cases n124:r'.sees 124 with
  | false =>
   have ST:gF g r'=.none:=by unfold gF; rw [n124]; rfl
   have TW:=Lib.hid (eO E.out.rd n124)
   go_wp2_with fail
   refine TW.out.mono ?_
   rintro e w4 ⟨rfl,h4,t4⟩
   have K4:=Lib.hid (K.out.turned t4 (fun b hb=>by have:=E.out.lt; omega))
   have E4:=Lib.hid (E.out.step h4 t4)
   clear K E h4 t4 TW
   have K:=K4
   have E:=E4
   clear K4 E4
   obtain ⟨xs,kow,kds⟩:=K.out.ex
   have FS:=gG (k:=r'.left.length) ST
   have FE:=Lib.hid (show bD 4 FL=bD 4 L∧FR=r' from by
    have:=F.out
    rw [FS,List.append_nil] at this
    exact ⟨by rw [this.1],this.2.symm⟩)
   obtain ⟨A',c',xs',hv,hc',hsq,hkd⟩:=K.out.all N.out.1
   subst hv
   have OW:=Lib.hid (kY 4 L xs' (fun b=>w.heap.size+1≤b∧b<w4.heap.size) A' L.length c' w4 hsq hkd rfl N.out.1 (by have:=N.out; omega) hc' (fun b hb=>hb.2))
   clear kow kds FS hsq hkd ST
   go_wp2_with fail
   refine OW.out.mono ?_
   rintro e w5 ⟨y,rfl,hy,b5⟩
   have E5:=Lib.hid (E.out.below b5)
   obtain ⟨k',A'',n',c'',nt',A2',n2',c2',mn',mx'⟩:=y
   have M:=Lib.hid (show dA p (fun _=>False) (bD 4 FL) FR w (.returned (Nv.v ⟨k',A'',n',c'',nt',A2',n2',c2',mn',mx'⟩)) (aA w5 w.heap.size 0 ⟨k',A'',n',c'',nt',A2',n2',c2',mn',mx'⟩) from by
    rw [FE.out.1,FE.out.2]
    refine E5.out.done hy (fun b hb _=> ?_)
    have h2:=E.out.kr.lt
    rcases hb with hb | hb
    ·exact ⟨by omega,by omega⟩
    ·exact ⟨by omega,by omega⟩)
   have KZ:=Lib.hid E5.out.kr
   clear hy b5 OW
   obtain ⟨⟨m0,o0⟩,⟨m1,o1⟩,⟨m2,o2⟩,⟨m3,o3⟩,⟨m4,o4⟩,⟨m5,o5⟩,f0,f1,f2,f3,f4,f5⟩:=bE (o:=0) KZ.out (by simp)
   dsimp only [Nv.v]
   go_wp2_with fail
   have PN:=aQ KZ.out ⟨k',A'',n',c'',nt',A2',n2',c2',mn',mx'⟩
   change bodyPost _ _ _ _ _ (aA w5 w.heap.size 0 ⟨k',A'',n',c'',nt',A2',n2',c2',mn',mx'⟩)
   generalize aA w5 w.heap.size 0 ⟨k',A'',n',c'',nt',A2',n2',c2',mn',mx'⟩=W at PN M ⊢
   obtain ⟨p0,p1,p2,p3,p4,p5⟩:=aB PN
   exact bodyPost_ret (by simp [results,Tryz.results51,go_sem,p0,p1,p2,p3,p4,p5]<;>rfl) rfl M.out
  | true =>
   have ST:gF g r'=.some (ji g r'.tail):=by unfold gF; rw [n124]; rfl
   have TW:=Lib.hid (iP E.out.rd n124)
   have LN:=Lib.hid (show r'.tail.left.length≤r'.left.length from by have:=fU n124; omega)
   go_wp2_with fail
   refine TW.out.mono ?_
   rintro e w' ⟨rfl,h',t'⟩
   have KX:=Lib.hid (K.out.turned t' (fun b hb=>by have:=E.out.lt; omega))
   have EX:=Lib.hid (E.out.step h' t')
   clear h' t' TW K E
   have GS:=Lib.hid (SL.out r'.tail w' EX.out.rd (by have:=N.out; have:=LN.out; omega))
   obtain ⟨t,ht⟩:∃t,(ji g r'.tail).1=t:=⟨_,rfl⟩
   obtain ⟨r2,hr2⟩:∃r1,(ji g r'.tail).2=r1:=⟨_,rfl⟩
   have STT:=Lib.hid (show gF g r'=.some (t,r2) from by rw [ST,←ht,←hr2])
   have MU:=Lib.hid (Hw hg r' t r2 STT.out)
   rw [ht,hr2] at GS
   clear ht hr2 ST
   go_wp2_with fail
   refine GS.out.mono ?_
   intro e w4 hn
   obtain ⟨x,rfl,hx,h4,t4⟩:=hn.out
   obtain ⟨k,A,n,c,nt,A2,n2,c2,mn,mx⟩:=x
   have E4:=Lib.hid (EX.out.step h4 t4)
   have hlo:∀b,w.heap.size+1≤b→¬b=p:=fun b hb=>by have:=EX.out.lt; omega
   have K4:=KX.out.turned t4 hlo
   obtain ⟨xs,kow,kds⟩:=K4.ex
   obtain ⟨w5,hw5,b5,_⟩:=qY (lo:=0) hx (fun b _=>Nat.zero_le b) (Nat.zero_le _)
   have hq:=sU w4 #[.int .i64 k,.slice A n c,.bool nt,.slice A2 n2 c2,.int .i64 mn,.int .i64 mx] 29 6 1 rfl
   rw [hw5] at hq
   have OW5:=Lib.hid (show w5.ownsRow (w.heap.size+1) 29 6 v L.length (bY xs) from (ak.aH b5 fun _=>False).own kow (fun _ _ x=>x))
   have SN:=Lib.hid (fun (v':Value) (w6:World) (h1:w6.ownsRow (w.heap.size+1) 29 6 v' (L.length+1) (bY xs++Nv.vals ⟨k,A,n,c,nt,A2,n2,c2,mn,mx⟩)) (h2:w5.grownBy w6 v.ownBlock) (h3:v'.ownBlock=v.ownBlock∨v'.ownBlock=some w5.heap.size)=>wC.snoc (t:=t) (x:=⟨k,A,n,c,nt,A2,n2,c2,mn,mx⟩) kds hx (fun b hb _=>⟨by have:=EX.out.kr.lt; omega,fun e=>by obtain ⟨cs,h5,_⟩:=iA (KX.out.ex.choose_spec.1) b e; have:=h5.lt; omega⟩) b5 h1 h2 h3)
   have E5:=Lib.hid (E4.out.below b5)
   have OB:=Lib.hid (show ∀k,v.ownBlock=some k→w.heap.size+1≤k from fun k e=>by obtain ⟨_,_,h5⟩:=iA kow k e; exact h5)
   have HQ:=Lib.hid hq.sq
   have FIT:=Qf (n:=L.length) (by have:=N.out; omega)
   dsimp only [Nv.v]
   clear hn hx h4 t4 K4 kow kds b5 hq GS
   go_wp2_with (refine sV rfl _ _ 27 rfl (w.heap.size+1) 29 i0 (.agg #[.int .i64 0,.slice none 0 0,.bool false,.slice none 0 0,.int .i64 0,.int .i64 0]) 6 80 Tryz.underlying27 hi hz0 hz1 hz2 rfl (by decide) v L.length (bY xs) rfl OW5.out (some ⟨w4.heap.size,0,none⟩) 1 1 (Nv.vals ⟨k,A,n,c,nt,A2,n2,c2,mn,mx⟩) rfl w5.heap.size HQ.out (by intro u hu; simp [Nv.vals] at hu; rcases hu with rfl | rfl | rfl | rfl | rfl | rfl<;>rfl) FIT.1 FIT.2 (by have:=E5.out.kr.lt; omega) ?_)
   intro v' w6 h1 h2 h3
   have K6:=Lib.hid (SN.out v' w6 h1 h2 h3)
   have E6:=Lib.hid (show kN p w.heap.size w w6 r2 from by
    have hl:=E5.out.lt
    have tg:=ak.jB h2
    exact ⟨E5.out.rd.turned tg (fun k hk e=>by have:=OB.out k e; omega),E5.out.aO.trans tg (fun k hk e=>by have:=OB.out k e; omega),tg.bk E5.out.kr (fun e=>by have:=OB.out _ e; omega),hl⟩)
   have F6:=Lib.hid (show (L++[t])++(aS (gF g) r2.left.length r2).1=FL∧(aS (gF g) r2.left.length r2).2=FR from by
    have:=F.out
    rw [uQ (mu:=fun r=>r.left.length) (Hw hg) STT.out] at this
    exact ⟨by rw [List.append_assoc]; exact this.1,this.2⟩)
   have N6:=Lib.hid (show 1≤(L++[t]).length∧(L++[t]).length+r2.left.length≤1000000∧r2.left.length<m from by
    have h4:=N.out
    have h5:=MU.out
    rw [List.length_append,List.length_singleton]
    omega)
   clear h1 h2 h3 SN OW5
   go_wp2_with fail
   go_roundg (r2.left.length)
   case measure=>have h5:=MU.out; have h6:=HG.out; omega
   case rel=>exact ⟨L++[t],r2,v',rfl,rfl,K6,E6,F6,N6⟩
end NF
namespace NF
theorem CG {P:Program} (w:World) (t ty:TypeId) (base:Nat) (e:TypeId) (i:TypeInfo) (z:Value) (size bytes:Nat) (ht:P.underlying t=some (.slice e)) (hi:P.info? e=some i) (hz:i.zero=some z)
  (hsize:i.size=size) (hby:i.bytes=bytes) (hzs:z.cells.size=size) (hsz:0<size) (v:Value) (n:Nat) (xs:List Value) (hown:w.ownsRow base e size v n xs)
  (A:Option Addr) (m c:Nat) (news:List Value) (B:Nat) (hq:Sq w B size m A news) (h1:∀u∈news,u.oneCell'=true) (h63:n+m≤maxLen) (hbytes:(n+m)*bytes≤140737488355328) (hbase:base≤w.heap.size) :
  ∃A' c' w',(Builtin.append_ #[t,t] ty #[v,.slice A m c]).run P w=.ok (.slice A' (n+m) c') w'∧w'.ownsRow base e size (.slice A' (n+m) c') (n+m) (xs++news)∧w.grownBy w' v.ownBlock∧((Value.slice A' (n+m) c').ownBlock=v.ownBlock∨(Value.slice A' (n+m) c').ownBlock=some w.heap.size):=by
 have shape:∀ {w':World} {v':Value} {k:Nat} {ys:List Value},w'.ownsRow base e size v' k ys→∃A' c',v'=.slice A' k c':=fun h=>by
  rcases h.2 with ⟨rfl,h0⟩ | ⟨g,cap,cur,rfl,_⟩
  ·rw [h0]; exact ⟨_,_,rfl⟩
  ·exact ⟨_,_,rfl⟩
 rcases A with _ | ad
 ·have hm:m=0:=by
   rcases Nat.eq_zero_or_pos m with h0 | h0
   ·exact h0
   ·obtain ⟨_,_,e,_⟩:=hq.spot h0
    cases e
  subst hm
  have hn:news=[]:=List.eq_nil_of_length_eq_zero (by have:=hq.len; omega)
  subst hn
  have hrun:=rZ (P:=P) (ty:=ty) ht hi hown c
  obtain ⟨A',c',rfl⟩:=shape hown
  refine ⟨A',c',w,hrun,by simpa using hown,⟨rfl,rfl,rfl,Nat.le_refl _,fun _ _ _=>rfl⟩,.inl rfl⟩
 ·obtain ⟨v',w',hr,h2,h3,_,h5⟩:=run_append_own_at (P:=P) w base t ty e i z size bytes ht hi hz hsize hby hzs hsz v n xs hown ad m c news hq.len (fun j u hu=>by
   have hj:0<m:=by
    rcases Nat.eq_zero_or_pos m with h0 | h0
    ·subst h0
     have hn:news=[]:=List.eq_nil_of_length_eq_zero (by have:=hq.len; omega)
     subst hn
     simp at hu
    ·exact h0
   obtain ⟨b,off,e,_,hc⟩:=hq.spot hj
   injection e with e
   subst e
   rw [pI]
   exact hc j u hu) h1 h63 hbytes hbase
  obtain ⟨A',c',rfl⟩:=shape h2
  exact ⟨A',c',w',hr,h2,h3,h5⟩
theorem Ta {P:Program} {w:World} {ops:Array Oper} {o:Oper} {a:Act} {K:Act→World→Prop} {Q:Exit→Act→World→Prop} {E:Prop} (hgd:o.guard=none) (s x:Operand) (t:TypeId)
  (ho:o.op=.call { callee:=.builtin .append,args:= #[s,x],argTypes:= #[t,t] })
  (base:Nat) (e:TypeId) (i:TypeInfo) (z:Value) (size bytes:Nat) (ht:P.underlying t=some (.slice e)) (hi:P.info? e=some i) (hz:i.zero=some z)
  (hsize:i.size=size) (hby:i.bytes=bytes) (hzs:z.cells.size=size) (hsz:0<size) (v:Value) (n:Nat) (xs:List Value) (hs:a.eval s=v) (hown:w.ownsRow base e size v n xs)
  (A:Option Addr) (m c:Nat) (news:List Value) (hx:a.eval x=.slice A m c) (B:Nat) (hq:Sq w B size m A news) (h1:∀u∈news,u.oneCell'=true) (h63:n+m≤maxLen) (hbytes:(n+m)*bytes≤140737488355328) (hbase:base≤w.heap.size)
  (h:∀A' c' w',w'.ownsRow base e size (.slice A' (n+m) c') (n+m) (xs++news)→w.grownBy w' v.ownBlock→((Value.slice A' (n+m) c').ownBlock=v.ownBlock∨(Value.slice A' (n+m) c').ownBlock=some w.heap.size)→K (a.put o.dst (.slice A' (n+m) c')) w') :
  if Region.wanted o (yielded ops a.tmps)=true then Oper.wp P o a w K Q else E:=by
 have hw:Region.wanted o (yielded ops a.tmps)=true:=by simp [Region.wanted,hgd]
 rw [if_pos hw]
 obtain ⟨A',c',w',hr,h2,h3,h4⟩:=CG (P:=P) w t o.type base e i z size bytes ht hi hz hsize hby hzs hsz v n xs hown A m c news B hq h1 h63 hbytes hbase
 unfold Oper.wp execOp
 simp only [ho,resolve,invoke,builtin,Sem.run_bind,Sem.run_pure,Result.andThen_ok,List.map_toArray,List.map_cons,List.map_nil,hs,hx,hr]
 exact h A' c' w' h2 h3 h4
end NF
