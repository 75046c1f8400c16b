import Derived.Test.YteemnmalikomgaaGreatDoorQSwBase4
import Derived.Deep.Draws
set_option maxRecDepth 100000
set_option maxHeartbeats 6400000
namespace Go.Proofs.YteemnmalikomgaaGreatDoor
open Go.ChangeShapes Go.WideShapes Go.ChangeAt Go.RowKit
namespace NF
structure fF (w:World) (ok:Nat→Prop) (size n:Nat) (A:Option Addr) (xs:List Value):Prop where
 len:xs.length=n*size
 spot:0<n→∃b off,A=some ⟨b,off,none⟩∧ok b∧b<w.heap.size∧∀j u,xs[j]? = some u→w.cell? ⟨b,off+j,none⟩=some u
namespace fF
variable {w w':World} {ok ok':Nat→Prop} {size n:Nat} {A:Option Addr} {xs:List Value}
theorem nothing (w:World) (ok:Nat→Prop) (size:Nat) (A:Option Addr):fF w ok size 0 A []:=⟨by simp,fun h=>absurd h (Nat.lt_irrefl 0)⟩
theorem turned {M:Nat→Prop} (h:fF w ok size n A xs) (ht:ak M w w') (hm:∀b,ok b→b<w.heap.size→¬M b):fF w' ok size n A xs :=
 ⟨h.len,fun hn=>let ⟨b,off,e,h1,h2,h3⟩:=h.spot hn; ⟨b,off,e,h1,Nat.lt_of_lt_of_le h2 ht.size,fun j u hu=>by
  have e2:=ht.block b h2 (hm b h1 h2)
  have:=h3 j u hu
  unfold World.cell? at this ⊢
  rw [e2]
  exact this⟩⟩
theorem mono (h:fF w ok size n A xs) (hm:∀b,ok b→ok' b):fF w ok' size n A xs :=
 ⟨h.len,fun hn=>let ⟨b,off,e,h1,h2,h3⟩:=h.spot hn; ⟨b,off,e,hm b h1,h2,h3⟩⟩
theorem sq (h:fF w ok size n A xs):Sq w w.heap.size size n A xs:=⟨h.len,fun hn=>let ⟨b,off,e,_,h2,h3⟩:=h.spot hn; ⟨b,off,e,h2,h3⟩⟩
end fF
theorem D5 (a b:List Nv):bY (a++b)=bY a++bY b:=by unfold bY; rw [List.flatMap_append]
theorem lM:∀xs:List Nv,(bY xs).length=xs.length*6
 | []=>rfl
 | x::xs=>by
  have e:bY (x::xs)=x.vals++bY xs:=rfl
  have hx:x.vals.length=6:=rfl
  rw [e,List.length_append,hx,lM xs,List.length_cons]
  omega
def aA (w:World) (g o:Nat) (x:Nv):World :=
 (((((w.setCell ⟨g,o,none⟩ (.int .i64 x.k)).setCell ⟨g,o+1,none⟩ (.slice x.A x.n x.c)).setCell ⟨g,o+2,none⟩ (.bool x.nt)).setCell ⟨g,o+3,none⟩ (.slice x.A2 x.n2 x.c2)).setCell ⟨g,o+4,none⟩ (.int .i64 x.mn)).setCell ⟨g,o+5,none⟩ (.int .i64 x.mx)
theorem dK (w:World) (g o:Nat) (x:Nv):ak (· = g) w (aA w g o x) :=
 (((((ak.bR g o w _).trans (ak.bR g _ _ _) (fun _ _ h=>h)).trans (ak.bR g _ _ _) (fun _ _ h=>h)).trans (ak.bR g _ _ _) (fun _ _ h=>h)).trans (ak.bR g _ _ _) (fun _ _ h=>h)).trans (ak.bR g _ _ _) (fun _ _ h=>h)
theorem Va {w:World} {g o:Nat} {cur:Array Value} (x:Nv) (h:Bk w 29 g cur) (ho:o+6≤cur.size) :
  ∃cur',Bk (aA w g o x) 29 g cur'∧cur'.size=cur.size∧(∀j,j<6→cur'[o+j]? = x.vals[j]?)∧∀j,j<o∨o+6≤j→cur'[j]? = cur[j]?:=by
 refine ⟨_,(((((h.put o _).put _ _).put _ _).put _ _).put _ _).put _ _,by simp,fun j hj=> ?_,fun j hj=> ?_⟩
 ·match j,hj with
  | 0,_=>simp [Array.getElem?_setIfInBounds,Nv.vals]; omega
  | 1,_=>simp [Array.getElem?_setIfInBounds,Nv.vals]; omega
  | 2,_=>simp [Array.getElem?_setIfInBounds,Nv.vals]; omega
  | 3,_=>simp [Array.getElem?_setIfInBounds,Nv.vals]; omega
  | 4,_=>simp [Array.getElem?_setIfInBounds,Nv.vals]; omega
  | 5,_=>simp [Array.getElem?_setIfInBounds,Nv.vals]; omega
 ·rw [Array.getElem?_setIfInBounds_ne (by omega),Array.getElem?_setIfInBounds_ne (by omega),Array.getElem?_setIfInBounds_ne (by omega),Array.getElem?_setIfInBounds_ne (by omega),Array.getElem?_setIfInBounds_ne (by omega),Array.getElem?_setIfInBounds_ne (by omega)]
theorem bE {w:World} {g o:Nat} {cur:Array Value} (h:Bk w 29 g cur) (ho:o+6≤cur.size):(∃u,w.cell? ⟨g,o,none⟩=some u)∧(∃u,w.cell? ⟨g,o+1,none⟩=some u)∧(∃u,w.cell? ⟨g,o+2,none⟩=some u)∧(∃u,w.cell? ⟨g,o+3,none⟩=some u)∧(∃u,w.cell? ⟨g,o+4,none⟩=some u)∧(∃u,w.cell? ⟨g,o+5,none⟩=some u) ∧
  w.frozen? ⟨g,o,none⟩=false∧w.frozen? ⟨g,o+1,none⟩=false∧w.frozen? ⟨g,o+2,none⟩=false∧w.frozen? ⟨g,o+3,none⟩=false∧w.frozen? ⟨g,o+4,none⟩=false∧w.frozen? ⟨g,o+5,none⟩=false:=by
 have one:∀d,d<6→∃u,w.cell? ⟨g,o+d,none⟩=some u:=fun d hd=>⟨cur[o+d]'(by omega),by rw [Bk.get h,Array.getElem?_eq_getElem (by omega)]⟩
 exact ⟨one 0 (by omega),one 1 (by omega),one 2 (by omega),one 3 (by omega),one 4 (by omega),one 5 (by omega),h.free _,h.free _,h.free _,h.free _,h.free _,h.free _⟩
theorem Pf:∀(xs:List Nv),∀u∈bY xs,u.oneCell'=true:=by
 intro xs u hu
 unfold bY at hu
 obtain ⟨x,_,hx⟩:=List.mem_flatMap.1 hu
 simp [Nv.vals] at hx
 rcases hx with rfl | rfl | rfl | rfl | rfl | rfl<;>rfl
theorem aQ {w:World} {g:Nat} {z:Nv} (h:aR w g z) (x:Nv):aR (aA w g 0 x) g x:=by
 have h0:=Bk.put h 0 (.int .i64 x.k)
 have h1:=Bk.put h0 1 (.slice x.A x.n x.c)
 have h2:=Bk.put h1 2 (.bool x.nt)
 have h3:=Bk.put h2 3 (.slice x.A2 x.n2 x.c2)
 have h4:=Bk.put h3 4 (.int .i64 x.mn)
 exact Bk.put h4 5 (.int .i64 x.mx)
end NF
namespace NF
structure wR (w:World) (B b off:Nat) (s:St):Prop where
 kind:w.cell? ⟨b,off,none⟩=some (.int .i64 s.kind)
 set:qV w B b off s.set s.nt
 next:w.cell? ⟨b,off+3,none⟩=some (.int .i64 (s.next:Int))
 ways:∃A c,w.cell? ⟨b,off+4,none⟩=some (.slice A s.ways.length c)∧Sq w B 1 s.ways.length A (nums s.ways)
 many:s.ways.length≤1000000
structure pQ (w:World) (B p:Nat) (M:List St) (st:Nat):Prop where
 box:∃b c,w.cell? ⟨p,0,none⟩=some (.slice (some ⟨b,0,none⟩) M.length c)∧b<B∧∀(q:Nat) (s:St),M[q]? = some s→wR w B b (q*5) s
 start:w.cell? ⟨p,1,none⟩=some (.int .i64 (st:Int))
 low:p<B
 big:M.length≤20000
 ok:∀s∈M,uI M.length dQ s
theorem qV.below {w w':World} {B b off:Nat} {s:Sg} {nt:Bool} (h:qV w B b off s nt) (hb:Below B w w') (hl:b<B):qV w' B b off s nt:=by
 obtain ⟨A,n,c,h1,h2,h3⟩:=h.set
 exact ⟨⟨A,n,c,(hb.cell (p:=⟨b,_,none⟩) hl).trans h1,h2,h3.below hb⟩,(hb.cell (p:=⟨b,_,none⟩) hl).trans h.nt⟩
theorem qV.up {w:World} {B B' b off:Nat} {s:Sg} {nt:Bool} (h:qV w B b off s nt) (hb:B≤B'):qV w B' b off s nt:=by
 obtain ⟨A,n,c,h1,h2,h3⟩:=h.set
 exact ⟨⟨A,n,c,h1,h2,h3.up hb⟩,h.nt⟩
theorem wR.below {w w':World} {B b off:Nat} {s:St} (h:wR w B b off s) (hb:Below B w w') (hl:b<B):wR w' B b off s:=by
 obtain ⟨A,c,h1,h2⟩:=h.ways
 exact ⟨(hb.cell (p:=⟨b,_,none⟩) hl).trans h.kind,h.set.below hb hl,(hb.cell (p:=⟨b,_,none⟩) hl).trans h.next,⟨A,c,(hb.cell (p:=⟨b,_,none⟩) hl).trans h1,h2.below hb⟩,h.many⟩
theorem wR.up {w:World} {B B' b off:Nat} {s:St} (h:wR w B b off s) (hb:B≤B'):wR w B' b off s:=by
 obtain ⟨A,c,h1,h2⟩:=h.ways
 exact ⟨h.kind,h.set.up hb,h.next,⟨A,c,h1,h2.up hb⟩,h.many⟩
theorem pQ.below {w w':World} {B p:Nat} {M:List St} {st:Nat} (h:pQ w B p M st) (hb:Below B w w'):pQ w' B p M st:=by
 obtain ⟨b,c,h1,h2,h3⟩:=h.box
 exact ⟨⟨b,c,(hb.cell (p:=⟨p,_,none⟩) h.low).trans h1,h2,fun q s hq=>(h3 q s hq).below hb h2⟩,(hb.cell (p:=⟨p,_,none⟩) h.low).trans h.start,h.low,h.big,h.ok⟩
theorem pQ.up {w:World} {B B' p:Nat} {M:List St} {st:Nat} (h:pQ w B p M st) (hb:B≤B'):pQ w B' p M st:=by
 obtain ⟨b,c,h1,h2,h3⟩:=h.box
 exact ⟨⟨b,c,h1,by omega,fun q s hq=>(h3 q s hq).up hb⟩,h.start,Nat.lt_of_lt_of_le h.low hb,h.big,h.ok⟩
theorem Ww {w:World} {B n k:Nat} {A:Option Addr} {l:List Nat} (h:Sq w B 1 n A (nums l)) (hk:k<l.length) (hn:n=l.length) :
  ∃b off,A=some ⟨b,off,none⟩∧b<B∧w.cell? ⟨b,off+k,none⟩=some (.int .i64 (l[k]:Int)):=by
 obtain ⟨b,off,e,hb,hc⟩:=h.spot (by omega)
 refine ⟨b,off,e,hb,hc k _ ?_⟩
 unfold nums
 rw [List.getElem?_map,List.getElem?_eq_getElem hk]
 rfl
theorem Ep (B p:Nat) (M:List St) (st:Nat) (w:World) (h:pQ w B p M st) :
  Calls Tryz.prog 47 #[.pointer (some ⟨p,0,none⟩)] w fun e w'=>e=.returned (.int .i64 (M.length:Int))∧w'=w:=by
 obtain ⟨b,c,h1,_⟩:=h.box
 clear h
 go_enter Tryz.func47,Tryz.ntmps47
 go_wp2_with fail
 go_ret
 exact ⟨rfl,rfl⟩
def sj (bg en:Bool) (s:St):List Nat:=if s.kind=6 then (if bg then [s.next] else []) else if s.kind=7 then (if en then [s.next] else []) else if s.kind=4 then s.ways else []
theorem Vp {l:List Int} {M:List St} {i q q':Nat} {s:St} (hs:M[q]? = some s):Ed l M i q q'↔q'∈sj (decide (i=0)) (decide (i=l.length)) s:=by
 unfold Ed sj
 rw [hs]
 constructor
 ·rintro ⟨t,h1,h2⟩
  cases h1
  rcases h2 with ⟨h3,h4,h5⟩ | ⟨h3,h4,h5⟩ | ⟨h3,h4⟩
  ·rw [h3]; simp [h4,h5]
  ·rw [h3]; simp [h4,h5]
  ·rw [h3]; simp [h4]
 ·intro h
  refine ⟨s,rfl,?_⟩
  split at h
  ·split at h
   ·rename_i h1 h2
    simp at h h2
    exact .inl ⟨h1,h2,h⟩
   ·cases h
  split at h
  ·split at h
   ·rename_i h1 h2
    simp at h h2
    exact .inr (.inl ⟨h1,h2,h⟩)
   ·cases h
  split at h
  ·exact .inr (.inr ⟨‹_›,h⟩)
  ·cases h
def dh (all qs:List Nat):List Nat:=qs.foldl ins all
theorem mq:∀ {qs all:List Nat} {x:Nat},x∈dh all qs↔x∈all∨x∈qs
 | [],all,x=>by simp [dh]
 | q::qs,all,x=>by
  have:=mq (qs:=qs) (all:=ins all q) (x:=x)
  unfold dh at this ⊢
  rw [List.foldl_cons,this,KV,List.mem_cons,or_assoc]
theorem CV (all:List Nat) (q:Nat):∃t,ins all q=all++t:=by
 unfold ins
 split
 ·exact ⟨[],by simp⟩
 ·exact ⟨[q],rfl⟩
theorem uU:∀(qs all:List Nat),∃t,dh all qs=all++t
 | [],all=>⟨[],by simp [dh]⟩
 | q::qs,all=>by
  obtain ⟨t,h⟩:=CV all q
  obtain ⟨u,h2⟩:=uU qs (ins all q)
  refine ⟨t++u,?_⟩
  unfold dh at h2 ⊢
  rw [List.foldl_cons,h2,h,List.append_assoc]
structure sQ (l:List Int) (M:List St) (i:Nat) (all0:List Nat) (k:Nat) (all:List Nat):Prop where
 old:∀x∈all0,x∈all
 from':∀x∈all,∃c∈all0,wY l M i c x
 done:∀j x,j<k→all[j]? = some x→∀q,Ed l M i x q→q∈all
theorem sQ.next {l:List Int} {M:List St} {i k q:Nat} {all0 all:List Nat} {T:List Nat} (h:sQ l M i all0 k all) (hq:all[k]? = some q) (hT:∀x,Ed l M i q x↔x∈T):sQ l M i all0 (k+1) (dh all T):=by
 refine ⟨fun x hx=>mq.2 (.inl (h.old x hx)),fun x hx=> ?_,fun j x hj hx y hy=> ?_⟩
 ·rcases mq.1 hx with hx | hx
  ·exact h.from' x hx
  ·obtain ⟨c,hc,he⟩:=h.from' q (List.mem_of_getElem? hq)
   exact ⟨c,hc,he.snoc ((hT x).2 hx)⟩
 ·obtain ⟨t,ht⟩:=uU T all
  have hk:=(List.getElem?_eq_some_iff.1 hq).1
  rw [ht,List.getElem?_append_left (by omega)] at hx
  by_cases hjk:j=k
  ·subst hjk
   rw [hq] at hx
   cases hx
   exact mq.2 (.inr ((hT y).1 hy))
  ·exact mq.2 (.inl (h.done j x (by omega) hx y hy))
theorem Qb {w:World} {B g h N k:Nat} {A:Option Addr} {n c:Nat} {all:List Nat} (cr:Cr w B g h (.slice A n c) N all) (hk:k<all.length):n=all.length∧∃b,A=some ⟨b,0,none⟩∧w.cell? ⟨b,k,none⟩=some (.int .i64 (all[k]:Int)):=by
 have h1:=cr.own
 have h2:n=all.length:=by
  rcases h1.2 with ⟨e,e2⟩ | ⟨_,_,_,e,_⟩
  ·omega
  ·injection e
 subst h2
 exact ⟨rfl,Qa h1 hk rfl⟩
theorem Did.drewN {B g h N:Nat} {v v':Value} {w w':World} {all:List Nat} (d:Did B g h v N w w' v' all) (n:Nat):Did B g h v N w (w'.drewN n) v' all :=
 ⟨⟨d.cr.box,d.cr.own,d.cr.has,d.cr.low,d.cr.nodup,d.cr.lt,d.cr.big⟩,⟨d.aO.os,d.aO.tape,d.aO.output,d.aO.size,d.aO.block⟩,d.at'⟩
theorem zP {w:World} {B g h N:Nat} {v:Value} {all:List Nat} (cr:Cr w B g h v N all):∃A c,v=.slice A all.length c:=jA cr.own
theorem JY (l:List Int) (i:Nat) (B B2 p:Nat) (M:List St) (st:Nat) (g h:Nat) (v:Value) (all:List Nat) (w:World) (hm:pQ w B p M st) (hB:B≤B2) (hB2:B2≤w.heap.size) (c:Cr w B2 g h v (M.length+1) all) :
  Calls Tryz.prog 57 #[.pointer (some ⟨p,0,none⟩),.pointer (some ⟨g,0,none⟩),.bool (decide (i=0)),.bool (decide (i=l.length))] w
   fun e w'=>e=.returned (.tuple #[])∧∃v' all',Did B2 g h v (M.length+1) w w' v' all'∧sQ l M i all all'.length all':=by
 have MM:=Lib.hid hm
 have I0:=Lib.hid (show ∃v' all',Did B2 g h v (M.length+1) w w v' all'∧0≤all'.length∧sQ l M i all 0 all' from ⟨v,all,c.same,Nat.zero_le _,fun x hx=>hx,fun x hx=>⟨x,hx,.refl _⟩,fun j x hj=>absurd hj (Nat.not_lt_zero _)⟩)
 have TL:=Lib.hid (show ∀k,Ow g h v k→¬k<B from fun k hk=>by have:=(c.oN k hk).2; omega)
 obtain ⟨bg,hbg⟩:∃bg,decide (i=0)=bg:=⟨_,rfl⟩
 obtain ⟨en,hen⟩:∃en,decide (i=l.length)=en:=⟨_,rfl⟩
 have EP:=Lib.hid (show ∀(q:Nat) (s:St),M[q]? = some s→∀q',Ed l M i q q'↔q'∈sj bg en s from fun q s hs q'=>by rw [←hbg,←hen]; exact Vp hs)
 have hbig:=hm.big
 have HB2:=Lib.hid hB2
 have HB:=Lib.hid hB
 rw [hbg,hen]
 clear hm c hbg hen hB2 hB
 go_enter Tryz.func57,Tryz.ntmps57
 go_wp2_with fail
 go_loopw [8] (fun x wr=>∃k:Nat,x=.int .i64 (k:Int)∧k≤M.length+1∧Hid (∃v' all',Did B2 g h v (M.length+1) w wr v' all'∧k≤all'.length∧sQ l M i all k all')) (fun x _=>M.length+1 - (intOf x).toNat)
 case atStart=>exact ⟨0,rfl,Nat.zero_le _,I0⟩
 case round =>
  obtain ⟨k,rfl,hk,I⟩:=hrel
  clear I0
  obtain ⟨v',all',d,hka,sp⟩:=I.out
  obtain ⟨A,cc,rfl⟩:=zP d.cr
  have b0:=d.aO.toBelow (Nat.le_trans HB.out HB2.out) (fun k hk ho=>TL.out k ho hk)
  have m0:=MM.out.below b0
  obtain ⟨b,mc,p0,hbB,hst⟩:=m0.box
  have c0:wr.cell? ⟨g,0,none⟩=some (.slice A all'.length cc):=d.cr.box.get 0
  have hlen:=d.cr.len
  have hinc:IntKind.i64.wrap ((k:Int)+1)=(k:Int)+1:=IntWalk.i64_in _ (by omega)
  have hk0:(0:Int)≤(k:Int):=by omega
  have SP:=Lib.hid sp
  have DD:=Lib.hid d
  have M0:=Lib.hid m0
  have ST:=Lib.hid hst
  by_cases hlt:k<all'.length
  ·obtain ⟨_,ba,rfl,e0⟩:=Qb d.cr hlt
   obtain ⟨q,hq⟩:∃q,all'[k]=q:=⟨_,rfl⟩
   have AQ:=Lib.hid (show all'[k]? = some q from by rw [List.getElem?_eq_getElem hlt,hq])
   have hqn:=d.cr.lt q (by rw [←hq]; exact List.getElem_mem hlt)
   rw [hq] at e0
   have hkn:(k:Int)<(all'.length:Int):=by omega
   have hq0:(0:Int)≤(q:Int):=by omega
   clear d hst m0 I hq sp b0
   by_cases hqe:q=M.length
   ·subst hqe
    have SN:=Lib.hid (show sQ l M i all (k+1) all' from SP.out.next (T:=[]) AQ.out (fun x=>⟨(fun hx=>by
     obtain ⟨s,hs,_⟩:=hx
     rw [List.getElem?_eq_none (Nat.le_refl _)] at hs
     cases hs),(fun hx=>by cases hx)⟩))
    go_wp2_with fail
    go_quiet (fail)
    have D2:=Lib.hid (DD.out.drewN nq)
    clear DD
    generalize wr.drewN nq=w2 at D2 ⊢
    go_wp2
    go_roundw
    case rel=>exact ⟨k+1,by first | rfl | (congr 1; done) | (congr 1; omega),by omega,Lib.hid ⟨_,_,D2.out,by omega,SN.out⟩⟩
    case measure=>first | (simp [intOf]; done) | (simp [intOf]; omega)
   ·have hqm:q<M.length:=by omega
    have hqm0:(q:Int)<(M.length:Int):=by omega
    have hqne:((q:Int) == (M.length:Int))=false:=by simp; omega
    obtain ⟨s,hs⟩:∃s,M[q]? = some s:=⟨_,List.getElem?_eq_getElem hqm⟩
    have hsi:=ST.out q s hs
    have hok:=MM.out.ok s (List.mem_of_getElem? hs)
    have SN:=Lib.hid (SP.out.next (T:=sj bg en s) AQ.out (fun x=>EP.out q s hs x))
    have s0:=hsi.kind
    have s3:=hsi.next
    obtain ⟨A4,c4,s4,q4⟩:=hsi.ways
    have MY:=Lib.hid hsi.many
    have Q4:=Lib.hid q4
    have HO:=Lib.hid hok
    clear hsi hs q4 hqe
    go_wp2_with fail
    go_quiet (fail)
    rename Nat=>n1
    go_wp2_with fail
    go_quiet (fail)
    rename Nat=>n2
    obtain ⟨w2,hw2⟩:∃w2,(wr.drewN n1).drewN n2=w2:=⟨_,rfl⟩
    have D2:=Lib.hid (show Did B2 g h v (M.length+1) w w2 _ all' from by rw [←hw2]; exact (DD.out.drewN n1).drewN n2)
    have t0:w2.cell? ⟨b,q*5,none⟩=some (.int .i64 s.kind):=by rw [←hw2]; exact s0
    have t3:w2.cell? ⟨b,q*5+3,none⟩=some (.int .i64 (s.next:Int)):=by rw [←hw2]; exact s3
    have t4:w2.cell? ⟨b,q*5+4,none⟩=some (.slice A4 s.ways.length c4):=by rw [←hw2]; exact s4
    have Q5:=Lib.hid (show Sq w2 B 1 s.ways.length A4 (nums s.ways) from by rw [←hw2]; exact Q4.out.below ⟨rfl,rfl,rfl,Nat.le_refl _,fun _ _=>rfl⟩)
    rw [hw2]
    have ADD:=Lib.hid (fun (x:Nat) (hx:x≤M.length)=>uT B2 g h _ (M.length+1) all' x w2 D2.out.cr (by omega) (Nat.le_trans HB2.out D2.out.aO.size))
    clear hw2 s0 s3 s4 Q4 DD ST p0 M0 c0 e0 SP
    rcases HO.out.kind with hk | hk | hk | hk
    ·rw [hk] at t0
     have SN:=Lib.hid (show sQ l M i all (k+1) all' from by have h:=SN.out; unfold sj at h; rw [hk] at h; exact h)
     go_wp2_with fail
     go_roundw
     case rel=>exact ⟨k+1,by first | rfl | (congr 1; done) | (congr 1; omega),by omega,Lib.hid ⟨_,_,D2.out,by omega,SN.out⟩⟩
     case measure=>first | (simp [intOf]; done) | (simp [intOf]; omega)
    ·rw [hk] at t0
     have SN:=Lib.hid (show sQ l M i all (k+1) (dh all' s.ways) from by have h:=SN.out; unfold sj at h; rw [hk] at h; exact h)
     have J0:=Lib.hid (show ∃v3,Did B2 g h v (M.length+1) w w2 v3 (dh all' (s.ways.take 0))∧Below B w2 w2 from ⟨_,D2.out,Below.refl _ _⟩)
     obtain ⟨L4,hL4⟩:∃L4,s.ways.length=L4:=⟨_,rfl⟩
     rw [hL4] at t4
     have HL4:=Lib.hid hL4
     have TLB:L4≤1000000:=by rw [←hL4]; exact MY.out
     clear D2 ADD hL4
     go_wp2_with fail
     go_loopw [80] (fun y wx=>∃m:Nat,y=.int .i64 (m:Int)∧m≤L4∧Hid (∃v3,Did B2 g h v (M.length+1) w wx v3 (dh all' (s.ways.take m))∧Below B w2 wx)) (fun y _=>L4 - (intOf y).toNat)
     case atStart=>exact ⟨0,rfl,Nat.zero_le _,J0⟩
     case round =>
      obtain ⟨m,rfl,hm,J⟩:=hrel
      clear J0
      obtain ⟨v3,d3,b3⟩:=J.out
      have m1:IntKind.i64.wrap ((m:Int)+1)=(m:Int)+1:=IntWalk.i64_in _ (by omega)
      have m2:(0:Int)≤(m:Int):=by omega
      by_cases hml:m<L4
      ·have hmw:m<s.ways.length:=by rw [HL4.out]; exact hml
       obtain ⟨b6,o6,rfl,_,e6⟩:=Ww (Q5.out.below b3) hmw rfl
       have hwl:=HO.out.ways _ (List.getElem_mem hmw)
       have hm3:(m:Int)<(L4:Int):=by omega
       have AT:=Lib.hid (show dh all' (s.ways.take (m+1))=ins (dh all' (s.ways.take m)) s.ways[m] from by
        rw [List.take_succ_eq_append_getElem hmw]
        unfold dh
        rw [List.foldl_append]
        rfl)
       generalize s.ways[m]=y at e6 hwl AT
       have ADD:=Lib.hid (uT B2 g h v3 (M.length+1) _ y wr d3.cr (by omega) (Nat.le_trans HB2.out d3.aO.size))
       have HD:=Lib.hid d3
       have HBB:=Lib.hid (And.intro b3 HB.out)
       clear J d3 b3 hmw
       go_wp2_with fail
       refine ADD.out.mono ?_
       rintro e w4 ⟨rfl,v4,d4⟩
       have D4:=Lib.hid (show Did B2 g h v (M.length+1) w w4 v4 (dh all' (s.ways.take (m+1))) from by rw [AT.out]; exact HD.out.trans d4)
       have B4:=Lib.hid (show Below B w2 w4 from HBB.out.1.trans (d4.aO.toBelow (by
        have h1:=HBB.out.2
        have h2:=HB2.out
        have h3:=HD.out.aO.size
        omega) (fun k hk ho=>by
        have:=(HD.out.cr.oN k ho).2
        have:=HBB.out.2
        omega)))
       clear d4 ADD HD HBB AT
       go_wp2
       go_roundw
       case rel=>exact ⟨m+1,by first | rfl | (congr 1; done) | (congr 1; omega),by omega,Lib.hid ⟨_,D4.out,B4.out⟩⟩
       case measure=>first | (simp [intOf]; done) | (simp [intOf]; omega)
      ·obtain rfl:m=L4:=by omega
       have D4:=Lib.hid (show Did B2 g h v (M.length+1) w wr v3 (dh all' s.ways) from by rw [←HL4.out,List.take_length] at d3; exact d3)
       have PL:=Lib.hid (show k+1≤(dh all' s.ways).length from by obtain ⟨t,ht⟩:=uU s.ways all'; rw [ht,List.length_append]; omega)
       clear J d3 b3
       go_wp2_with fail
       go_roundw
       case rel=>exact ⟨k+1,by first | rfl | (congr 1; done) | (congr 1; omega),by omega,Lib.hid ⟨_,_,D4.out,PL.out,SN.out⟩⟩
       case measure=>first | (simp [intOf]; done) | (simp [intOf]; omega)
    ·rw [hk] at t0
     cases bg
     ·have SN:=Lib.hid (show sQ l M i all (k+1) all' from by have h:=SN.out; unfold sj at h; rw [hk] at h; exact h)
      go_wp2_with fail
      go_roundw
      case rel=>exact ⟨k+1,by first | rfl | (congr 1; done) | (congr 1; omega),by omega,Lib.hid ⟨_,_,D2.out,by omega,SN.out⟩⟩
      case measure=>first | (simp [intOf]; done) | (simp [intOf]; omega)
     ·have SN:=Lib.hid (show sQ l M i all (k+1) (ins all' s.next) from by have h:=SN.out; unfold sj at h; rw [hk] at h; exact h)
      go_wp2_with fail
      refine (ADD.out s.next HO.out.next).mono ?_
      rintro e w3 ⟨rfl,v3,d3⟩
      have D3:=Lib.hid (D2.out.trans d3)
      have PL:=Lib.hid (show k+1≤(ins all' s.next).length from by obtain ⟨t,ht⟩:=CV all' s.next; rw [ht,List.length_append]; omega)
      clear d3 D2 ADD
      go_wp2
      go_roundw
      case rel=>exact ⟨k+1,by first | rfl | (congr 1; done) | (congr 1; omega),by omega,Lib.hid ⟨_,_,D3.out,PL.out,SN.out⟩⟩
      case measure=>first | (simp [intOf]; done) | (simp [intOf]; omega)
    ·rw [hk] at t0
     cases en
     ·have SN:=Lib.hid (show sQ l M i all (k+1) all' from by have h:=SN.out; unfold sj at h; rw [hk] at h; exact h)
      go_wp2_with fail
      go_roundw
      case rel=>exact ⟨k+1,by first | rfl | (congr 1; done) | (congr 1; omega),by omega,Lib.hid ⟨_,_,D2.out,by omega,SN.out⟩⟩
      case measure=>first | (simp [intOf]; done) | (simp [intOf]; omega)
     ·have SN:=Lib.hid (show sQ l M i all (k+1) (ins all' s.next) from by have h:=SN.out; unfold sj at h; rw [hk] at h; exact h)
      go_wp2_with fail
      refine (ADD.out s.next HO.out.next).mono ?_
      rintro e w3 ⟨rfl,v3,d3⟩
      have D3:=Lib.hid (D2.out.trans d3)
      have PL:=Lib.hid (show k+1≤(ins all' s.next).length from by obtain ⟨t,ht⟩:=CV all' s.next; rw [ht,List.length_append]; omega)
      clear d3 D2 ADD
      go_wp2
      go_roundw
      case rel=>exact ⟨k+1,by first | rfl | (congr 1; done) | (congr 1; omega),by omega,Lib.hid ⟨_,_,D3.out,PL.out,SN.out⟩⟩
      case measure=>first | (simp [intOf]; done) | (simp [intOf]; omega)
  ·obtain rfl:k=all'.length:=by omega
   clear d hst m0 I sp b0
   go_wp2_with fail
   go_end0
   exact ⟨rfl,_,_,DD.out,SP.out⟩
def mV (M:List St) (r:Int) (p q:Nat):Prop:=∃s,M[p]? = some s∧q=s.next∧ko s.set s.nt r=true
theorem Vq {l:List Int} {M:List St} {i:Nat} {r:Int} (h:l[i]? = some r) (p q:Nat):PI l M i p q↔mV M r p q:=by
 unfold PI mV
 rw [h]
 constructor
 ·rintro ⟨s,h1,h2,r',h3,h4⟩
  cases h3
  exact ⟨s,h1,h2,h4⟩
 ·rintro ⟨s,h1,h2,h4⟩
  exact ⟨s,h1,h2,r,rfl,h4⟩
theorem mV.no {M:List St} {r:Int} {p q:Nat} (h:M.length≤p):¬mV M r p q:=by
 rintro ⟨s,h1,_⟩
 rw [List.getElem?_eq_none h] at h1
 cases h1
theorem mV.one {M:List St} {r:Int} {p q:Nat} {s:St} (h:M[p]? = some s):mV M r p q↔q=s.next∧ko s.set s.nt r=true:=by
 unfold mV
 rw [h]
 constructor
 ·rintro ⟨t,h1,h2⟩
  cases h1
  exact h2
 ·exact fun h2=>⟨s,rfl,h2⟩
def Gone (M:List St) (r:Int) (all2 all:List Nat) (k:Nat) (all2':List Nat):Prop:=∀q,q∈all2'↔q∈all2∨∃p∈all.take k,mV M r p q
theorem Gone.no {M:List St} {r:Int} {all2 all all2':List Nat} {k p:Nat} (h:Gone M r all2 all k all2') (hp:all[k]? = some p) (hn:∀q,¬mV M r p q):Gone M r all2 all (k+1) all2':=by
 intro q
 rw [h q]
 have hk:=(List.getElem?_eq_some_iff.1 hp)
 obtain ⟨hk1,hk2⟩:=hk
 rw [List.take_succ_eq_append_getElem hk1,hk2]
 simp [hn q]
theorem Gone.yes {M:List St} {r:Int} {all2 all all2':List Nat} {k p n:Nat} (h:Gone M r all2 all k all2') (hp:all[k]? = some p) (hn:∀q,mV M r p q↔q=n):Gone M r all2 all (k+1) (ins all2' n):=by
 intro q
 rw [KV,h q]
 obtain ⟨hk1,hk2⟩:=List.getElem?_eq_some_iff.1 hp
 rw [List.take_succ_eq_append_getElem hk1,hk2]
 simp only [List.mem_append,List.mem_singleton,or_assoc]
 constructor
 ·rintro (h1 | ⟨p',h1,h2⟩ | h1)
  ·exact .inl h1
  ·exact .inr ⟨p',.inl h1,h2⟩
  ·exact .inr ⟨p,.inr rfl,(hn q).2 h1⟩
 ·rintro (h1 | ⟨p',h1 | rfl,h2⟩)
  ·exact .inl h1
  ·exact .inr (.inl ⟨p',h1,h2⟩)
  ·exact .inr (.inr ((hn q).1 h2))
theorem Qc (r:Int) (B B2 p:Nat) (M:List St) (st:Nat) (g1 h1 g2 h2:Nat) (v1 v2:Value) (all all2:List Nat) (w:World) (hm:pQ w B p M st) (hB:B≤B2) (hB2:B2≤w.heap.size)
  (c1:Cr w B2 g1 h1 v1 (M.length+1) all) (c2:Cr w B2 g2 h2 v2 (M.length+1) all2) (hd:∀k,Ow g1 h1 v1 k→¬Ow g2 h2 v2 k) :
  Calls Tryz.prog 58 #[.pointer (some ⟨p,0,none⟩),.pointer (some ⟨g1,0,none⟩),.pointer (some ⟨g2,0,none⟩),.int .i32 r] w
   fun e w'=>e=.returned (.tuple #[])∧∃v' all',Did B2 g2 h2 v2 (M.length+1) w w' v' all'∧Gone M r all2 all all.length all':=by
 obtain ⟨A,cc,rfl⟩:=zP c1
 have MM:=Lib.hid hm
 have CC:=Lib.hid c1
 have I0:=Lib.hid (show ∃v' all',Did B2 g2 h2 v2 (M.length+1) w w v' all'∧Gone M r all2 all 0 all' from ⟨v2,all2,c2.same,fun q=>by simp⟩)
 have TL:=Lib.hid (show ∀k,Ow g2 h2 v2 k→¬k<B from fun k hk=>by have:=(c2.oN k hk).2; omega)
 have ND:=Lib.hid hd
 have hbig:=hm.big
 have hlen:=c1.len
 have HB2:=Lib.hid hB2
 have HB:=Lib.hid hB
 have x0:w.cell? ⟨g1,0,none⟩=some (.slice A all.length cc):=c1.box.get 0
 clear hm c1 c2 hB2 hB hd
 go_enter Tryz.func58,Tryz.ntmps58
 go_wp2_with fail
 go_loopw [15] (fun x wr=>∃k:Nat,x=.int .i64 (k:Int)∧k≤all.length∧Hid (∃v' all',Did B2 g2 h2 v2 (M.length+1) w wr v' all'∧Gone M r all2 all k all')) (fun x _=>all.length - (intOf x).toNat)
 case atStart=>exact ⟨0,rfl,Nat.zero_le _,I0⟩
 case round =>
  obtain ⟨k,rfl,hk,I⟩:=hrel
  clear I0 x0
  obtain ⟨v',all',d,sp⟩:=I.out
  have hinc:IntKind.i64.wrap ((k:Int)+1)=(k:Int)+1:=IntWalk.i64_in _ (by omega)
  have hk0:(0:Int)≤(k:Int):=by omega
  by_cases hlt:k<all.length
  ·have b0:=d.aO.toBelow (Nat.le_trans HB.out HB2.out) (fun k hk ho=>TL.out k ho hk)
   have m0:=MM.out.below b0
   obtain ⟨b,mc,p0,hbB,hst⟩:=m0.box
   have cn:=CC.out.turned d.aO (fun k hk=>ND.out k hk)
   obtain ⟨_,ba,rfl,e0⟩:=Qb cn hlt
   obtain ⟨q,hq⟩:∃q,all[k]=q:=⟨_,rfl⟩
   have AQ:=Lib.hid (show all[k]? = some q from by rw [List.getElem?_eq_getElem hlt,hq])
   have hqn:=CC.out.lt q (by rw [←hq]; exact List.getElem_mem hlt)
   rw [hq] at e0
   have hkn:(k:Int)<(all.length:Int):=by omega
   have hq0:(0:Int)≤(q:Int):=by omega
   have SP:=Lib.hid sp
   have DD:=Lib.hid d
   by_cases hqm:q<M.length
   ·have hqm0:(q:Int)<(M.length:Int):=by omega
    obtain ⟨s,hs⟩:∃s,M[q]? = some s:=⟨_,List.getElem?_eq_getElem hqm⟩
    have hsi:=hst q s hs
    have hok:=MM.out.ok s (List.mem_of_getElem? hs)
    have hbw:b<wr.heap.size:=by have h1:=HB.out; have h2:=HB2.out; have h3:=d.aO.size; omega
    have TK:=Lib.hid (Nc b (q*5) s.set s.nt r wr hok.set hbw (hsi.set.up (by have h1:=HB.out; have h2:=HB2.out; have h3:=d.aO.size; omega)))
    have s3:=hsi.next
    have HBW:=Lib.hid hbw
    obtain ⟨y,hy⟩:∃y,ko s.set s.nt r=y:=⟨_,rfl⟩
    have ON:=Lib.hid (show ∀x,mV M r q x↔x=s.next∧y=true from fun x=>by rw [←hy]; exact mV.one hs)
    have NX:=Lib.hid hok.next
    rw [hy] at TK
    obtain ⟨n,hn⟩:∃n,s.next=n:=⟨_,rfl⟩
    rw [hn] at s3 ON NX
    have HPB:=Lib.hid m0.low
    clear hsi hok hst hs hy hn m0 b0 cn d sp I hbw
    go_wp2_with fail
    refine TK.out.mono ?_
    rintro e w2 ⟨rfl,b2⟩
    have D2:=Lib.hid (DD.out.trans (DD.out.cr.turned (ak.aH b2 (fun _=>False)) (fun _ _ h=>h) |>.same |> fun d=>⟨d.cr,ak.aH b2 _,fun k hk=>.inl hk⟩))
    have y3:w2.cell? ⟨b,q*5+3,none⟩=some (.int .i64 (n:Int)):=(b2.cell (p:=⟨b,q*5+3,none⟩) HBW.out).trans s3
    have y0:w2.cell? ⟨p,0,none⟩=some (.slice (some ⟨b,0,none⟩) M.length mc):=(b2.cell (p:=⟨p,0,none⟩) (by have h1:=HB.out; have h2:=HB2.out; have h3:=DD.out.aO.size; have h4:=HPB.out; show p<_; omega)).trans p0
    clear b2 TK DD s3 p0 e0
    cases y
    ·have SN:=Lib.hid (SP.out.no AQ.out (fun x hx=>by have:=(ON.out x).1 hx; simp at this))
     go_wp2_with fail
     go_roundw
     case rel=>exact ⟨k+1,by first | rfl | (congr 1; done) | (congr 1; omega),by omega,Lib.hid ⟨_,_,D2.out,SN.out⟩⟩
     case measure=>first | (simp [intOf]; done) | (simp [intOf]; omega)
    ·have SN:=Lib.hid (SP.out.yes (n:=n) AQ.out (fun x=>by rw [ON.out x]; simp))
     have ADD:=Lib.hid (uT B2 g2 h2 v' (M.length+1) all' n w2 D2.out.cr (by have:=NX.out; omega) (Nat.le_trans HB2.out D2.out.aO.size))
     go_wp2_with fail
     refine ADD.out.mono ?_
     rintro e w3 ⟨rfl,v3,d3⟩
     have D3:=Lib.hid (D2.out.trans d3)
     clear d3 ADD D2
     go_wp2
     go_roundw
     case rel=>exact ⟨k+1,by first | rfl | (congr 1; done) | (congr 1; omega),by omega,Lib.hid ⟨_,_,D3.out,SN.out⟩⟩
     case measure=>first | (simp [intOf]; done) | (simp [intOf]; omega)
   ·have SN:=Lib.hid (SP.out.no AQ.out (fun x=>mV.no (by omega)))
    have hqm0:¬(q:Int)<(M.length:Int):=by omega
    clear hst m0 b0 cn d sp I
    go_wp2_with fail
    go_roundw
    case rel=>exact ⟨k+1,by first | rfl | (congr 1; done) | (congr 1; omega),by omega,Lib.hid ⟨_,_,DD.out,SN.out⟩⟩
    case measure=>first | (simp [intOf]; done) | (simp [intOf]; omega)
  ·obtain rfl:k=all.length:=by omega
   have R:=Lib.hid I.out
   clear d sp I
   go_wp2_with fail
   go_end0
   exact ⟨rfl,R.out⟩
end NF
namespace NF
def bI (l:List Int):List Value:=l.map (Value.int .i32)
def jR (L:List Nat) (w:World) (e:Ending) (w':World):Prop:=∃v,e=.returned v∧w'.ownsRow w.heap.size 3 1 v L.length (nums L)∧Below w.heap.size w w'
theorem Si (B p:Nat) (M:List St) (st:Nat) (A:Option Addr) (n c:Nat) (at':Int) (w:World) (hm:pQ w B p M st) (h0:0<M.length) (ho:at'<0∨(n:Int)<at') :
  Calls Tryz.prog 16 #[.pointer (some ⟨p,0,none⟩),.slice A n c,.int .i64 at'] w fun e w'=>jR [] w e w':=by
 have SZ:=Lib.hid (Ep B p M st w hm)
 have hz:((M.length:Int) == 0)=false:=by rw [beq_eq_false_iff_ne]; omega
 clear hm
 by_cases h1:at'<0
 ·go_enter Tryz.func16,Tryz.ntmps16
  go_wp2_with fail
  refine SZ.out.mono ?_
  rintro e w' ⟨rfl,rfl⟩
  go_wp2_with fail
  go_ret
  exact ⟨_,rfl,World.ownsRow_nil _ _ _ _,Below.refl _ _⟩
 ·have h2:(n:Int)<at':=by omega
  go_enter Tryz.func16,Tryz.ntmps16
  go_wp2_with fail
  refine SZ.out.mono ?_
  rintro e w' ⟨rfl,rfl⟩
  go_wp2_with fail
  go_ret
  exact ⟨_,rfl,World.ownsRow_nil _ _ _ _,Below.refl _ _⟩
theorem Hz {X:Nat→Prop} {B g h N:Nat} {v v':Value} {w w':World} {all:List Nat} (d:Did B g h v N w w' v' all) (hd:∀k,Ow g h v k→¬X k) (hX:∀k,X k→k<w.heap.size):∀k,Ow g h v' k→¬X k:=by
 rintro k (rfl | rfl | hk) hx
 ·exact hd _ (.inl rfl) hx
 ·exact hd _ (.inr (.inl rfl)) hx
 ·rcases d.at' k hk with h1 | h1
  ·exact hd k (.inr (.inr h1)) hx
  ·have:=hX k hx; omega
theorem Wx {w:World} {base n:Nat} {v:Value} {xs:List Value} (h:w.ownsRow base 3 1 v n xs):∀k,v.ownBlock=some k→k<w.heap.size:=fun k hk=>by
 obtain ⟨cs,h1,_⟩:=iA h k hk
 exact h1.lt
structure lT (w wr:World) (N gA hA:Nat) (vA:Value) (C:List Nat) (gB hB:Nat) (vB:Value) (E:List Nat) (v7:Value) (L:List Nat):Prop where
 one:Cr wr w.heap.size gA hA vA N C
 two:Cr wr w.heap.size gB hB vB N E
 row:wr.ownsRow w.heap.size 3 1 v7 L.length (nums L)
 apart:∀k,Ow gA hA vA k→¬Ow gB hB vB k
 apartA:∀k,Ow gA hA vA k→¬v7.ownBlock=some k
 apartB:∀k,Ow gB hB vB k→¬v7.ownBlock=some k
 old:Below w.heap.size w wr
namespace lT
variable {w wr w2:World} {N gA hA gB hB:Nat} {vA vB v7:Value} {C E L:List Nat}
theorem swap (h:lT w wr N gA hA vA C gB hB vB E v7 L):lT w wr N gB hB vB E gA hA vA C v7 L:=⟨h.two,h.one,h.row,fun k h1 h2=>h.apart k h2 h1,h.apartB,h.apartA,h.old⟩
theorem drewN (h:lT w wr N gA hA vA C gB hB vB E v7 L) (n:Nat):lT w (wr.drewN n) N gA hA vA C gB hB vB E v7 L :=
 ⟨(h.one.same.drewN n).cr,(h.two.same.drewN n).cr,h.row,h.apart,h.apartA,h.apartB,⟨h.old.os,h.old.tape,h.old.output,h.old.size,h.old.block⟩⟩
theorem did {vA':Value} {C':List Nat} (h:lT w wr N gA hA vA C gB hB vB E v7 L) (d:Did w.heap.size gA hA vA N wr w2 vA' C'):lT w w2 N gA hA vA' C' gB hB vB E v7 L:=by
 refine ⟨d.cr,h.two.turned d.aO (fun k h1 h2=>h.apart k h2 h1),d.aO.own h.row (fun k h1 h2=>h.apartA k h2 h1),Hz d h.apart (fun k hk=>(h.two.oN k hk).1),Hz d h.apartA (fun k hk=>Wx h.row k hk),h.apartB,?_⟩
 exact h.old.trans (d.aO.toBelow h.old.size (fun k hk ho=>by have:=(h.one.oN k ho).2; omega))
theorem told {v7':Value} {L':List Nat} (h:lT w wr N gA hA vA C gB hB vB E v7 L) (ho:w2.ownsRow w.heap.size 3 1 v7' L'.length (nums L')) (ht:ak (fun k=>v7.ownBlock=some k) wr w2) (ha:∀k,v7'.ownBlock=some k→v7.ownBlock=some k∨wr.heap.size≤k) :
  lT w w2 N gA hA vA C gB hB vB E v7' L':=by
 refine ⟨h.one.turned ht h.apartA,h.two.turned ht h.apartB,ho,h.apart,fun k h1 h2=> ?_,fun k h1 h2=> ?_,h.old.trans (ht.toBelow h.old.size (fun k hk ho=>by obtain ⟨_,_,h2⟩:=iA h.row k ho; omega))⟩
 ·rcases ha k h2 with h3 | h3
  ·exact h.apartA k h1 h3
  ·have:=(h.one.oN k h1).1; omega
 ·rcases ha k h2 with h3 | h3
  ·exact h.apartB k h1 h3
  ·have:=(h.two.oN k h1).1; omega
end lT
theorem Wy {w w1 w2:World} {N g h g2 h2:Nat} (c:Cr w1 w.heap.size g h (.slice none 0 0) N []) (b:Below w.heap.size w.drew w1) (c2:Cr w2 w1.heap.size g2 h2 (.slice none 0 0) N []) (b2:Below w1.heap.size w1 w2) :
  lT w w2 N g h (.slice none 0 0) [] g2 h2 (.slice none 0 0) [] (.slice none 0 0) []:=by
 have hb:Below w.heap.size w w1:=⟨b.os,b.tape,b.output,b.size,b.block⟩
 refine ⟨c.turned (ak.aH b2 (fun _=>False)) (fun _ _ h=>h),⟨c2.box,World.ownsRow_nil _ _ _ _,c2.has,?_,c2.nodup,c2.lt,c2.big⟩,World.ownsRow_nil _ _ _ _,fun k h1 h2=> ?_,fun k _ h2=>(by cases h2),fun k _ h2=>(by cases h2),hb.trans (b2.mono hb.size)⟩
 ·have:=c2.low; have:=hb.size; omega
 ·have h3:=(c.oN k h1).1
  have h4:=(c2.oN k h2).2
  omega
theorem Ve (B p:Nat) (M:List St) (st:Nat) (A:Option Addr) (n c a:Nat) (l:List Int) (w:World) (hm:pQ w B p M st) (h0:0<M.length) (ha:a≤n) (hn:n≤1000000) (hst:st≤M.length) (hB:B≤w.heap.size) (hl:l.length=n) (hq:Sq w w.heap.size 1 n A (bI l)) :
  Calls Tryz.prog 16 #[.pointer (some ⟨p,0,none⟩),.slice A n c,.int .i64 (a:Int)] w fun e w'=>jR (dJ (fun e=>gD l M st a M.length e) (n+1)) w e w':=by
 have SZ:=Lib.hid (Ep B p M st w hm)
 have hz:((M.length:Int) == 0)=false:=by rw [beq_eq_false_iff_ne]; omega
 obtain ⟨b,mc,p0,_⟩:=hm.box
 have p1:=hm.start
 have hbig:=hm.big
 have ha0:(0:Int)≤(a:Int):=by omega
 have han:(a:Int)≤(n:Int):=by omega
 have hinc:IntKind.i64.wrap ((M.length:Int)+1)=(M.length:Int)+1:=IntWalk.i64_in _ (by omega)
 obtain ⟨N,hN⟩:∃N:Nat,M.length+1=N:=⟨_,rfl⟩
 have NM:=Lib.hid hN
 have hNc:(M.length:Int)+1=(N:Int):=by omega
 have hNw:IntKind.i64.wrap (N:Int)=(N:Int):=IntWalk.i64_in _ (by omega)
 have ha1:decide ((a:Int)<0)=false:=decide_eq_false (by omega)
 have ha2:decide (n<a)=false:=decide_eq_false (by omega)
 have NC:=Lib.hid (fun W=>Fj N W (by omega))
 have MM:=Lib.hid hm
 have PL:=Lib.hid (show p<w.heap.size from Nat.lt_of_lt_of_le hm.low hB)
 have HL:=Lib.hid hl
 have HQ:=Lib.hid hq
 clear hm hq hl hN
 go_enter Tryz.func16,Tryz.ntmps16
 go_wp2_with fail
 refine SZ.out.mono ?_
 rintro e w' ⟨rfl,rfl⟩
 go_wp2_with fail
 have FST:True:=trivial
 have KP:=Lib.hid (And.intro p0 p1)
 have hB0:=hB
 clear p1 hB
 go_upto_region 4 with fail
 go_cut [8,9] from 24 to 37 (fun s8 s9 wx=>∃gA gB,s8=.pointer (some ⟨gA,0,none⟩)∧s9=.pointer (some ⟨gB,0,none⟩)∧Hid (∃hA hB,lT w' wx N gA hA (.slice none 0 0) [] gB hB (.slice none 0 0) [] (.slice none 0 0) []))
 case first =>
  go_region_with (go_at_call 55; refine (NC.out _).mono ?_; first | (clear FST; rintro e w1 ⟨g,h,rfl,cr,bb⟩; (have p0:w1.cell? ⟨p,0,none⟩=some (.slice (some ⟨b,0,none⟩) M.length mc):=(bb.cell (p:=⟨p,0,none⟩) PL.out).trans p0); (have CR:=Lib.hid cr); (have BB:=Lib.hid bb); clear cr bb) | (rintro e w2 ⟨g2,h2,rfl,cr,bb⟩; (have CR2:=Lib.hid cr); (have BB2:=Lib.hid bb); clear cr bb))
  all_goals
   have EN:=Lib.hid (show lT w' w2 N g h (.slice none 0 0) [] g2 h2 (.slice none 0 0) [] (.slice none 0 0) [] from Wy CR.out BB.out CR2.out BB2.out)
   go_simp
   go_wp2_with fail
   go_meet
   case rel=>exact ⟨g,g2,rfl,rfl,Lib.hid ⟨h,h2,EN.out⟩⟩
 case rest =>
  obtain ⟨gA,gB,rfl,rfl,X⟩:=hcut
  clear p0 han ha1 ha2 hNc hNw hinc hz NC SZ
  obtain ⟨hA,hB',en⟩:=X.out
  obtain rfl:=NM.out
  have k1:wc.cell? ⟨p,1,none⟩=some (.int .i64 (st:Int)):=(en.old.cell (p:=⟨p,1,none⟩) PL.out).trans KP.out.2
  have ADD:=Lib.hid (uT w'.heap.size gA hA (.slice none 0 0) (M.length+1) [] st wc en.one (by omega) en.old.size)
  have EN:=Lib.hid en
  clear X en
  go_wp2_with fail
  refine ADD.out.mono ?_
  rintro e w2 ⟨rfl,vA,d⟩
  have I0:=Lib.hid (show ∃hA vA C hB vB,lT w' w2 (M.length+1) gA hA vA C gB hB vB [] (.slice none 0 0) (dJ (fun e=>gD l M st a M.length e) a)∧Seeds l M st a a C from by
   refine ⟨hA,vA,[st],hB',.slice none 0 0,?_,JQ⟩
   have h1:=EN.out.did d
   have h2:dJ (fun e=>gD l M st a M.length e) a=[]:=AO (Nat.zero_le a) (fun e _ he hr=>by have:=PV hr; omega)
   rw [h2]
   exact h1)
  clear d ADD EN k1
  go_wp2_with fail
  go_loopw [7,8,9,10] (fun s7 s8 s9 s10 wr=>∃gA gB pl:Nat,s8=.pointer (some ⟨gA,0,none⟩)∧s9=.pointer (some ⟨gB,0,none⟩)∧s10=.int .i64 (pl:Int)∧a≤pl∧pl≤n∧Hid (∃hA vA C hB vB,lT w' wr (M.length+1) gA hA vA C gB hB vB [] s7 (dJ (fun e=>gD l M st a M.length e) pl)∧Seeds l M st a pl C)) (fun _ _ _ s10 _=>n+1 - (intOf s10).toNat)
  case atStart=>exact ⟨gA,gB,a,rfl,rfl,rfl,Nat.le_refl _,ha,I0⟩
  case round =>
   obtain ⟨gA,gB,pl,rfl,rfl,rfl,hap,hpn,I⟩:=hrel
   clear I0
   obtain ⟨hA,vA,C,hB,vB,en,sd⟩:=I.out
   obtain ⟨A1,cc,rfl⟩:=zP en.one
   have c0:wr.cell? ⟨gA,0,none⟩=some (.slice A1 C.length cc):=en.one.box.get 0
   obtain ⟨k7,hk7⟩:∃k,(dJ (fun e=>gD l M st a M.length e) pl).length=k:=⟨_,rfl⟩
   obtain ⟨A7,c7,he7⟩:=jA en.row
   rw [hk7] at he7
   subst he7
   have hlen:=en.one.len
   have EN:=Lib.hid en
   have SD:=Lib.hid sd
   have K7:=Lib.hid hk7
   clear en sd I
   by_cases hC:C=[]
   ·subst hC
    have R:=Lib.hid (show jR (dJ (fun e=>gD l M st a M.length e) (n+1)) w' (.returned (.slice A7 k7 c7)) wr from by
     have hno:∀q,¬gD l M st a q pl:=fun q hq=>by obtain ⟨c,hc,_⟩:=SD.out.full q hq; cases hc
     rw [AO (a:=pl) (b:=n+1) (by omega) (fun e h1 _=>JR hap hno _ e h1)]
     exact ⟨_,rfl,EN.out.row,EN.out.old⟩)
    go_wp2_with fail
    go_ret
    exact R.out
   ·have hpos:0<C.length:=List.length_pos_iff.2 hC
    have hpos0:(0:Int)<(C.length:Int):=by omega
    obtain ⟨bg,hbg⟩:∃bg,decide (pl=0)=bg:=⟨_,rfl⟩
    obtain ⟨ed,hed⟩:∃ed,decide (pl=n)=ed:=⟨_,rfl⟩
    have b1:((pl:Int) == 0)=bg:=by rw [←hbg]; by_cases h:pl=0<;>simp [h]
    have b2:((pl:Int) == (n:Int))=ed:=by rw [←hed]; by_cases h:pl=n<;>simp [h]; omega
    have b3:(pl == n)=ed:=by rw [←hed]; by_cases h:pl=n<;>simp [h]
    have b4:(pl == 0)=bg:=by rw [←hbg]; by_cases h:pl=0<;>simp [h]
    have SP:=JY l pl B w'.heap.size p M st gA hA _ C wr (MM.out.below (EN.out.old.mono hB0)) hB0 EN.out.old.size EN.out.one
    rw [hbg,HL.out,hed] at SP
    have SPR:=Lib.hid SP
    clear SP hC
    go_wp2_with fail
    refine SPR.out.mono ?_
    rintro e w2 ⟨rfl,vA',D,d,sp⟩
    have EN2:=Lib.hid (EN.out.did d)
    have CL:=Lib.hid (Hf SD.out sp.old (fun x hx=>by obtain ⟨c,hc,he⟩:=sp.from' x hx; exact Vl (SD.out.sound c hc) he) (fun x hx q he=>by
     obtain ⟨j,hj⟩:=List.getElem?_of_mem hx
     exact sp.done j x (List.getElem?_eq_some_iff.1 hj).1 hj q he))
    obtain ⟨hs,h1,h2,h3⟩:=EN2.out.one.has
    obtain ⟨m,hm⟩:∃m,decide (M.length∈D)=m:=⟨_,rfl⟩
    have y1:w2.cell? ⟨gA,1,none⟩=some (.slice (some ⟨hA,0,none⟩) (M.length+1) (M.length+1)):=EN2.out.one.box.get 1
    have y2:w2.cell? ⟨hA,M.length,none⟩=some (.bool m):=by rw [←hm]; exact (h1.get M.length).trans (h3 M.length (by omega))
    have y3:w2.cell? ⟨p,0,none⟩=some (.slice (some ⟨b,0,none⟩) M.length mc):=(EN2.out.old.cell (p:=⟨p,0,none⟩) PL.out).trans KP.out.1
    have x1:(M.length:Int)<(M.length:Int)+1:=by omega
    have x2:(M.length:Int)<((M.length+1:Nat):Int):=by omega
    have x3:(0:Int)≤(M.length:Int):=by omega
    have MR:=Lib.hid (show (m=true↔gD l M st a M.length pl) from by rw [←hm,decide_eq_true_iff]; exact CL.out M.length)
    have W2:=Lib.hid EN2.out.old.size
    clear d sp h1 h2 h3 hm SPR EN SD hlen c0
    go_wp2_with fail
    go_quiet (fail)
    rename Nat=>nq
    obtain ⟨w3,hw3⟩:∃w3,w2.drewN nq=w3:=⟨_,rfl⟩
    have EN3:=Lib.hid (show lT w' w3 _ gA hA vA' D gB hB vB [] _ _ from by rw [←hw3]; exact EN2.out.drewN nq)
    have y3':w3.cell? ⟨p,0,none⟩=some (.slice (some ⟨b,0,none⟩) M.length mc):=by rw [←hw3]; exact y3
    rw [hw3]
    clear hw3 EN2 y1 y2 y3 W2
    have hkb:k7≤1000000:=by have:=D9 (fun e=>gD l M st a M.length e) pl; rw [K7.out] at this; omega
    have EL:=Lib.hid (AJ (fun e=>gD l M st a M.length e) pl)
    generalize hL1:dJ (fun e=>gD l M st a M.length e) pl=L1 at EN3 EL K7
    generalize hL2:dJ (fun e=>gD l M st a M.length e) (pl+1)=L2 at EL
    have HL1:=Lib.hid hL1
    have HL2:=Lib.hid hL2
    clear hL1 hL2
    go_upto_if 72 with fail
    go_cut [7] from 73 to 92 (fun s7 wx=>Hid (lT w' wx (M.length+1) gA hA vA' D gB hB vB [] s7 L2)∧Hid (wx.cell? ⟨p,0,none⟩=some (.slice (some ⟨b,0,none⟩) M.length mc)))
    case first =>
     cases m
     ·have e2:L2=L1:=EL.out.2 (fun h=>by have:=MR.out.2 h; cases this)
      have EN4:=Lib.hid (show lT w' w3 (M.length+1) gA hA vA' D gB hB vB [] (.slice A7 k7 c7) L2 from by rw [e2]; exact EN3.out)
      have Y3:=Lib.hid y3'
      clear e2
      go_wp2_with fail
      go_meet
      case rel=>exact ⟨EN4,Y3⟩
     ·have e2:L2=L1++[pl]:=EL.out.1 (MR.out.1 rfl)
      obtain ⟨i0,hi,hz0,hz1,hz2⟩:=info_parts yE
      have O1:=Lib.hid (show w3.ownsRow w'.heap.size 3 1 (.slice A7 k7 c7) k7 (nums L1) from by have:=EN3.out.row; rw [K7.out] at this; exact this)
      have E2:=Lib.hid e2
      clear e2
      go_wp2_with (
       at_builtin
       refine wpList_append_own_at _ rfl _ _ 36 rfl w'.heap.size 3 i0 (.int .i64 0) 1 8 Tryz.underlying36 hi hz0 hz1 hz2 rfl (by decide) (.slice A7 k7 c7) _ _ rfl (World.ownsRow.alloc O1.out _) ⟨w3.heap.size,0,none⟩ 1 1 [.int .i64 (pl:Int)] rfl rfl (Aj rfl _ _) (yF _) (Mj (by omega)) (Mk (by omega)) (by have:=EN3.out.old.size; simp; omega) ?_
       intro v2 w4 hown hg _ hat
       have EN4:=Lib.hid (show lT w' w4 (M.length+1) gA hA vA' D gB hB vB [] v2 L2 from EN3.out.told (by
        rw [E2.out,List.length_append,K7.out]
        unfold nums at hown ⊢
        rw [List.map_append]
        exact hown) ((ak.aH ((Below.refl _ _).alloc (Nat.le_refl _) _) _).trans (ak.jB hg) (fun k _ e=>e)) (fun k hk=>by
        rcases hat with h1 | h1
        ·exact .inl (by rw [←h1]; exact hk)
        ·rw [h1] at hk
         injection hk with hk
         simp at hk
         exact .inr (by omega)))
       have Y4:=Lib.hid (show w4.cell? ⟨p,0,none⟩=some (.slice (some ⟨b,0,none⟩) M.length mc) from (EN4.out.old.cell (p:=⟨p,0,none⟩) PL.out).trans KP.out.1)
       clear hown hg hat)
      go_meet
      case rel=>exact ⟨EN4,Y4⟩
    case rest =>
     obtain ⟨EN5,Y5⟩:=hcut
     clear MR EL EN3 K7 y3' hkb
     cases ed
     ·have hne:pl≠n:=fun h=>by rw [decide_eq_true h] at hed; cases hed
      have hlt:pl<l.length:=by rw [HL.out]; omega
      obtain ⟨r,hr⟩:∃r,l[pl]? = some r:=⟨_,List.getElem?_eq_getElem hlt⟩
      have q5:=HQ.out.below EN5.out.old
      obtain ⟨bA,oA,rfl,_,hcA⟩:=q5.spot (by omega)
      have c5:wc.cell? ⟨bA,oA+pl,none⟩=some (.int .i32 r):=hcA pl _ (by unfold bI; rw [List.getElem?_map,hr]; rfl)
      have hp0:(0:Int)≤(pl:Int):=by omega
      have hp1:(pl:Int)<(n:Int):=by omega
      have hpi:IntKind.i64.wrap ((pl:Int)+1)=(pl:Int)+1:=IntWalk.i64_in _ (by omega)
      have STP:=Lib.hid (Qc r B w'.heap.size p M st gA hA gB hB vA' vB D [] wc (MM.out.below (EN5.out.old.mono hB0)) hB0 EN5.out.old.size EN5.out.one EN5.out.two EN5.out.apart)
      have HR:=Lib.hid hr
      clear hcA q5 hne hlt hed hbg b1 b2 b3 b4 hr
      go_wp2_with fail
      refine STP.out.mono ?_
      rintro e w6 ⟨rfl,vB2,E,d6,go⟩
      have EN6:=Lib.hid ((EN5.out.swap.did d6).swap)
      have SD6:=Lib.hid (MZ (E:=E) hap CL.out (fun q=>by rw [go q,List.take_length]; simp only [Vq HR.out]; simp))
      have CLR:=Lib.hid (Nf w'.heap.size gA hA vA' (M.length+1) D w6 EN6.out.one)
      clear d6 go STP EN5
      go_wp2_with fail
      refine CLR.out.mono ?_
      rintro e w7 ⟨rfl,vA3,d7⟩
      have J:=Lib.hid (show ∃hA vA C hB vB,lT w' w7 (M.length+1) gB hA vA C gA hB vB [] u7 (dJ (fun e=>gD l M st a M.length e) (pl+1))∧Seeds l M st a (pl+1) C from ⟨hB,vB2,E,hA,vA3,by rw [HL2.out]; exact (EN6.out.did d7).swap,SD6.out⟩)
      clear d7 CLR EN6 SD6 CL HL1 HL2
      go_wp2
      go_roundw
      case rel=>exact ⟨gB,gA,pl+1,rfl,rfl,by first | rfl | (congr 1; done) | (congr 1; omega),by omega,by omega,J⟩
      case measure=>first | (simp [intOf]; done) | (simp [intOf]; omega)
     ·obtain rfl:pl=n:=by
       have:=hed
       simpa using this
      obtain ⟨A5,c5,he⟩:=jA EN5.out.row
      have R:=Lib.hid (show jR (dJ (fun e=>gD l M st a M.length e) (pl+1)) w' (.returned u7) wc from ⟨_,rfl,by rw [HL2.out]; exact EN5.out.row,EN5.out.old⟩)
      clear EN5 CL hed
      go_wp2_with fail
      go_ret
      exact R.out
end NF
