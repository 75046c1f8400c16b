import Derived.Sort.CutIn
import Derived.Test.YteemnmalikomgaaGreatDoorQSwBase17
set_option maxRecDepth 100000
set_option maxHeartbeats 6400000
namespace Go.Proofs.YteemnmalikomgaaGreatDoor
open Go.ChangeShapes Go.WideShapes Go.ChangeAt Go.RowKit
namespace Ln
open Rw
attribute [local go_sem] Oper.semAt_some
theorem Kw (A:Option Addr) (n c:Nat) (x:Int) (w:World):Calls Tryz.prog 76 #[.slice A n c,.int .i64 x] w fun e w'=>e=.returned (.func (.func 111) #[] #[.pointer (some ⟨w.heap.size,0,none⟩),.pointer (some ⟨w.heap.size+1,0,none⟩)])∧w'=(w.alloc (.cells #[.slice A n c] 68)).alloc (.cells #[.int .i64 x] 3):=by
 go_enter Tryz.func76,Tryz.ntmps76
 go_wp2
 go_ret
 exact ⟨by simp,rfl⟩
theorem Js (x:Int) (w:World):Calls Tryz.prog 73 #[.int .i64 x] w fun e w'=>e=.returned (.bool (decide (2≤x) && decide (x≤300)))∧w'=w:=by
 go_enter Tryz.func73,Tryz.ntmps73
 by_cases h1:(2:Int)≤x
 ·by_cases h2:x≤300
  ·go_wp2_with fail
   go_ret
   exact ⟨by simp [h1,h2],rfl⟩
  ·go_wp2_with fail
   go_ret
   exact ⟨by simp [h2],rfl⟩
 ·go_wp2_with fail
  go_ret
  exact ⟨by simp; omega,rfl⟩
structure qH (w:World) (S Bx wv:Nat) (L:List LR) (W:World):Prop where
 old:Below w.heap.size w W
 low:w.heap.size≤S
 wb:W.heap[S]? = some (.cells #[.int .i64 (wv:Int)] 3 (0,0))
 box:∃A2 c2 rs,W.heap[Bx]? = some (.cells #[.slice A2 L.length c2] 78 (0,0))∧d9 W S (.slice A2 L.length c2) wv rs∧rs.map lr=L
namespace qH
variable {w W W':World} {S Bx wv:Nat} {L:List LR}
theorem rl (h:qH w S Bx wv L W) {X:Nat→Prop} (hX:∀j,j<w.heap.size→X j) (hB:X Bx) (hS:X S) (h2:2≤wv) (hr:Rl X W W'):qH w S Bx wv L W':=by
 obtain ⟨A2,c2,rs,e1,e2,e3⟩:=h.box
 refine ⟨h.old.trans ⟨hr.os,hr.tape,hr.output,hr.size,fun j hj=>hr.block j (Nat.lt_of_lt_of_le hj h.old.size) fun _ _=>hX j hj⟩,h.low,(hr.block S (Array.getElem?_eq_some_iff.1 h.wb).1 fun _ _=>hS).trans h.wb,A2,c2,rs,(hr.block Bx (Array.getElem?_eq_some_iff.1 e1).1 fun _ _=>hB).trans e1,e2.Gb h2 fun j cs ty hj ht=> ?_,e3⟩
 refine hr.block j (Array.getElem?_eq_some_iff.1 hj).1 fun cs' e=> ?_
 rw [hj] at e
 injection e with e
 injection e with _ e
 rcases ht with ht | ⟨ht,_⟩<;>rw [ht] at e<;>exact absurd e (by decide)
theorem laid (h:qH w S Bx wv L W) (hb:Laid W W'):qH w S Bx wv L W':=by
 obtain ⟨A2,c2,rs,e1,e2,e3⟩:=h.box
 exact ⟨h.old.trans (hb.mono h.old.size),h.low,(hb.block S (Array.getElem?_eq_some_iff.1 h.wb).1).trans h.wb,A2,c2,rs,(hb.block Bx (Array.getElem?_eq_some_iff.1 e1).1).trans e1,e2.laid hb,e3⟩
theorem put (h:qH w S Bx wv L W) (h2:2≤wv) {l:Nat} {o:Obj} (o':Obj) (hl:w.heap.size≤l) (ho:W.heap[l]? = some o) (hc:o.isCells=false):qH w S Bx wv L (W.putObj l o'):=by
 obtain ⟨A2,c2,rs,e1,e2,e3⟩:=h.box
 have hne:∀(j:Nat) (cs:Array Value) (ty:TypeId) (f:Nat×Nat),W.heap[j]? = some (.cells cs ty f)→j≠l:=fun j cs ty f hj e=>by
  rw [e,ho] at hj
  cases hj
  cases hc
 exact ⟨h.old.trans ⟨rfl,rfl,rfl,by simp [World.putObj],fun k hk=>World.putObj_heap_other (by omega)⟩,h.low,(World.putObj_heap_other (hne _ _ _ _ h.wb)).trans h.wb,A2,c2,rs,(World.putObj_heap_other (hne _ _ _ _ e1)).trans e1,e2.Gb h2 fun j cs ty hj _=>World.putObj_heap_other (hne _ _ _ _ hj),e3⟩
end qH
theorem jY.rl {S Bl Bw n c wv:Nat} {X:Nat→Prop} {A:Option Addr} {l:List au} {W W':World} (h:jY S Bl Bw A n c wv l W) (hr:Rl X W W') (h1:X Bl) (h2:X Bw) (h3:∀j,j<S→X j):jY S Bl Bw A n c wv l W' :=
 ⟨(hr.block Bl (Array.getElem?_eq_some_iff.1 h.bl).1 fun _ _=>h1).trans h.bl,(hr.block Bw (Array.getElem?_eq_some_iff.1 h.bw).1 fun _ _=>h2).trans h.bw,h.sq.carry (fun p hp=>by unfold World.cell?; rw [hr.block p.block (Nat.lt_of_lt_of_le hp h.big) fun _ _=>h3 _ hp]),Nat.le_trans h.big hr.size⟩
theorem bT.cell {S Bl Bw g:Nat} {X:Nat→Prop} {W:World} (hg:S≤g) (h1:g≠Bl) (h2:g≠Bw) {cs:Array Value} {ty:TypeId} (hb:W.heap[g]? = some (.cells cs ty (0,0))) (h3:ty≠128) (h4:ty=76→cs.size≠3) (k:Nat) (v:Value):bT S Bl Bw X W (W.setCell ⟨g,k,none⟩ v) :=
 ⟨by simp,fun j hj=>Below.heap_setCell _ _ _ _ (fun e=>by
  have e':j=g:=e
  rcases hj with hj | hj | hj | ⟨⟨cs',ty',hj,ht⟩,_⟩
  ·omega
  ·omega
  ·omega
  ·rw [e',hb] at hj
   injection hj with hj
   injection hj with e1 e2
   rw [←e1,←e2] at ht
   rcases ht with ht | ⟨ht,hz⟩
   ·exact h3 ht
   ·exact h4 ht hz)⟩
theorem Rf (w:Nat) (ys:List Pl):(dW w ys).length≤ys.length+1:=by
 refine jU (P:=fun ys=>(dW w ys).length≤ys.length+1) (by simp [dW]) (fun l x ih=> ?_) ys
 rw [iH,List.length_append,List.length_singleton]
 unfold vU
 rw [List.length_modify]
 split
 ·rw [List.length_append,List.length_modify,List.length_singleton]; omega
 ·omega
theorem vW (f:LR→LR):∀ {rs:List aI} {q:Nat} {r r':aI},rs[q]? = some r→lr r'=f (lr r)→(rs.set q r').map lr=(rs.map lr).modify q f
 | [],q,r,r',h,_=>by simp at h
 | x::rs,0,r,r',h,e=>by
  simp at h
  subst h
  simp [e]
 | x::rs,q+1,r,r',h,e=>by
  simp only [List.set_cons_succ,List.map_cons,List.modify_succ_cons]
  rw [vW f (by simpa using h) e]
structure Mid (w V:World) (D S Bx Bl P1 wv pr pc:Nat) (x:au) (A:Option Addr) (n c:Nat) (l:List au) (L1:List LR) (W:World):Prop where
 keep:KeepsFrom D V W
 lv:bT S Bl (Bl+1) (fun j=>j<D) V W
 box:qH w S Bx wv L1 W
 src:jY S Bl (Bl+1) A n c wv l W
 pos:W.heap[P1]? = some (.cells #[.int .i64 (pr:Int),.int .i64 (pc:Int)] 128 (0,0))
 cel:W.heap[P1+1]? = some (.cells #[.int .i32 x.1,.int .i64 x.2.1,.int .i64 x.2.2] 76 (0,0))
 big:P1+2≤W.heap.size
def pushed (w:Nat) (L:List LR) (pr:Nat):List LR:=if pr=L.length then L.modify (L.length - 1) (fun r=>(true,r.2))++[(false,av w)] else L
theorem modify_eq {α:Type} {L:List α} {q:Nat} {x:α} {f g:α→α} (h:L[q]? = some x) (e:f x=g x):L.modify q f=L.modify q g:=by
 refine List.ext_getElem? fun k=> ?_
 rw [List.getElem?_modify,List.getElem?_modify]
 by_cases hq:q=k
 ·subst hq
  simp [h,e]
 ·simp [hq]
theorem OG {α:Type} (L:List α) (q:Nat) (f g:α→α):(L.modify q f).modify q g=L.modify q fun x=>g (f x):=by
 refine List.ext_getElem? fun k=> ?_
 rw [List.getElem?_modify,List.getElem?_modify,List.getElem?_modify]
 by_cases hq:q=k
 ·subst hq
  cases L[q]?<;>simp
 ·simp [hq]
theorem Uw {l:List au} {k:Nat} (x:au) (h:k<l.length):mJ l k [x]=l.set k x:=by
 unfold mJ
 rw [List.set_eq_take_append_cons_drop,if_pos h]
 simp
theorem Ux {l:List au} {k:Nat} (x y:au) (h:k+1<l.length):mJ l k [x,y]=(l.set k x).set (k+1) y:=by
 unfold mJ
 rw [List.set_eq_take_append_cons_drop (l:=l.set k x),if_pos (by rw [List.length_set]; exact h),List.take_set,List.drop_set,if_pos (by omega)]
 rw [List.set_eq_take_append_cons_drop,if_pos (by rw [List.length_take]; omega)]
 have e1:(l.take (k+1)).take k=l.take k:=by rw [List.take_take,Nat.min_eq_left (by omega)]
 have e2:(l.take (k+1)).drop (k+1)=[]:=List.drop_eq_nil_of_le (by rw [List.length_take]; omega)
 rw [e1,e2]
 simp
theorem Rh (w:World) (g n c m:Nat) (h:m<n) (hc:n≤c):(Instr.sliceAt 68 (.slice (some ⟨g,0,none⟩) n c) (some (.int .i64 (m:Int))) none none).run Tryz.prog w=.ok (.slice (some ⟨g,m*3,none⟩) (n - m) (c - m)) w:=by
 have hz:(sizeOf (Tryz.prog.elem 68)).run Tryz.prog w=.ok 3 w:=by kernel_rfl
 rw [run_sliceAt_slice _ _ _ _ _ _ Tryz.underlying68,run_slice_l _ _ _ _ _ Tryz.underlying68 _ _ (by omega) (by omega),hz]
 have hne:c≠m:=by omega
 simp [Result.andThen,sliced,Af,hne]
theorem Mid.put {w V W:World} {D S Bx Bl P1 wv pr pc n c c2 g:Nat} {x:au} {A A2:Option Addr} {l:List au} {L1:List LR} {rs:List aI} {r3:aI} (hM:Mid w V D S Bx Bl P1 wv pr pc x A n c l L1 W) (hS:w.heap.size=S) (h2:2≤wv)
  (hb:W.heap[Bx]? = some (.cells #[.slice A2 L1.length c2] 78 (0,0))) (sh:d9 W S (.slice A2 L1.length c2) wv rs) (hm:rs.map lr=L1) (hr:rs[pr]? = some r3) (hA:r3.A=some ⟨g,0,none⟩) (j:Nat) (y:au) (hy : -2147483648≤y.1∧y.1≤2147483647) :
  Mid w V D S Bx Bl P1 wv pr pc x A n c l (L1.modify pr fun r'=>(r'.1,r'.2.set j y)) (fG W g j y)∧(fG W g j y).heap[Bx]? = some (.cells #[.slice A2 (L1.modify pr fun r'=>(r'.1,r'.2.set j y)).length c2] 78 (0,0))∧d9 (fG W g j y) S (.slice A2 (L1.modify pr fun r'=>(r'.1,r'.2.set j y)).length c2) wv (rs.set pr { r3 with l:=r3.l.set j y })∧(rs.set pr { r3 with l:=r3.l.set j y }).map lr=L1.modify pr fun r'=>(r'.1,r'.2.set j y):=by
 obtain ⟨o1,-,-⟩:=sh.own.each _ (List.mem_of_getElem? hr)
 obtain ⟨e1,e2,-⟩:=sh.row _ (List.mem_of_getElem? hr)
 have hh:W.ownsRow S 76 3 (.slice r3.A r3.n r3.c) r3.l.length (flat r3.l):=o1
 rw [hA] at hh
 obtain ⟨g',cap,cur,e,hSg,hg,hcap,-,hz,-⟩:=hh.2.resolve_left (fun h=>by cases h.1)
 injection e with e
 injection e with e
 have eg:g=g':=by injection e
 subst eg
 have hne:∀(q:Nat) (cs:Array Value) (ty:TypeId),W.heap[q]? = some (.cells cs ty (0,0))→ty≠76∨cs.size=3→q≠g:=fun q cs ty hq ht eq=>by
  rw [eq,hg] at hq
  injection hq with hq
  injection hq with k1 k2
  rcases ht with ht | ht
  ·exact ht k2.symm
  ·rw [←k1] at ht; omega
 have oth:∀q,q≠g→(fG W g j y).heap[q]? = W.heap[q]?:=fun q hq=>vV W g j y hq
 have hsz:(fG W g j y).heap.size=W.heap.size:=by simp [fG]
 have lv:bT S Bl (Bl+1) (fun j=>j<D) W (fG W g j y):=⟨by rw [hsz]; exact Nat.le_refl _,fun q hq=>oth q (by
  rcases hq with hq | rfl | rfl | ⟨⟨cs,ty,hq,ht⟩,_⟩
  ·omega
  ·exact hne _ _ _ hM.src.bl (.inl (by decide))
  ·exact hne _ _ _ hM.src.bw (.inl (by decide))
  ·refine hne _ _ _ hq ?_
   rcases ht with rfl | ⟨rfl,ht⟩
   ·exact .inl (by decide)
   ·exact .inr ht)⟩
 have hb':(fG W g j y).heap[Bx]? = some (.cells #[.slice A2 (L1.modify pr fun r'=>(r'.1,r'.2.set j y)).length c2] 78 (0,0)):=by
  rw [List.length_modify]
  exact (oth Bx (hne _ _ _ hb (.inl (by decide)))).trans hb
 have sh':d9 (fG W g j y) S (.slice A2 (L1.modify pr fun r'=>(r'.1,r'.2.set j y)).length c2) wv (rs.set pr { r3 with l:=r3.l.set j y }):=by
  rw [List.length_modify]
  exact sh.put hr hA y hy
 have hm':(rs.set pr { r3 with l:=r3.l.set j y }).map lr=L1.modify pr fun r'=>(r'.1,r'.2.set j y):=by
  rw [←hm]
  exact vW _ hr rfl
 refine ⟨⟨hM.keep.trans ?_,hM.lv.trans lv,⟨hM.box.old.trans ⟨rfl,rfl,rfl,by rw [hsz]; exact Nat.le_refl _,fun q hq=>oth q (by omega)⟩,hM.box.low,(oth S (hne _ _ _ hM.box.wb (.inl (by decide)))).trans hM.box.wb,A2,c2,_,hb',sh',hm'⟩,hM.src.kept lv,(oth P1 (hne _ _ _ hM.pos (.inl (by decide)))).trans hM.pos,(oth (P1+1) (hne _ _ _ hM.cel (.inr rfl))).trans hM.cel,by rw [hsz]; exact hM.big⟩,hb',sh',hm'⟩
 exact ((KeepsOthers.setCell _ _ _).from _).trans (((KeepsOthers.setCell _ _ _).from _).trans ((KeepsOthers.setCell _ _ _).from _))
theorem Mid.laid {w V W W':World} {D S Bx Bl P1 wv pr pc n c:Nat} {x:au} {A:Option Addr} {l:List au} {L1:List LR} (hM:Mid w V D S Bx Bl P1 wv pr pc x A n c l L1 W) (hb:Laid W W') (h1:S≤W.heap.size) (h2:Bl<W.heap.size) (h3:Bl+1<W.heap.size):Mid w V D S Bx Bl P1 wv pr pc x A n c l L1 W' :=
 ⟨hM.keep.trans (o9 hb),hM.lv.trans (bT.laid hb h1 h2 h3),hM.box.laid hb,hM.src.laid hb,(hb.block P1 (Array.getElem?_eq_some_iff.1 hM.pos).1).trans hM.pos,(hb.block (P1+1) (Array.getElem?_eq_some_iff.1 hM.cel).1).trans hM.cel,Nat.le_trans hM.big hb.size⟩
def V6 (w:World) (x:Int) (l:List au) (e:Ending) (w':World):Prop :=
 (2≤x∧x≤300∧gK l=true→∃v rs,e=.returned v∧d9 w' w.heap.size v x.toNat rs∧rs.map lr=jm x.toNat l)∧(¬(2≤x∧x≤300∧gK l=true)→e=.returned (.slice none 0 0))∧Below w.heap.size w w'
theorem Ky (A:Option Addr) (n c:Nat) (l:List au) (x:Int) (w:World) (hs:dw w) (hl:∀c∈l,-2147483648≤c.1∧c.1≤2147483647) (hq:Sq w w.heap.size 3 n A (flat l)) (hn:n≤1000000) :
  Calls Tryz.prog 40 #[.slice A n c,.int .i64 x] w fun e w'=>V6 w x l e w':=by
 obtain ⟨i0,hi0,hz0,hz1,hz2⟩:=info_parts Xt
 obtain ⟨S,hS⟩:∃S,w.heap.size=S:=⟨_,rfl⟩
 have hll:l.length=n:=by have:=hq.len; rw [aX] at this; omega
 obtain ⟨w1,hw1⟩:∃w1,w.alloc (.cells #[.int .i64 x] 3)=w1:=⟨_,rfl⟩
 have b1:Below w.heap.size w w1:=by rw [←hw1]; exact (Below.refl _ _).alloc (Nat.le_refl _) _
 have z1:w1.heap.size=S+1:=by rw [←hw1,←hS]; simp
 have x1:w1.heap[S]? = some (.cells #[.int .i64 x] 3 (0,0)):=by rw [←hw1,←hS]; exact heap_alloc_new w _
 have MW:=Lib.hid (Js x)
 have CL:=Lib.hid (fun (W:World) (hb:Below w.heap.size w W)=>Uv A n c l W (hs.below hb hs.size) hl ((hq.below hb).up hb.size) hn)
 have RB:=Lib.hid (FJ x)
 have PL:=Lib.hid (Kw A n c x)
 have B1:=Lib.hid b1
 have Z1:=Lib.hid z1
 have X1:=Lib.hid x1
 have HW:=Lib.hid hw1
 have HS:=Lib.hid hS
 have HQ:=Lib.hid hq
 have HLS:=Lib.hid hl
 have LN:=Lib.hid hll
 have c1:w1.cell? ⟨S,0,none⟩=some (.int .i64 x):=cell_of_row _ _ 0 _ _ (0,0) x1
 clear hs hl hq b1 z1 x1 hw1 hll
 refine (callsIn_wide (n:=3)).1 (callsIn_of_wp_marks Tryz.func40 rfl trivial ?_ rfl)
 simp only [Tryz.ntmps40,List.size_toArray,List.length_cons,List.length_nil,Nat.reduceAdd,Nat.reduceSub,Array.replicate_succ,Array.replicate_zero,List.push_toArray,List.append_toArray,List.nil_append,List.cons_append]
 refine wpIn_wide.2 ?_
 go_wp2_with fail
 rw [HW.out]
 refine (MW.out _).mono ?_
 rintro e w' ⟨rfl,rfl⟩
 obtain ⟨bw,hbw⟩:∃b,(decide (2≤x) && decide (x≤300))=b:=⟨_,rfl⟩
 rw [hbw]
 cases bw with
 | false =>
  have hno:¬(2≤x∧x≤300∧gK l=true):=fun h=>by simp at hbw; have:=hbw h.1; omega
  have NO:=Lib.hid hno
  clear hno hbw
  go_wp2_with fail
  refine ⟨_,by simp [results,go_sem],⟨fun h=>absurd h NO.out,fun _=>rfl,B1.out⟩⟩
 | true =>
  have hyes:2≤x∧x≤300:=by simpa using hbw
  have YES:=Lib.hid hyes
  clear hbw hyes
  go_wp2_with fail
  refine (CL.out _ B1.out).mono ?_
  rintro e w2 ⟨rfl,b2⟩
  have B2:=Lib.hid b2
  clear b2
  obtain ⟨bl,hbl⟩:∃b,gK l=b:=⟨_,rfl⟩
  rw [hbl]
  cases bl with
  | false =>
   have NO:=Lib.hid (show ¬(2≤x∧x≤300∧gK l=true) from fun h=>by rw [hbl] at h; exact absurd h.2.2 (by decide))
   clear hbl
   go_wp2_with fail
   refine ⟨_,by simp [results,go_sem],⟨fun h=>absurd h NO.out,fun _=>rfl,B1.out.trans (B2.out.mono B1.out.size)⟩⟩
  | true =>
   obtain ⟨wv,hwv⟩:∃wv:Nat,x=wv:=⟨x.toNat,by have:=YES.out.1; omega⟩
   subst hwv
   have LB:=Lib.hid hbl
   have W2:=Lib.hid (show 2≤wv∧wv≤300 from by have:=YES.out; omega)
   have hbk:kX (wv:Int)=wv:=by have:=W2.out; unfold kX; omega
   rw [hbk] at RB
   have c2:w2.cell? ⟨S,0,none⟩=some (.int .i64 (wv:Int)):=cell_of_row _ _ 0 _ _ (0,0) ((B2.out.block S (by have:=Z1.out; omega)).trans X1.out)
   clear hbl hbk c1
   go_wp2_with fail
   refine (RB.out _).mono ?_
   rintro e w3 ⟨g,rfl,h3,b3⟩
   have H3:=Lib.hid h3
   have B3:=Lib.hid b3
   have c3:w3.cell? ⟨S,0,none⟩=some (.int .i64 (wv:Int)):=cell_of_row _ _ 0 _ _ (0,0) ((b3.block S (by have:=Z1.out; have:=B2.out.size; omega)).trans ((B2.out.block S (by have:=Z1.out; omega)).trans X1.out))
   obtain ⟨w4,hw4⟩:∃w4,(w3.alloc (.cells #[.slice (some ⟨g,0,none⟩) wv wv,.bool false] 122)).alloc (.cells #[.slice (some ⟨w3.heap.size,0,none⟩) 1 1] 78)=w4:=⟨_,rfl⟩
   have b4:Below w3.heap.size w3 w4:=by rw [←hw4]; exact ((Below.refl _ _).alloc (Nat.le_refl _) _).alloc (by simp) _
   have z4:w4.heap.size=w3.heap.size+2:=by rw [←hw4]; simp
   have r4:w4.heap[w3.heap.size]? = some (.cells #[.slice (some ⟨g,0,none⟩) wv wv,.bool false] 122 (0,0)):=by rw [←hw4]; exact (Below.heap_alloc _ _ _ (by simp)).trans (heap_alloc_new w3 _)
   have o4:w4.heap[w3.heap.size+1]? = some (.cells #[.slice (some ⟨w3.heap.size,0,none⟩) 1 1] 78 (0,0)):=by rw [←hw4]; have:=heap_alloc_new (w3.alloc (.cells #[.slice (some ⟨g,0,none⟩) wv wv,.bool false] 122)) (.cells #[.slice (some ⟨w3.heap.size,0,none⟩) 1 1] 78); rwa [World.size_alloc] at this
   have B4:=Lib.hid b4
   have Z4:=Lib.hid z4
   have R4:=Lib.hid r4
   have O4:=Lib.hid o4
   have HW4:=Lib.hid hw4
   clear h3 b3 c2 b4 z4 r4 o4 hw4
   have c4:((w3.alloc (.cells #[.slice (some ⟨g,0,none⟩) wv wv,.bool false] 122)).alloc (.cells #[.slice (some ⟨w3.heap.size,0,none⟩) 1 1] 78)).cell? ⟨S,0,none⟩=some (.int .i64 (wv:Int)):=by
    rw [HW4.out]
    exact cell_of_row _ _ 0 _ _ (0,0) ((B4.out.block S (by have:=Z1.out; have:=B2.out.size; have:=B3.out.size; omega)).trans ((B3.out.block S (by have:=Z1.out; have:=B2.out.size; omega)).trans ((B2.out.block S (by have:=Z1.out; omega)).trans X1.out)))
   go_wp2_with fail
   rw [HW4.out]
   clear c3
   refine (PL.out _).mono ?_
   rintro e w5 ⟨rfl,h5⟩
   have H5:=Lib.hid h5
   clear h5 c4
   go_wp2_with fail
   obtain ⟨Bx,hBx⟩:∃Bx,w3.heap.size+1=Bx:=⟨_,rfl⟩
   obtain ⟨Bl,hBl⟩:∃Bl,w4.heap.size=Bl:=⟨_,rfl⟩
   rw [hBl]
   rw [hBx]
   have w12:∀x∈l,tY x:=fun x hx=>Ck (List.all_eq_true.1 LB.out x hx)
   have s1:S+1≤w3.heap.size:=by have:=Z1.out; have:=B2.out.size; have:=B3.out.size; omega
   have z5:w5.heap.size=Bl+2:=by rw [H5.out]; simp; omega
   have zb:Bx+1=Bl:=by have:=Z4.out; omega
   have b5:Below w4.heap.size w4 w5:=by rw [H5.out]; exact ((Below.refl _ _).alloc (Nat.le_refl _) _).alloc (by simp) _
   have old5:Below w.heap.size w w5:=B1.out.trans ((B2.out.mono B1.out.size).trans ((B3.out.mono (by have:=B1.out.size; have:=B2.out.size; omega)).trans ((B4.out.mono (by have:=HS.out; omega)).trans (b5.mono (by have:=HS.out; omega)))))
   have ls5:jY S Bl (Bl+1) A n c wv l w5:=by
    refine ⟨?_,?_,?_,by omega⟩
    ·rw [H5.out,←hBl]; exact (Below.heap_alloc _ _ _ (by simp)).trans (heap_alloc_new w4 _)
    ·rw [H5.out,←hBl]
     have:=heap_alloc_new (w4.alloc (.cells #[.slice A n c] 68)) (.cells #[.int .i64 (wv:Int)] 3)
     rwa [World.size_alloc] at this
    ·have:=HQ.out.below old5
     rw [HS.out] at this
     exact this
   have bx5:qH w S Bx wv (dW wv []) w5:=by
    refine ⟨old5,by rw [HS.out]; exact Nat.le_refl _,(b5.block S (by omega)).trans ((B4.out.block S (by omega)).trans ((B3.out.block S (by have:=Z1.out; have:=B2.out.size; omega)).trans ((B2.out.block S (by have:=Z1.out; omega)).trans X1.out))),some ⟨w3.heap.size,0,none⟩,1,[⟨some ⟨g,0,none⟩,wv,wv,false,av wv⟩],?_,⟨⟨?_,?_⟩,?_,by simp⟩,rfl⟩
    ·have:=(b5.block (w3.heap.size+1) (by omega)).trans O4.out
     rw [←hBx]
     exact this
    ·exact ⟨rfl,.inr ⟨w3.heap.size,1,_,rfl,by omega,(b5.block _ (by omega)).trans R4.out,Nat.le_refl _,by decide,rfl,rfl⟩⟩
    ·intro r hr
     rw [List.mem_singleton.1 hr]
     have hb:Below w3.heap.size w3 w5:=B4.out.trans (b5.mono (by omega))
     refine ⟨jq (nA H3.out hb) (by have:=Z1.out; have:=B2.out.size; omega),fun c hc=> ?_,?_⟩
     ·unfold av at hc
      rw [(List.mem_replicate.1 hc).2]
      decide
     ·have:=W2.out; show wv≤maxLen; unfold maxLen; omega
    ·intro r hr
     rw [List.mem_singleton.1 hr]
     exact ⟨rfl,by simp [av],g,rfl⟩
   have TL:=Lib.hid (Jr (X:=fun j=>j<w5.heap.size) (Kp:=bT S Bl (Bl+1) fun j=>j<w5.heap.size) ls5 w12 W2.out.1 W2.out.2 (fun _ h=>h) (fun _ _ h=>h) hn)
   have PF:=Lib.hid (V5 W2.out.1 l w12)
   have FIN:=Lib.hid (LQ W2.out.1 l w12).2.2
   obtain ⟨ys,hys⟩:∃ys,(aJ wv l).2=ys:=⟨_,rfl⟩
   have hyl:=(Cn W2.out.1 l w12).2.2
   rw [hys] at TL PF FIN hyl
   have YL:=Lib.hid (show ys.length≤2000000 from by have:=LN.out; omega)
   have BX:=Lib.hid bx5
   have LS:=Lib.hid ls5
   have SZ:=Lib.hid (show S<Bx∧Bx+1=Bl∧w5.heap.size=Bl+2 from ⟨by omega,zb,z5⟩)
   clear hyl w12 s1 z5 zb b5 old5 ls5 bx5 H5 R4 O4 Z4 B4 H3 B3 B2 B1 Z1 X1 HW HW4 hys hBl hBx MW CL PL
   refine Sm (Rl:=Rl fun j=>j<w5.heap.size) (Fit:=Jq ys) (Kp:=bT S Bl (Bl+1) fun j=>j<w5.heap.size) (N:=ys.length) (gf:=111) (lb:= #[.pointer (some ⟨Bl,0,none⟩),.pointer (some ⟨Bl+1,0,none⟩)]) (fun _ _ h=>Rl.laid h) Rl.other rfl (enters_of Tryz.func111 (by kernel_rfl) rfl) TL.out bT.trans
    (fun A B hA h=>bT.laid h (by have:=SZ.out; omega) (by have:=SZ.out; omega) (by have:=SZ.out; omega)) (fun W l o o' hl ho hc=>bT.put (by have:=SZ.out; omega) (by have:=SZ.out; omega) (by have:=SZ.out; omega) ho hc o') (fun k x W h=>by obtain ⟨y,_,rfl⟩:=h; rfl)
    (fun k W=>Hid (qH w S Bx wv (dW wv (ys.take k)) W∧jY S Bl (Bl+1) A n c wv l W∧w5.heap.size≤W.heap.size)) (fun _ _ _=>False)
    ?grow ?stay (fun _ _ _ _ h _=>h) (fun _ _ _ _ _ _ _ _ _ h=>h) (Lib.hid ⟨BX.out,LS.out,Nat.le_refl _⟩) ?round ?done (fun _ _ _ _ _ _ h _=>h.elim)
   case grow =>
    intro k W V h hr
    obtain ⟨h1,h2,h3⟩:=h.out
    exact Lib.hid ⟨h1.rl (fun j hj=>by have:=SZ.out; have:=HS.out; show j<w5.heap.size; omega) (by have:=SZ.out; show Bx<w5.heap.size; omega) (by have:=SZ.out; show S<w5.heap.size; omega) W2.out.1 hr,h2.rl hr (by have:=SZ.out; show Bl<w5.heap.size; omega) (by have:=SZ.out; show Bl+1<w5.heap.size; omega) (fun j hj=>by have:=SZ.out; show j<w5.heap.size; omega),Nat.le_trans h3 hr.size⟩
   case stay =>
    intro k W l' o o' hl' ho hc h
    obtain ⟨h1,h2,h3⟩:=h.out
    exact Lib.hid ⟨h1.put W2.out.1 o' (by have:=SZ.out; have:=HS.out; omega) ho hc,h2.kept (bT.put (X:=fun _=>False) (by have:=SZ.out; omega) (by have:=SZ.out; omega) (by have:=SZ.out; omega) ho hc o'),by simpa [World.putObj] using h3⟩
   case round =>
    rintro l2 k2 y W hk2 hl2 ⟨o,ho,hoc⟩ hi ⟨⟨⟨pr,pc⟩,r,m,a⟩,hy,rfl⟩
    have bb:Laid W ((W.alloc (.cells #[.int .i64 (pr:Int),.int .i64 (pc:Int)] 128)).alloc (.cells #[.int .i32 r,.int .i64 m,.int .i64 a] 76)):=((Below.refl _ _).alloc (Nat.le_refl _) _).alloc (by simp) _
    simp only
    gi_wp2
    refine ⟨bb,fun o1=> ?_⟩
    have hlt2:l2<W.heap.size:=(Array.getElem?_eq_some_iff.1 ho).1
    have ho':=(bb.block l2 hlt2).trans ho
    obtain ⟨hi1,hi2,hi3⟩:=hi.out
    have zz:((W.alloc (.cells #[.int .i64 (pr:Int),.int .i64 (pc:Int)] 128)).alloc (.cells #[.int .i32 r,.int .i64 m,.int .i64 a] 76)).heap.size=W.heap.size+2:=by simp
    have q1:((W.alloc (.cells #[.int .i64 (pr:Int),.int .i64 (pc:Int)] 128)).alloc (.cells #[.int .i32 r,.int .i64 m,.int .i64 a] 76)).heap[W.heap.size]? = some (.cells #[.int .i64 (pr:Int),.int .i64 (pc:Int)] 128 (0,0)):=(Below.heap_alloc _ _ _ (by simp)).trans (heap_alloc_new W _)
    have q2:((W.alloc (.cells #[.int .i64 (pr:Int),.int .i64 (pc:Int)] 128)).alloc (.cells #[.int .i32 r,.int .i64 m,.int .i64 a] 76)).heap[W.heap.size+1]? = some (.cells #[.int .i32 r,.int .i64 m,.int .i64 a] 76 (0,0)):=by
     have:=heap_alloc_new (W.alloc (.cells #[.int .i64 (pr:Int),.int .i64 (pc:Int)] 128)) (.cells #[.int .i32 r,.int .i64 m,.int .i64 a] 76)
     rwa [World.size_alloc] at this
    have H2:=Lib.hid ((hi1.laid bb).put W2.out.1 o1 (by have:=SZ.out; have:=HS.out; omega) ho' hoc)
    have L2:=Lib.hid ((hi2.laid bb).kept (bT.put (X:=fun _=>False) (by have:=SZ.out; omega) (by have:=SZ.out; omega) (by have:=SZ.out; omega) ho' hoc o1))
    have PB:=Lib.hid ((World.putObj_heap_other (o:=o1) (show W.heap.size≠l2 by omega)).trans q1)
    have CB:=Lib.hid ((World.putObj_heap_other (o:=o1) (show W.heap.size+1≠l2 by omega)).trans q2)
    generalize hP1:W.heap.size=P1 at PB CB hi3 zz hlt2 ⊢
    have Z2:=Lib.hid (show (((W.alloc (.cells #[.int .i64 (pr:Int),.int .i64 (pc:Int)] 128)).alloc (.cells #[.int .i32 r,.int .i64 m,.int .i64 a] 76)).putObj l2 o1).heap.size=P1+2∧w5.heap.size≤P1 from ⟨by simpa [World.putObj] using zz,hi3⟩)
    clear q1 q2 zz bb ho' ho hi hi1 hi2 hi3 hlt2
    generalize ((W.alloc (.cells #[.int .i64 (pr:Int),.int .i64 (pc:Int)] 128)).alloc (.cells #[.int .i32 r,.int .i64 m,.int .i64 a] 76)).putObj l2 o1=V2 at H2 L2 PB CB Z2 ⊢
    clear hP1
    have hnx:dW wv (ys.take (k2+1))=(pushed wv (dW wv (ys.take k2)) pr).modify pr (fun r'=>(r'.1,mJ r'.2 pc (both (r,m,a)))):=by rw [take_one hy,iH]; rfl
    obtain ⟨f1,f2,f3,f4⟩:=PF.out _ _ hy
    have hL1:=Rc wv (ys.take k2)
    have hbd:(dW wv (ys.take k2)).length≤2000001:=by
     have h1:=Rf wv (ys.take k2)
     have h2:=YL.out
     rw [List.length_take] at h1
     omega
    generalize dW wv (ys.take k2)=L0 at hnx f1 hL1 H2 hbd
    have NX:=Lib.hid hnx
    have FT:=Lib.hid (And.intro f1 (And.intro f2 (And.intro f3 f4)))
    have BD:=Lib.hid hbd
    have LP:=Lib.hid hL1
    have M0:=Lib.hid (show Mid w V2 w5.heap.size S Bx Bl P1 wv pr pc (r,m,a) A n c l L0 V2 from ⟨⟨Nat.le_refl _,fun _ _ _ h _=>h⟩,⟨Nat.le_refl _,fun _ _=>rfl⟩,H2.out,L2.out,PB.out,CB.out,by have:=Z2.out; omega⟩)
    obtain ⟨A2,c2,rs,hb2,sh2,hm2⟩:=H2.out.box
    have k0:V2.cell? ⟨P1,0,none⟩=some (.int .i64 (pr:Int)):=cell_of_row _ _ 0 _ _ (0,0) PB.out
    have k1:V2.cell? ⟨P1,1,none⟩=some (.int .i64 (pc:Int)):=cell_of_row _ _ 1 _ _ (0,0) PB.out
    have c3:V2.cell? ⟨Bx,0,none⟩=some (.slice A2 L0.length c2):=cell_of_row _ _ 0 _ _ (0,0) hb2
    have HB:=Lib.hid hb2
    have SH:=Lib.hid sh2
    have HM:=Lib.hid hm2
    clear hnx f1 f2 f3 f4 hL1 hbd hb2 sh2 hm2 H2 L2 PB CB hy
    gi_upto_if 29 with fail
    gi_cut [] from 25 (fun wx=>Hid (Mid w V2 w5.heap.size S Bx Bl P1 wv pr pc (r,m,a) A n c l (pushed wv L0 pr) wx))
    case first =>
     by_cases hp:pr=L0.length
     ·subst hp
      obtain ⟨q,hq⟩:∃q,L0.length=q+1:=⟨L0.length - 1,by have:=LP.out; omega⟩
      have hrl:rs.length=L0.length:=by rw [←HM.out,List.length_map]
      obtain ⟨gh,cap,cur,eA,hgS,hgb,hgc,hgm,hgz,-⟩:=(show ∃gh cap cur,Value.slice A2 L0.length c2=.slice (some ⟨gh,0,none⟩) rs.length cap∧S≤gh∧V2.heap[gh]? = some (.cells cur 122 (0,0))∧rs.length≤cap∧cap≤maxLen∧cur.size=cap*2∧cur.toList.take (rs.length*2)=rs.flatMap aI.vals from by
       rcases SH.out.own.own.2 with ⟨_,h0⟩ | h
       ·omega
       ·exact h)
      injection eA with eA eA1 eA2
      subst eA eA2
      obtain ⟨r0,hr0⟩:∃r0,rs[q]? = some r0:=⟨_,List.getElem?_eq_getElem (by omega)⟩
      obtain ⟨b',off',eb,-,q0,q1⟩:=sM SH.out.own.rws.2.sq hr0 (show q<L0.length by omega)
      injection eb with eb
      injection eb with eb1 eb2
      subst eb1 eb2
      rw [Nat.zero_add] at q0 q1
      have fz:=frozen_of_row V2 gh (q*2+1) _ _ hgb
      have e1:wrap64 (q:Int)=(q:Int):=by rw [←IntWalk.i64_left]; unfold maxLen at hgm; exact IntWalk.i64_in _ (by omega)
      have e2:q<L0.length:=by omega
      have HGB:=Lib.hid hgb
      have HR0:=Lib.hid hr0
      have QL:=Lib.hid (And.intro hq hrl)
      have GS:=Lib.hid hgS
      gi_wp2_with fail
      clear q0 q1 fz e1 e2 k0 k1 c3 hgb hr0 hgc hgm hgz hrl hgS
      have hgB:gh≠Bx:=fun e=>by have:=HGB.out; rw [e,HB.out] at this; injection this with this; injection this with _ this; exact absurd this (by decide)
      have hgl:gh≠Bl:=fun e=>by have:=HGB.out; rw [e,M0.out.src.bl] at this; injection this with this; injection this with _ this; exact absurd this (by decide)
      have hgw:gh≠Bl+1:=fun e=>by have:=HGB.out; rw [e,M0.out.src.bw] at this; injection this with this; injection this with _ this; exact absurd this (by decide)
      have hgs:gh≠S:=fun e=>by have:=HGB.out; rw [e,M0.out.box.wb] at this; injection this with this; injection this with _ this; exact absurd this (by decide)
      have hgp:gh≠P1:=fun e=>by have:=HGB.out; rw [e,M0.out.pos] at this; injection this with this; injection this with _ this; exact absurd this (by decide)
      have hgc:gh≠P1+1:=fun e=>by have:=HGB.out; rw [e,M0.out.cel] at this; injection this with this; injection this with _ this; exact absurd this (by decide)
      have sh3:=SH.out.Xu HR0.out true
      have hm3:(rs.set q { r0 with wrap:=true }).map lr=L0.modify q (fun r=>(true,r.2)):=by rw [←HM.out]; exact vW _ HR0.out rfl
      have lv3:bT S Bl (Bl+1) (fun j=>j<w5.heap.size) V2 (V2.setCell ⟨gh,q*2+1,none⟩ (.bool true)):=bT.cell GS.out hgl hgw HGB.out (by decide) (fun e=>absurd e (by decide)) _ _
      have oth:∀j,j≠gh→(V2.setCell ⟨gh,q*2+1,none⟩ (.bool true)).heap[j]? = V2.heap[j]?:=fun j hj=>Below.heap_setCell _ _ _ _ hj
      have kp3:KeepsFrom w5.heap.size V2 (V2.setCell ⟨gh,q*2+1,none⟩ (.bool true)):=(KeepsOthers.setCell _ _ _).from _
      have old3:Below w.heap.size w (V2.setCell ⟨gh,q*2+1,none⟩ (.bool true)):=by
       have h0:=M0.out.box.old
       refine h0.trans ⟨rfl,rfl,rfl,by simp,fun j hj=>oth j (by have:=GS.out; have:=HS.out; omega)⟩
      have src3:=M0.out.src.kept lv3
      have wb3:=(oth S (fun e=>hgs e.symm)).trans M0.out.box.wb
      have hb3:=(oth Bx (fun e=>hgB e.symm)).trans HB.out
      have ps3:=(oth P1 (fun e=>hgp e.symm)).trans M0.out.pos
      have cl3:=(oth (P1+1) (fun e=>hgc e.symm)).trans M0.out.cel
      have sz3:(V2.setCell ⟨gh,q*2+1,none⟩ (.bool true)).heap.size=V2.heap.size:=by simp
      generalize V2.setCell ⟨gh,q*2+1,none⟩ (.bool true)=V3 at sh3 lv3 kp3 old3 src3 wb3 hb3 ps3 cl3 sz3 ⊢
      clear oth hgB hgl hgw hgs hgp hgc
      have SH3:=Lib.hid sh3
      have M3:=Lib.hid (And.intro kp3 (And.intro lv3 (And.intro old3 (And.intro src3 (And.intro wb3 (And.intro hb3 (And.intro ps3 (And.intro cl3 (And.intro sz3 hm3)))))))))
      clear sh3 lv3 kp3 old3 src3 wb3 hb3 ps3 cl3 sz3 hm3
      have D3:Laid V3 V3.drew:=(Below.refl _ _).drew
      refine Ord.GZ (a:= ?fr) (S:=fun _=>True) (n:=6) (R:=fun a' W=>Fr 36 40 ?fr a'∧Hid (Mid w V2 w5.heap.size S Bx Bl P1 wv L0.length pc (r,m,a) A n c l (pushed wv L0 L0.length) W)) (by kernel_rfl) (by kernel_rfl) (by kernel_rfl) ?_ ?_
      ·obtain ⟨kp3,lv3,old3,src3,wb3,hb3,ps3,cl3,sz3,hm3⟩:=M3.out
       refine XU (w1:=V3.drew) (m:=L0.length) (S:=Bx) (B:=S) (A2:=some ⟨gh,0,none⟩) (c2:=c2) (vs:=(rs.set q { r0 with wrap:=true }).flatMap aI.vals) (x:=.int .i64 (wv:Int)) (bx:=S) (G:=fun W y=>Laid V3 W∧∃g5,y=.agg #[.slice (some ⟨g5,0,none⟩) wv wv,.bool false]∧cZ W V3.heap.size (.slice (some ⟨g5,0,none⟩) wv wv) (av wv)) ⟨by kernel_rfl,by kernel_rfl⟩ hi0 hz0 hz1 hz2 hb3 ?_ ?_ wb3 ?_ ?_ ?_ ?_ _ ?_ ?_ ?_ ?_
       ·refine (RB.out _).mono ?_
        rintro e W3 ⟨g5,rfl,h5,b5⟩
        exact ⟨_,_,_,_,rfl,D3.trans b5,g5,rfl,h5⟩
       ·rintro W3 y ⟨b5,_⟩
        exact ⟨⟨b5.os,b5.tape,b5.output,b5.size,b5.block⟩,by have:=(SH3.out.own.laid b5).own; rw [List.length_set,QL.out.2] at this; exact this⟩
       ·intro j hj e
        injection hj with hj
        subst e
        have hj':gh=j:=hj
        subst hj'
        have:=HGB.out
        rw [HB.out] at this
        injection this with this
        injection this with _ this
        exact absurd this (by decide)
       ·have:=Z2.out; have:=SZ.out; show S≤V3.heap.size; omega
       ·have:=BD.out; unfold maxLen; omega
       ·have:=BD.out; omega
       ·rfl
       ·rfl
       ·rfl
       ·rintro a3 W3 A5 n5 c5 b5' A4 c4 W4 F ⟨b5,g5,e5,h5⟩ ho hg
        simp at e5
        obtain ⟨⟨e51,e52,e53⟩,e54⟩:=e5
        replace e52:=e52.symm
        replace e53:=e53.symm
        subst e51 e52 e53 e54
        have b6:Laid V3 (W3.alloc (.cells #[.slice (some ⟨g5,0,none⟩) wv wv,.bool false] 122)):=b5.alloc b5.size _
        have hlen:(rs.set q { r0 with wrap:=true }).length=L0.length:=by rw [List.length_set,QL.out.2]
        have sh4:d9 W4 S (.slice A4 (L0.length+1) c4) wv (rs.set q { r0 with wrap:=true }++[⟨some ⟨g5,0,none⟩,wv,wv,false,av wv⟩]):=by
         refine (SH3.out.laid b6).snoc (x:=⟨some ⟨g5,0,none⟩,wv,wv,false,av wv⟩) (B2:=V3.heap.size) (nA h5 ((Below.refl _ _).alloc (Nat.le_refl _) _)) (by have:=Z2.out; have:=SZ.out; omega) ?_ ?_ ?_ rfl (by simp [av]) ⟨g5,rfl⟩ ?_ hg
         ·intro r hr q' hq'
          have hh:V3.ownsRow S 76 3 (.slice r.A r.n r.c) r.l.length (flat r.l):=(SH3.out.own.each r hr).1
          exact (hh.lt q' (by rw [hq']; rfl)).2
         ·intro c' hc'
          unfold av at hc'
          rw [(List.mem_replicate.1 hc').2]
          decide
         ·have:=W2.out; show wv≤maxLen; unfold maxLen; omega
         ·rw [hlen]; exact ho
        have hz4:P1+2≤W4.heap.size:=by have h1:=b6.size; have h2:=hg.size; have:=Z2.out; omega
        have oth:∀j,j<V3.heap.size→j≠gh→j≠Bx→(W4.setCell ⟨Bx,0,none⟩ (.slice A4 (L0.length+1) c4)).heap[j]? = V3.heap[j]?:=fun j h1 h2 h3 =>
         (Below.heap_setCell _ _ _ _ h3).trans ((hg.block j (Nat.lt_of_lt_of_le h1 b6.size) (fun e=>by injection e with e; have e':j=gh:=e; exact h2 e')).trans (b6.block j h1))
        obtain ⟨cg,hcg⟩:=qG SH3.out.own.own gh rfl
        have tg:∀(j:Nat) (cs:Array Value) (ty:TypeId),V3.heap[j]? = some (.cells cs ty (0,0))→ty≠122→ty≠78→(W4.setCell ⟨Bx,0,none⟩ (.slice A4 (L0.length+1) c4)).heap[j]? = V3.heap[j]?:=fun j cs ty hj h1 h2 =>
         oth j (Array.getElem?_eq_some_iff.1 hj).1 (fun e=>by rw [e,hcg] at hj; injection hj with hj; injection hj with _ hj; exact h1 hj.symm) (fun e=>by rw [e,hb3] at hj; injection hj with hj; injection hj with _ hj; exact h2 hj.symm)
        have hBz:=(Array.getElem?_eq_some_iff.1 hb3).1
        have hgB:gh≠Bx:=fun e=>by rw [e,hb3] at hcg; injection hcg with hcg; injection hcg with _ hcg; exact absurd hcg (by decide)
        have hbx4:W4.heap[Bx]? = some (.cells #[.slice (some ⟨gh,0,none⟩) L0.length c2] 78 (0,0)):=(hg.block Bx (Nat.lt_of_lt_of_le hBz b6.size) (fun e=>by injection e with e; have e':Bx=gh:=e; exact hgB e'.symm)).trans ((b6.block Bx hBz).trans hb3)
        have hpl:(pushed wv L0 L0.length).length=L0.length+1:=by unfold pushed; rw [if_pos rfl,List.length_append,List.length_modify,List.length_singleton]
        have lv5:bT S Bl (Bl+1) (fun j=>j<w5.heap.size) V3 (W4.setCell ⟨Bx,0,none⟩ (.slice A4 (L0.length+1) c4)):=by
         refine ⟨?_,fun j hj=> ?_⟩
         ·have h1:=b6.size
          have h2:=hg.size
          simp at h1 h2 ⊢
          omega
         ·rcases hj with hj | rfl | rfl | ⟨⟨cs,ty,hj,ht⟩,_⟩
          ·exact oth j (by have:=Z2.out; have:=SZ.out; omega) (by have:=GS.out; omega) (by have:=SZ.out; omega)
          ·exact tg _ _ _ src3.bl (by decide) (by decide)
          ·exact tg _ _ _ src3.bw (by decide) (by decide)
          ·refine tg j cs ty hj ?_ ?_<;>rcases ht with rfl | ⟨rfl,_⟩<;>decide
        refine ⟨F,Lib.hid ⟨?_,?_,⟨?_,M0.out.box.low,?_,A4,c4,rs.set q { r0 with wrap:=true }++[⟨some ⟨g5,0,none⟩,wv,wv,false,av wv⟩],?_,?_,?_⟩,?_,?_,?_,?_⟩⟩
        ·exact kp3.trans ((o9 b6).trans ((sI hg (sJ (SH3.out.own.laid b6).own)).trans ((KeepsOthers.setCell _ _ _).from _)))
        ·exact lv3.trans lv5
        ·exact old3.trans ⟨hg.os.trans b6.os,hg.tape.trans b6.tape,hg.output.trans b6.output,lv5.1,fun j hj=>oth j (by have:=Z2.out; have:=SZ.out; have:=HS.out; omega) (by have:=GS.out; have:=HS.out; omega) (by have:=SZ.out; have:=HS.out; omega)⟩
        ·exact (tg S _ _ wb3 (by decide) (by decide)).trans wb3
        ·rw [hpl]
         have:=heap_setCell_same W4 Bx 0 _ _ (.slice A4 (L0.length+1) c4) hbx4
         simpa using this
        ·rw [hpl]
         refine sh4.Gb W2.out.1 fun j cs ty hj ht=>Below.heap_setCell _ _ _ _ (fun e=> ?_)
         have e':j=Bx:=e
         rw [e',hbx4] at hj
         injection hj with hj
         injection hj with _ hj
         rcases ht with ht | ⟨ht,_⟩<;>rw [ht] at hj<;>exact absurd hj (by decide)
        ·unfold pushed
         rw [if_pos rfl,List.map_append,hm3,show L0.length - 1=q by have:=QL.out.1; omega]
         rfl
        ·exact src3.kept lv5
        ·exact (tg P1 _ _ ps3 (by decide) (by decide)).trans ps3
        ·exact (tg (P1+1) _ _ cl3 (by decide) (by decide)).trans cl3
        ·simp; omega
      ·rintro a3 W3 ⟨F,M9⟩
       obtain ⟨l5,hl5,ea⟩:=F.ex (by omega) (by simp)
       match l5,hl5 with
       | [v0,v1,v2,v3,v4],_ =>
        rw [ea]
        clear ea F
        simp only [List.take_succ_cons,List.take_zero,List.drop_succ_cons,List.drop_zero,List.cons_append,List.nil_append]
        have hqi:((q:Int)+1)=(L0.length:Int):=by have:=QL.out.1; omega
        rw [hqi]
        repeat (first | gi_step | go_step | refine Met.intro ?_)
        repeat apply Exists.intro
        refine ⟨?rel9,rfl⟩
        case rel9=>exact M9
     ·gi_wp2_with fail
      gi_meet
      case rel=>exact Lib.hid (by unfold pushed; rw [if_neg hp]; exact M0.out)
    case rest =>
     obtain ⟨L1,hL1⟩:∃L1,pushed wv L0 pr=L1:=⟨_,rfl⟩
     have hM7:=hcut.out
     rw [hL1] at hM7
     have NX7:=Lib.hid (show dW wv (ys.take (k2+1))=L1.modify pr (fun r'=>(r'.1,mJ r'.2 pc (both (r,m,a)))) from by rw [NX.out,hL1])
     have hpL:pr<L1.length∧L1.length≤2000002:=by
      rw [←hL1]
      unfold pushed
      have:=(show pr≤L0.length from FT.out.1)
      have:=LP.out
      have:=BD.out
      split
      ·rw [List.length_append,List.length_modify,List.length_singleton]; omega
      ·omega
     clear hL1 hcut M0 NX k0 k1 c3 HB SH HM
     obtain ⟨A3,c4,rs3,hb3,sh3,hm3⟩:=hM7.box.box
     have hrl:rs3.length=L1.length:=by rw [←hm3,List.length_map]
     obtain ⟨⟨rA,rn,rc,rb,rl⟩,hr3⟩:∃r3,rs3[pr]? = some r3:=⟨_,List.getElem?_eq_getElem (by omega)⟩
     obtain ⟨hn1,hl1,g1,hA1⟩:=sh3.row _ (List.mem_of_getElem? hr3)
     obtain ⟨o1,o2,o3⟩:=sh3.own.each _ (List.mem_of_getElem? hr3)
     dsimp only at hn1 hl1 hA1 o2 o3
     replace hn1:=hn1.symm
     subst hn1 hA1
     have hh:wc.ownsRow S 76 3 (.slice (some ⟨g1,0,none⟩) wv rc) rl.length (flat rl):=o1
     obtain ⟨b',off',rfl,-,q0,q1⟩:=sM sh3.own.rws.2.sq hr3 (show pr<L1.length by omega)
     dsimp only at q0 q1
     have f2:=FT.out.2.1
     have w12m:=FT.out.2.2.1
     have hbl:=kW w12m
     have hwd:wd (r,m,a)=m.toNat:=rfl
     have hm12:m=1∨m=2:=w12m
     have hfit:pc+m.toNat≤wv:=by
      have f2':pc+(both (r,m,a)).length≤wv:=f2
      have h6:(both (r,m,a)).length=m.toNat:=kW (x:=(r,m,a)) hm12
      omega
     have hpc:pc<wv:=by omega
     have hrc:wv≤rc:=by
      obtain ⟨A',c',e,hc'⟩:=fO hh
      injection e with e1 e2 e3
      omega
     have HPL:=Lib.hid hpL
     have HR3:=Lib.hid hr3
     have HL1:=Lib.hid hl1
     have HM7:=Lib.hid hM7
     have HB3:=Lib.hid hb3
     have SH3:=Lib.hid sh3
     have HM3:=Lib.hid hm3
     have HRC:=Lib.hid hrc
     have HFIT:=Lib.hid (And.intro hm12 hfit)
     have CC:=fun (W:World)=>Rh W g1 wv rc pc hpc hrc
     have k0:∀q,(wc.drewN q).cell? ⟨P1,0,none⟩=some (.int .i64 (pr:Int)):=fun q=>cell_of_row _ _ 0 _ _ (0,0) hM7.pos
     have k1:∀q,(wc.drewN q).cell? ⟨P1,1,none⟩=some (.int .i64 (pc:Int)):=fun q=>cell_of_row _ _ 1 _ _ (0,0) hM7.pos
     have kb:∀q,(wc.drewN q).cell? ⟨Bx,0,none⟩=some (.slice (some ⟨b',off',none⟩) L1.length c4):=fun q=>cell_of_row _ _ 0 _ _ (0,0) hb3
     have kc:∀q,(wc.drewN q).cell? ⟨b',off'+pr*2,none⟩=some (.slice (some ⟨g1,0,none⟩) wv rc):=fun q=>q0
     have hp0:(0:Int)≤(pr:Int):=by omega
     have hp1:(pr:Int)<(L1.length:Int):=by omega
     clear hM7 hb3 sh3 hm3 hrl hr3 hl1 o1 o2 o3 q0 q1 f2 w12m hbl hwd hm12 hfit hpL hh
     gi_wp2_with fail
     refine Cls.Vk (by kernel_rfl) (by kernel_rfl) (by kernel_rfl) ?_
     repeat (go_big_quiet_step (fail))
     refine wpQuiet_nil ?_
     rintro _ ⟨nq,rfl⟩
     have B8:Laid wc (wc.drewN nq):=⟨rfl,rfl,rfl,Nat.le_refl _,fun _ _=>rfl⟩
     generalize wc.drewN nq=W8 at B8 ⊢
     clear k0 k1 kb kc CC hp0 hp1
     have hM8:=HM7.out.laid B8 (by have:=HM7.out.big; have:=Z2.out; have:=SZ.out; omega) (by have:=HM7.out.big; have:=Z2.out; have:=SZ.out; omega) (by have:=HM7.out.big; have:=Z2.out; have:=SZ.out; omega)
     have hb8:W8.heap[Bx]? = some (.cells #[.slice (some ⟨b',off',none⟩) L1.length c4] 78 (0,0)):=(B8.block Bx (Array.getElem?_eq_some_iff.1 HB3.out).1).trans HB3.out
     have sh8:=SH3.out.laid B8
     have hh8:W8.ownsRow S 76 3 (.slice (some ⟨g1,0,none⟩) wv rc) rl.length (flat rl):=(sh8.own.each _ (List.mem_of_getElem? HR3.out)).1
     obtain ⟨cg8,hg8⟩:=qG hh8 g1 rfl
     obtain ⟨x0,hx0⟩:∃x0,rl[pc]? = some x0:=⟨_,List.getElem?_eq_getElem (by have:=HL1.out; omega)⟩
     have hq8:Sq W8 W8.heap.size 3 rl.length (some ⟨g1,0,none⟩) (flat rl):=Sq.own (by rw [←HL1.out] at hh8; exact hh8)
     obtain ⟨e0,e1,e2⟩:=hq8.DJ hx0
     rw [Nat.zero_add] at e0 e1 e2
     have z0:=frozen_of_row W8 g1 (pc*3) _ _ hg8
     have z1:=frozen_of_row W8 g1 (pc*3+1) _ _ hg8
     have z2:=frozen_of_row W8 g1 (pc*3+2) _ _ hg8
     have d0:W8.cell? ⟨P1+1,0,none⟩=some (.int .i32 r):=cell_of_row _ _ 0 _ _ (0,0) hM8.cel
     have d1:W8.cell? ⟨P1+1,1,none⟩=some (.int .i64 m):=cell_of_row _ _ 1 _ _ (0,0) hM8.cel
     have d2:W8.cell? ⟨P1+1,2,none⟩=some (.int .i64 a):=cell_of_row _ _ 2 _ _ (0,0) hM8.cel
     have hi0':(0:Int)<((wv - pc:Nat):Int):=by omega
     have HPC:=Lib.hid hpc
     have HRS:=Lib.hid (show -2147483648≤r∧r≤2147483647 from by
      rcases FT.out.2.2.2 with h | h
      ·injection h with h; rw [h]; decide
      ·exact HLS.out _ h)
     have HX8:=Lib.hid (hM8.put HS.out W2.out.1 hb8 sh8 (HM3.out) HR3.out rfl pc (r,m,a) HRS.out)
     clear hM8 hb8 sh8 hh8 hg8 hx0 hq8 hpc hrc B8
     gi_upto_region 12 with fail
     clear z0 z1 z2 d0 d1 d2 e0 e1 e2
     change Code.wpIn _ _ _ _ _ _ (fG W8 g1 pc (r,m,a))
     obtain ⟨hM9,hb9,sh9,hm9⟩:=HX8.out
     dsimp only at sh9 hm9
     generalize fG W8 g1 pc (r,m,a)=W9 at hM9 hb9 sh9 ⊢
     clear HX8 HM7 HB3 SH3
     have d1:W9.cell? ⟨P1+1,1,none⟩=some (.int .i64 m):=cell_of_row _ _ 1 _ _ (0,0) hM9.cel
     have d2:W9.cell? ⟨P1+1,2,none⟩=some (.int .i64 a):=cell_of_row _ _ 2 _ _ (0,0) hM9.cel
     have HM9:=Lib.hid hM9
     have HLR:=Lib.hid (show L1[pr]? = some (rb,rl) from by rw [←HM3.out,List.getElem?_map,HR3.out]; rfl)
     rcases HFIT.out.1 with hm1 | hm2
     ·subst hm1
      have NX9:=Lib.hid (show dW wv (ys.take (k2+1))=L1.modify pr fun r'=>(r'.1,r'.2.set pc (r,1,a)) from by
       rw [NX7.out]
       refine modify_eq HLR.out ?_
       simp only
       rw [show both (r,1,a)=[(r,1,a)] from rfl,Uw _ (by rw [HL1.out]; exact HPC.out)])
      clear hM9 hb9 sh9 hm9
      gi_wp2_with fail
      exact ⟨HM9.out.keep,HM9.out.lv,Lib.hid ⟨by rw [NX9.out]; exact HM9.out.box,HM9.out.src,by have:=HM9.out.big; have:=Z2.out; omega⟩⟩
     ·subst hm2
      have hpc2:pc+1<wv:=by have h:=HFIT.out.2; omega
      have NX9:=Lib.hid (show dW wv (ys.take (k2+1))=(L1.modify pr fun r'=>(r'.1,r'.2.set pc (r,2,a))).modify pr fun r'=>(r'.1,r'.2.set (pc+1) (0,0,a)) from by
       rw [NX7.out,OG]
       refine modify_eq HLR.out ?_
       simp only
       rw [show both (r,2,a)=[(r,2,a),(0,0,a)] from rfl,Ux _ _ (by rw [HL1.out]; exact hpc2)])
      have hr9:(rs3.set pr { A:=some ⟨g1,0,none⟩,n:=wv,c:=rc,wrap:=rb,l:=rl.set pc (r,2,a) })[pr]? = some { A:=some ⟨g1,0,none⟩,n:=wv,c:=rc,wrap:=rb,l:=rl.set pc (r,2,a) }:=by
       rw [List.getElem?_set_self (List.getElem?_eq_some_iff.1 HR3.out).1]
      have hh9:W9.ownsRow S 76 3 (.slice (some ⟨g1,0,none⟩) wv rc) (rl.set pc (r,2,a)).length (flat (rl.set pc (r,2,a))):=(sh9.own.each _ (List.mem_of_getElem? hr9)).1
      obtain ⟨cg9,hg9⟩:=qG hh9 g1 rfl
      obtain ⟨x1,hx1⟩:∃x1,(rl.set pc (r,2,a))[pc+1]? = some x1:=⟨_,List.getElem?_eq_getElem (by have:=HL1.out; rw [List.length_set]; omega)⟩
      have hq9:Sq W9 W9.heap.size 3 (rl.set pc (r,2,a)).length (some ⟨g1,0,none⟩) (flat (rl.set pc (r,2,a))):=Sq.own (by have h9:=hh9; rw [show wv=(rl.set pc (r,2,a)).length by rw [List.length_set]; exact HL1.out.symm] at h9; exact h9)
      have hz3:0+(pc+1)*3=pc*3+3:=by omega
      obtain ⟨e0,e1,e2⟩:=hq9.DJ hx1
      rw [hz3] at e0 e1 e2
      have z0:=frozen_of_row W9 g1 (pc*3+3) _ _ hg9
      have z1:=frozen_of_row W9 g1 (pc*3+3+1) _ _ hg9
      have z2:=frozen_of_row W9 g1 (pc*3+3+2) _ _ hg9
      have HMa:=Lib.hid (hM9.put HS.out W2.out.1 hb9 sh9 hm9 hr9 rfl (pc+1) (0,0,a) (by simp))
      have hi1':(1:Int)<((wv - pc:Nat):Int):=by omega
      clear hM9 hb9 sh9 hm9 hr9 hh9 hg9 hx1 hq9 hpc2 hz3
      gi_wp2_with fail
      have e9:fG W9 g1 (pc+1) (0,0,a)=(((W9.setCell ⟨g1,pc*3+3,none⟩ (.int .i32 0)).setCell ⟨g1,pc*3+3+1,none⟩ (.int .i64 0)).setCell ⟨g1,pc*3+3+2,none⟩ (.int .i64 a)):=by
       unfold fG
       rw [show (pc+1)*3=pc*3+3 by omega]
      rw [←e9]
      have hMa:=HMa.out.1
      exact ⟨hMa.keep,hMa.lv,Lib.hid ⟨by rw [NX9.out]; exact hMa.box,hMa.src,by have:=hMa.big; have:=Z2.out; omega⟩⟩
   case done =>
    rintro D W hD hi hdef
    rw [List.take_of_length_le (Nat.le_refl _)] at hi
    obtain ⟨A2,c2,rs,hb2,sh2,hm2⟩:=hi.out.1.box
    rw [FIN.out] at hb2 sh2 hm2
    have c3:W.cell? ⟨Bx,0,none⟩=some (.slice A2 (jm wv l).length c2):=cell_of_row _ _ 0 _ _ (0,0) hb2
    have HI:=Lib.hid (And.intro hi.out hdef)
    have SH:=Lib.hid sh2
    have HM:=Lib.hid hm2
    clear hi hdef hb2 sh2 hm2 TL
    go_wp2_with fail
    refine ⟨by simp,.inl ⟨_,_,rfl,run_takeDeferred HI.out.2,?_⟩⟩
    have o2:Below w.heap.size w (W.putObj D (.deferred none)):=HI.out.1.1.old.trans ⟨rfl,rfl,rfl,by simp [World.putObj],fun k hk=>World.putObj_heap_other (by have:=SZ.out; have:=HS.out; omega)⟩
    have htn:((wv:Int)).toNat=wv:=by simp
    refine ⟨.slice A2 (jm wv l).length c2,by simp [results,go_sem],?_⟩
    refine ⟨fun _=>⟨_,rs,rfl,?_,?_⟩,fun h=>absurd ⟨YES.out.1,YES.out.2,LB.out⟩ h,o2⟩
    ·rw [htn,HS.out]
     refine SH.out.Gb W2.out.1 fun j cs ty hj _=>World.putObj_heap_other (fun e=> ?_)
     have:=HI.out.2
     rw [←e,hj] at this
     cases this
    ·rw [htn]
     exact HM.out
end Ln
namespace Ln
open Rw
theorem Uy (w:Nat) (l:List au):(gY w l).1.length≤l.length:=by
 refine jU (P:=fun l=>(gY w l).1.length≤l.length) (Nat.zero_le _) (fun l x ih=> ?_) l
 rw [yu,List.length_append,List.length_singleton]
 unfold Cj
 split
 ·simp only [List.length_append,List.length_singleton]; omega
 ·simp only; omega
theorem Jt (w:Nat) (l:List au):(jm w l).length≤l.length+1:=by
 have:=Uy w l
 unfold jm fill
 rw [List.length_append,List.length_singleton]
 omega
theorem d9.read {W:World} {B wv n c:Nat} {A:Option Addr} {rs:List aI} (h:d9 W B (.slice A n c) wv rs) {i:Nat} {r:aI} (hr:rs[i]? = some r) :
  ∃b off g,A=some ⟨b,off,none⟩∧r.A=some ⟨g,0,none⟩∧r.n=wv∧r.l.length=wv∧(∀c∈r.l,-2147483648≤c.1∧c.1≤2147483647)∧wv≤r.c∧∀W',Below W.heap.size W W' →
   W'.cell? ⟨b,off+i*2,none⟩=some (.slice r.A r.n r.c)∧W'.cell? ⟨b,off+i*2+1,none⟩=some (.bool r.wrap)∧Sq W' W.heap.size 3 wv (some ⟨g,0,none⟩) (flat r.l):=by
 obtain ⟨hn,hR⟩:=h.own.rws
 have hi:i<n:=by have:=(List.getElem?_eq_some_iff.1 hr).1; omega
 obtain ⟨h1,h2,g,h3⟩:=h.row r (List.mem_of_getElem? hr)
 have hs:=(hR.each r (List.mem_of_getElem? hr))
 obtain ⟨b,off,rfl,hb,q0,q1⟩:=sM hR.sq hr hi
 have hq:Sq W W.heap.size 3 r.n r.A (flat r.l):=hs.sq
 rw [h1,h3] at hq
 have hle:=hs.le
 rw [h1] at hle
 refine ⟨b,off,g,rfl,h3,h1,h2,hs.signs,hle,fun W' hb'=>⟨(hb'.cell (p:=⟨b,off+i*2,none⟩) hb).trans q0,(hb'.cell (p:=⟨b,off+i*2+1,none⟩) hb).trans q1,hq.below hb'⟩⟩
end Ln
