import Derived.Test.YteemnmalikomgaaGreatDoorQSwLine1
set_option maxRecDepth 100000
set_option maxHeartbeats 6400000
namespace Go.Proofs.YteemnmalikomgaaGreatDoor
open Go.ChangeShapes Go.WideShapes Go.ChangeAt Go.RowKit
namespace Ln
open Rw
attribute [local go_sem] Oper.semAt_some
theorem Ov (A:Option Addr) (n c:Nat) (w:World):Calls Tryz.prog 71 #[.slice A n c] w fun e w'=>e=.returned (.func (.func 104) #[] #[.pointer (some ⟨w.heap.size,0,none⟩)])∧w'=w.alloc (.cells #[.slice A n c] 78):=by
 go_enter Tryz.func71,Tryz.ntmps71
 go_wp2
 go_ret
 exact ⟨rfl,rfl⟩
theorem uY (A:Option Addr) (n c:Nat) (w:World):Calls Tryz.prog 106 #[.slice A n c] w fun e w'=>e=.returned (.func (.func 159) #[] #[.pointer (some ⟨w.heap.size,0,none⟩)])∧w'=w.alloc (.cells #[.slice A n c] 78):=by
 go_enter Tryz.func106,Tryz.ntmps106
 go_wp2
 go_ret
 exact ⟨rfl,rfl⟩
theorem fB {w w':World} {base:Nat} {e:TypeId} {size n:Nat} {v:Value} {xs:List Value} (h:w.ownsRow base e size v n xs) (hk:∀k,v.ownBlock=some k→w'.heap[k]? = w.heap[k]?):w'.ownsRow base e size v n xs:=by
 refine ⟨h.1,?_⟩
 rcases h.2 with e1 | ⟨g,cap,cur,rfl,hb,hg,r⟩
 ·exact .inl e1
 ·exact .inr ⟨g,cap,cur,rfl,hb,(hk g rfl).trans hg,r⟩
theorem jq {w:World} {base base':Nat} {e:TypeId} {size n:Nat} {v:Value} {xs:List Value} (h:w.ownsRow base e size v n xs) (hb:base'≤base):w.ownsRow base' e size v n xs:=by
 refine ⟨h.1,?_⟩
 rcases h.2 with e1 | ⟨g,cap,cur,rfl,h2,r⟩
 ·exact .inl e1
 ·exact .inr ⟨g,cap,cur,rfl,Nat.le_trans hb h2,r⟩
theorem nA {w w':World} {base:Nat} {e:TypeId} {size n:Nat} {v:Value} {xs:List Value} (h:w.ownsRow base e size v n xs) (hb:Below w.heap.size w w'):w'.ownsRow base e size v n xs:=fB h fun k hk=>hb.block k (h.lt k hk).2
theorem fO {w:World} {B:Nat} {e:TypeId} {s n:Nat} {v:Value} {xs:List Value} (h:w.ownsRow B e s v n xs):∃A c,v=.slice A n c∧n≤c:=by
 rcases h.2 with ⟨rfl,h0⟩ | ⟨g,cap,cur,rfl,_,_,hc,_⟩
 ·rw [h0]; exact ⟨_,_,rfl,Nat.le_refl _⟩
 ·exact ⟨_,_,rfl,hc⟩
theorem Leaves.trans {S Bx:Nat} {A B C:World} (h:Leaves S Bx A B) (k:Leaves S Bx B C):Leaves S Bx A C:=⟨Nat.le_trans h.1 k.1,fun j hj=>(k.2 j hj).trans (h.2 j hj)⟩
theorem Leaves.put {S Bx l:Nat} {W:World} (hS:S≤l) (hB:Bx<l) (o':Obj):Leaves S Bx W (W.putObj l o') :=
 ⟨by simp [World.putObj],fun j hj=>World.putObj_heap_other (by rcases hj with hj | rfl<;>omega)⟩
theorem Ox (w:World) (e:TypeId) (x y z:Value):∀(j:Nat) (u:Value),[x,y,z][j]? = some u→(w.alloc (.cells #[x,y,z] e)).cell? ((⟨w.heap.size,0,none⟩:Addr).add j)=some u:=by
 intro j u hu
 rw [Af,Nat.zero_add,cell_of_row _ _ _ _ _ (0,0) (heap_alloc_new w _)]
 match j,hu with
 | 0,hu=>exact hu
 | 1,hu=>exact hu
 | 2,hu=>exact hu
 | j+3,hu=>simp at hu
structure oD (w0:World) (g B:Nat) (l:List au) (W:World):Prop where
 old:Below w0.heap.size w0 W
 low:w0.heap.size≤g
 gB:g<B
 box:∃A c,W.heap[g]? = some (.cells #[.slice A l.length c] 68 (0,0))∧cZ W B (.slice A l.length c) l
namespace oD
variable {w0 W W':World} {g B:Nat} {l:List au}
theorem laid (h:oD w0 g B l W) (hb:Laid W W'):oD w0 g B l W':=by
 obtain ⟨A,c,h1,h2⟩:=h.box
 exact ⟨h.old.trans (hb.mono h.old.size),h.low,h.gB,A,c,(hb.block _ (Array.getElem?_eq_some_iff.1 h1).1).trans h1,nA h2 hb⟩
theorem put (h:oD w0 g B l W) {j:Nat} {o:Obj} (o':Obj) (hj:w0.heap.size≤j) (ho:W.heap[j]? = some o) (hc:o.isCells=false):oD w0 g B l (W.putObj j o'):=by
 obtain ⟨A,c,h1,h2⟩:=h.box
 refine ⟨h.old.trans ⟨rfl,rfl,rfl,by simp,fun k hk=>World.putObj_heap_other (by omega)⟩,h.low,h.gB,A,c,(World.putObj_heap_other (fun e=> ?_)).trans h1,ownsRow_putObj h2 o' ho hc⟩
 subst e
 rw [h1] at ho
 cases ho
 cases hc
end oD
theorem oD.snoc {w0 W W':World} {g B:Nat} {l:List au} {y:au} {A:Option Addr} {c:Nat} {v':Value} (h:oD w0 g B l W) (hb:W.heap[g]? = some (.cells #[.slice A l.length c] 68 (0,0)))
  (ho:W'.ownsRow B 76 3 v' (l.length+1) (flat l++[.int .i32 y.1,.int .i64 y.2.1,.int .i64 y.2.2])) (hA:W.ownsRow B 76 3 (.slice A l.length c) l.length (flat l)) (hg:W.grownBy W' (Value.slice A l.length c).ownBlock) :
  oD w0 g B (l++[y]) (W'.setCell ⟨g,0,none⟩ v'):=by
 have hlt:=(Array.getElem?_eq_some_iff.1 hb).1
 have hne:∀j,j<B→(Value.slice A l.length c).ownBlock≠some j:=fun j hj e=>by have:=(hA.lt j e).1; omega
 have hb':W'.heap[g]? = _:=(hg.block g hlt (fun e=>hne g h.gB e.symm)).trans hb
 obtain ⟨A',c',rfl,hc'⟩:=fO ho
 have e:flat (l++[y])=flat l++[.int .i32 y.1,.int .i64 y.2.1,.int .i64 y.2.2]:=by rw [gL]; rfl
 refine ⟨?_,h.low,h.gB,A',c',?_,?_⟩
 ·have h1:Below w0.heap.size w0 W':=h.old.grown hg h.old.size (fun j e=>by have h1:=(hA.lt j e).1; have:=h.low; have:=h.gB; omega)
  exact h1.setCell (p:=⟨g,0,none⟩) h.low _
 ·rw [List.length_append,List.length_singleton]
  have:=heap_setCell_same W' g 0 _ _ (.slice A' (l.length+1) c') hb'
  simpa using this
 ·unfold cZ
  rw [e,List.length_append,List.length_singleton]
  refine fB ho fun k hk=>Below.heap_setCell _ _ _ _ ?_
  have:=(ho.lt k hk).1
  have:=h.gB
  show k≠g
  omega
theorem sI {W W':World} {row:Option Nat} {B:Nat} (hg:W.grownBy W' row) (hrow:∀j,row=some j→∃o,W.heap[j]? = some o∧o.isCells=true):KeepsFrom B W W' :=
 ⟨hg.size,fun k _ _ hk ho=>(hg.block k (Array.getElem?_eq_some_iff.1 hk).1 (fun e=>by
  obtain ⟨o',h1,h2⟩:=hrow k e.symm
  rw [hk] at h1
  cases h1
  rw [ho] at h2
  cases h2)).trans hk⟩
theorem o9 {W W':World} {B:Nat} (h:Laid W W'):KeepsFrom B W W':=⟨h.size,fun k _ _ hk _=>(h.block k (Array.getElem?_eq_some_iff.1 hk).1).trans hk⟩
theorem sJ {w:World} {base:Nat} {e:TypeId} {size n:Nat} {v:Value} {xs:List Value} (h:w.ownsRow base e size v n xs):∀j,v.ownBlock=some j→∃o,w.heap[j]? = some o∧o.isCells=true:=by
 intro j hj
 rcases h.2 with ⟨rfl,_⟩ | ⟨g,cap,cur,rfl,_,hg,_⟩
 ·cases hj
 ·injection hj with hj
  subst hj
  exact ⟨_,hg,rfl⟩
def jX (L:List Pl):List au:=L.map fun y=>y.2
theorem Oy (rs:List LR):rs.flatMap iV=jX (aV 0 rs):=(tZ rs 0).symm
theorem Rb {L:List Pl} {k:Nat} {y:Pl} (h:L[k]? = some y):jX (L.take (k+1))=jX (L.take k)++[y.2]:=by unfold jX; rw [take_one h,List.map_append]; rfl
theorem VZ {N k:Nat} (h:N≤300000000) (hk:k<N):k+1≤maxLen∧(k+1)*24≤140737488355328:=by unfold maxLen; omega
theorem Kv (A:Option Addr) (n c:Nat) (rs:List aI) (w:World) (hs:dw w) (hr:jP w w.heap.size A n rs) (hn:n≤1000000) :
  Calls Tryz.prog 72 #[.slice A n c] w fun e w'=>Gj ((rs.map lr).flatMap iV) w e w':=by
 obtain ⟨i0,hi0,hz0,hz1,hz2⟩:=info_parts uw
 obtain ⟨S,hS⟩:∃S,w.heap.size=S:=⟨_,rfl⟩
 obtain ⟨L,hL⟩:∃L,aV 0 (rs.map lr)=L:=⟨_,rfl⟩
 have hcells:(rs.map lr).flatMap iV=jX L:=by rw [←hL]; exact Oy _
 have hLn:L.length≤300000000:=by
  have h1:=zx (rs.map lr) 0
  rw [hL,List.length_map,hr.len] at h1
  omega
 have hsp:0<S:=by rw [←hS]; exact hs.size
 obtain ⟨w1,hw1⟩:∃w1,w.alloc (.cells #[.slice none 0 0] 68)=w1:=⟨_,rfl⟩
 have b1:Below w.heap.size w w1:=by rw [←hw1]; exact (Below.refl _ _).alloc (Nat.le_refl _) _
 have z1:w1.heap.size=S+1:=by rw [←hw1,←hS]; simp
 obtain ⟨w2,hw2⟩:∃w2,w1.alloc (.cells #[.slice A n c] 78)=w2:=⟨_,rfl⟩
 have b2:Laid w1 w2:=by rw [←hw2]; exact (Below.refl _ _).alloc (Nat.le_refl _) _
 have z2:w2.heap.size=S+2:=by rw [←hw2]; simp [z1]
 have h0:oD w S (S+2) [] w2:=by
  refine ⟨b1.trans (b2.mono b1.size),by rw [hS]; exact Nat.le_refl _,by omega,none,0,(b2.block S (by omega)).trans ?_,World.ownsRow_nil _ _ _ _⟩
  rw [←hw1,←hS]
  exact heap_alloc_new w _
 have hps:jV S (S+1) A n c rs w2:=by
  refine ⟨hs.below h0.old hs.size,hsp,?_,?_,by omega⟩
  ·rw [←hw2,←z1]
   exact heap_alloc_new w1 _
  ·have:=hr.below h0.old
   rw [hS] at this
   exact this
 have TL:=Lib.hid (Ku (Kp:=Leaves S (S+1)) hps (fun _ _ h=>h) hn)
 rw [hL] at TL
 have SW:=Lib.hid (uY A n c w1)
 rw [hw2,z1] at SW
 have H0:=Lib.hid h0
 have HW:=Lib.hid hw1
 have HS:=Lib.hid hS
 have Z2:=Lib.hid z2
 have HL:=Lib.hid hLn
 rw [hcells]
 clear hr hs hps h0 b1 b2 hw1 hw2 z1 z2 hL hcells hsp hLn
 refine (callsIn_wide (n:=3)).1 (callsIn_of_wp_marks Tryz.func72 rfl trivial ?_ rfl)
 simp only [Tryz.ntmps72,List.size_toArray,List.length_cons,List.length_nil,Nat.reduceAdd,Nat.reduceSub,Array.replicate_succ,Array.replicate_zero,List.push_toArray,List.append_toArray,List.nil_append,List.cons_append]
 refine wpIn_wide.2 ?_
 go_wp2_with fail
 rw [HW.out]
 refine SW.out.mono ?_
 rintro e w' ⟨rfl,rfl⟩
 go_wp2_with fail
 refine Cx (Fit:=Uu L) (Kp:=Leaves S (S+1)) (N:=L.length) (gf:=159) (lb:= #[.pointer (some ⟨S+1,0,none⟩)]) rfl (enters_of Tryz.func159 (by kernel_rfl) rfl) TL.out Leaves.trans
  (fun A B hA h=>Leaves.laid h (by have:=Z2.out; omega) (by have:=Z2.out; omega)) (fun W l o o' hl ho hc=>Leaves.put (by have:=Z2.out; omega) (by have:=Z2.out; omega) o') (fun k x W h=>by obtain ⟨y,_,rfl⟩:=h; rfl)
  (fun k W=>Hid (oD w S (S+2) (jX (L.take k)) W∧S+2≤W.heap.size)) (fun _ _ _=>False)
  (fun k A B h hb=>Lib.hid ⟨h.out.1.laid hb,Nat.le_trans h.out.2 hb.size⟩) (fun k W l o o' hl ho hc h=>Lib.hid ⟨h.out.1.put o' (by have:=Z2.out; have:=HS.out; omega) ho hc,by rw [World.putObj_size]; exact h.out.2⟩)
  (fun _ _ _ _ h _=>h) (fun _ _ _ _ _ _ _ _ _ h=>h) (Lib.hid ⟨H0.out,by have:=Z2.out; omega⟩) ?round ?done (fun _ _ _ _ _ _ h _=>h.elim)
 case round =>
  rintro l2 k2 x W hk2 hl2 ⟨o,ho,hoc⟩ hi ⟨⟨⟨pr,pc⟩,r,m,a⟩,hy,rfl⟩
  have bb:Laid W (W.alloc (.cells #[.int .i32 r,.int .i64 m,.int .i64 a] 76)):=(Below.refl _ _).alloc (Nat.le_refl _) _
  simp only
  gi_wp2
  refine ⟨bb,fun o1=> ?_⟩
  have hS2:S+2≤l2:=by have:=Z2.out; omega
  have hlt2:l2<W.heap.size:=(Array.getElem?_eq_some_iff.1 ho).1
  have ho':=(bb.block l2 hlt2).trans ho
  have H2:=Lib.hid ((hi.out.1.laid bb).put o1 (by have:=HS.out; omega) ho' hoc)
  have q5:((W.alloc (.cells #[.int .i32 r,.int .i64 m,.int .i64 a] 76)).putObj l2 o1).heap[W.heap.size]? = some (.cells #[.int .i32 r,.int .i64 m,.int .i64 a] 76 (0,0)):=(World.putObj_heap_other (by omega)).trans (heap_alloc_new W _)
  have SZ:=Lib.hid (show S+2≤((W.alloc (.cells #[.int .i32 r,.int .i64 m,.int .i64 a] 76)).putObj l2 o1).heap.size from by simp; have:=hi.out.2; omega)
  generalize (W.alloc (.cells #[.int .i32 r,.int .i64 m,.int .i64 a] 76)).putObj l2 o1=W2 at H2 q5 SZ ⊢
  generalize W.heap.size=gc at q5
  clear bb ho' hi ho hlt2
  obtain ⟨l0,hl0⟩:∃l0,jX (L.take k2)=l0:=⟨_,rfl⟩
  have hll:l0.length=k2:=by rw [←hl0]; unfold jX; rw [List.length_map,List.length_take]; omega
  rw [hl0] at H2
  obtain ⟨A2,c2,hb2,ho2⟩:=H2.out.box
  have k0:W2.cell? ⟨gc,0,none⟩=some (.int .i32 r):=cell_of_row _ _ 0 _ _ (0,0) q5
  have k1:W2.cell? ⟨gc,1,none⟩=some (.int .i64 m):=cell_of_row _ _ 1 _ _ (0,0) q5
  have k3:W2.cell? ⟨gc,2,none⟩=some (.int .i64 a):=cell_of_row _ _ 2 _ _ (0,0) q5
  have c3:W2.cell? ⟨S,0,none⟩=some (.slice A2 l0.length c2):=cell_of_row _ _ 0 _ _ (0,0) hb2
  have hfit:=VZ HL.out hk2
  have B1:=Lib.hid (show l0.length+1≤maxLen from by rw [hll]; exact hfit.1)
  have B2:=Lib.hid (show (l0.length+1)*24≤140737488355328 from by rw [hll]; exact hfit.2)
  have OW:=Lib.hid (show W2.ownsRow (S+2) 76 3 (.slice A2 l0.length c2) l0.length (flat l0) from ho2)
  have HB:=Lib.hid hb2
  have HK:=Lib.hid (show jX (L.take (k2+1))=l0++[(r,m,a)] from by rw [Rb hy,hl0])
  clear hb2 ho2 hl0 hll hfit q5
  gi_wp2_with (gi_at_builtin; refine wpListIn_append_own _ rfl _ _ 68 rfl (S+2) 76 i0 (.agg #[.int .i32 0,.int .i64 0,.int .i64 0]) 3 24 Tryz.underlying68 hi0 hz0 hz1 hz2 rfl (by decide) _ _ _ rfl (OW.out.alloc _) ⟨W2.heap.size,0,none⟩ 1 1 [.int .i32 r,.int .i64 m,.int .i64 a] rfl rfl (Ox _ _ _ _ _) (by simp [Value.oneCell']) B1.out B2.out (by have:=SZ.out; simp; omega) ?_; intro v4 W4 ho4 hg4 _; (obtain ⟨A4,c4,rfl,_⟩:=fO ho4); (have h4:W4.heap[S]? = some (.cells #[.slice A2 l0.length c2] 68 (0,0)):=(hg4.block S (by have:=SZ.out; simp; omega) (fun e=>by have:=(OW.out.lt S e.symm).1; omega)).trans ((Below.heap_alloc _ _ _ (by have:=SZ.out; omega)).trans HB.out)); (have k4:=cell_of_row _ _ 0 _ _ (0,0) h4); (have f4:=frozen_of_row W4 S 0 _ _ h4); (have O4:=Lib.hid ho4); (have G4:=Lib.hid hg4); clear ho4 hg4 h4)
  have GA:=Lib.hid (show Laid W2 (W2.alloc (.cells #[.int .i32 r,.int .i64 m,.int .i64 a] 76)) from (Below.refl _ _).alloc (Nat.le_refl _) _)
  have BC:=Lib.hid (oD.snoc (y:=(r,m,a)) (H2.out.laid GA.out) ((GA.out.block S (by have:=SZ.out; omega)).trans HB.out) O4.out (OW.out.alloc _) G4.out)
  refine ⟨?_,?_,Lib.hid ?_⟩
  ·exact (o9 GA.out).trans ((sI G4.out (sJ (OW.out.alloc _))).trans ((KeepsOthers.setCell _ _ _).from _))
  ·refine ⟨?_,fun j hj=> ?_⟩
   ·have h1:=GA.out.size
    have h2:=G4.out.size
    simp at h1 h2 ⊢
    omega
   ·have hj2:j<S+2:=by omega
    refine (Below.heap_setCell _ _ _ _ (by show j≠S; omega)).trans ((G4.out.block j ?_ ?_).trans (GA.out.block j ?_))
    ·have:=SZ.out; simp; omega
    ·intro e; have:=(OW.out.lt j e.symm).1; omega
    ·have:=SZ.out; omega
  ·rw [HK.out]
   refine ⟨BC.out,?_⟩
   have h1:=GA.out.size
   have h2:=G4.out.size
   have:=SZ.out
   simp at h1 h2 ⊢
   omega
 case done =>
  rintro D W hD hi hdef
  rw [List.take_of_length_le (Nat.le_refl _)] at hi
  obtain ⟨A2,c2,hb2,ho2⟩:=hi.out.1.box
  have c3:W.cell? ⟨S,0,none⟩=some (.slice A2 (jX L).length c2):=cell_of_row _ _ 0 _ _ (0,0) hb2
  obtain ⟨n2,hn2⟩:∃n2,(jX L).length=n2:=⟨_,rfl⟩
  unfold cZ at ho2
  rw [hn2] at c3 ho2 hb2
  obtain ⟨A3,c3',e3,hc3⟩:=fO ho2
  injection e3 with e3 _ e3'
  subst e3 e3'
  have TR:=Lib.hid (O9 A2 n2 c2 hc3 (jX L) W (by have:=HL.out; rw [←hn2]; unfold jX; rw [List.length_map]; omega) (Sq.own ho2))
  have HI:=Lib.hid (And.intro hi.out hdef)
  clear hi hdef hb2 ho2 hn2 TL
  go_wp2_with fail
  refine TR.out.mono ?_
  rintro e w5 ⟨v5,rfl,h5,b5⟩
  have H5:=Lib.hid (And.intro h5 b5)
  clear TR h5 b5 c3
  go_wp2_with fail
  have hdD:w5.heap[D]? = some (.deferred (some [])):=(H5.out.2.block D (Array.getElem?_eq_some_iff.1 HI.out.2).1).trans HI.out.2
  refine ⟨by simp,.inl ⟨_,_,rfl,run_takeDeferred hdD,?_⟩⟩
  have o1:Below w.heap.size w w5:=HI.out.1.1.old.trans (H5.out.2.mono HI.out.1.1.old.size)
  have o2:Below w.heap.size w (w5.putObj D (.deferred none)):=o1.trans ⟨rfl,rfl,rfl,by simp,fun k hk=>World.putObj_heap_other (by have:=Z2.out; have:=HS.out; omega)⟩
  have h6:(w5.putObj D (.deferred none)).ownsRow w.heap.size 76 3 v5 (eX (jX L)).length (flat (eX (jX L))):=ownsRow_putObj (jq (show w5.ownsRow W.heap.size 76 3 v5 (eX (jX L)).length (flat (eX (jX L))) from H5.out.1) HI.out.1.1.old.size) _ hdD rfl
  refine ⟨_,?_,v5,rfl,h6,o2⟩
  simp [results,go_sem]
end Ln
namespace Ln
def V4:List Ord.Line:=[
 (some 10,.load 56 (.tmp 3),none,[]),
 (some 11,.move (.tmp 5),none,[]),
 (some 12,.call { callee:=.value (.func 72),args:= #[.tmp 11],argTypes:= #[78] },none,[1]),
 (some 13,.buildSlice 56 1 #[(0,.tmp 12)],none,[2]),
 (some 14,.call { callee:=.builtin .append,args:= #[.tmp 10,.tmp 13],argTypes:= #[56,56] },none,[0,3,2]),
 (none,.store 56 (.tmp 3) (.tmp 14),none,[4,4,0,1,2,3,4])]
theorem Xq {ops:Array Oper} {Rr:Act→World→Prop} {G:World→Value→Prop} (R:Ord.eT ops V4) {w1:World} {S B m c2:Nat} {A2:Option Addr} {vs:List Value} {x:Value} {i0:TypeInfo} (hi0:Tryz.prog.info? 68=some i0) (hz0:i0.zero=some (.slice none 0 0)) (hz1:i0.size=1) (hz2:i0.bytes=24)
  (hbox:w1.heap[S]? = some (.cells #[.slice A2 m c2] 56 (0,0))) (C:Calls Tryz.prog 72 #[x] w1 fun e w'=>∃A5 n5 c5,e=.returned (.slice A5 n5 c5)∧G w' (.slice A5 n5 c5))
  (hG:∀w' y,G w' y→Laid w1 w'∧w'.ownsRow B 68 1 (.slice A2 m c2) m vs) (hB:S<B) (hBw:B≤w1.heap.size) (b1:m+1≤maxLen) (b2:(m+1)*24≤140737488355328)
  (a:Act) (hz:a.tmps.size=16) (f3:Chain.At a 3 (.pointer (some ⟨S,0,none⟩))) (f5:Chain.At a 5 x)
  (h:∀a' w' A5 n5 c5 A4 c4 W4,G w' (.slice A5 n5 c5)→W4.ownsRow B 68 1 (.slice A4 (m+1) c4) (m+1) (vs++[.slice A5 n5 c5])→(w'.alloc (.cells #[.slice A5 n5 c5] 68)).grownBy W4 (Value.slice A2 m c2).ownBlock→Rr a' (W4.setCell ⟨S,0,none⟩ (.slice A4 (m+1) c4))) :
  wpAnyH Tryz.prog .any ops (fun e a w=>e=.normal∧Rr a w) (fun _=>True) 6 (List.replicate 6 false).toArray a w1:=by
 have hSw:=(Array.getElem?_eq_some_iff.1 hbox).1
 have hld:∀(w':World) (a:Act),w'.heap[S]? = some (.cells #[.slice A2 m c2] 56 (0,0))→Chain.At a 3 (.pointer (some ⟨S,0,none⟩))→∀ty,(execOp a.eval ⟨some 10,.load 56 (.tmp 3),ty, "",#[],none⟩).run Tryz.prog w'=.ok (.value (.slice A2 m c2)) w':=fun w' a hb f ty=>by
  have q:w'.cell? ⟨S,0,none⟩=some (.slice A2 m c2):=cell_of_row _ _ 0 _ _ (0,0) hb
  have e:=f
  unfold Chain.At at e
  go_simp
 have hbs:∀(w':World) (a:Act) (A5:Option Addr) (n5 c5:Nat),Chain.At a 12 (.slice A5 n5 c5)→∀ty,(execOp a.eval ⟨some 13,.buildSlice 56 1 #[(0,.tmp 12)],ty, "",#[],none⟩).run Tryz.prog w'=.ok (.value (.slice (some ⟨w'.heap.size,0,none⟩) 1 1)) (w'.alloc (.cells #[.slice A5 n5 c5] 68)):=fun w' a A5 n5 c5 f ty=>by
  have e:=f
  unfold Chain.At at e
  go_simp
 have tail:∀(a:Act) (w':World) (A5:Option Addr) (n5 c5:Nat),a.tmps.size=16→Chain.At a 3 (.pointer (some ⟨S,0,none⟩))→Chain.At a 10 (.slice A2 m c2)→Chain.At a 13 (.slice (some ⟨w'.heap.size,0,none⟩) 1 1)→G w' (.slice A5 n5 c5) →
   wpAnyH Tryz.prog .any ops (fun e a w=>e=.normal∧Rr a w) (fun _=>True) 2 ([true,true,true,true,false,false]).toArray a (w'.alloc (.cells #[.slice A5 n5 c5] 68)):=by
  intro a w' A5 n5 c5 hz f3 f10 f13 hg
  obtain ⟨hl,hown⟩:=hG _ _ hg
  have hlz:=hl.size
  refine Ord.append R (k:=4) (bs':=[true,true,true,true,true,false]) (.tmp 10) (.tmp 13) 56 rfl (by kernel_rfl) trivial (by rw [hz]; decide) B 68 i0 (.slice none 0 0) 1 24 Tryz.underlying56 hi0 hz0 hz1 hz2 rfl (by decide) (.slice A2 m c2) m vs f10.ev (hown.alloc _) (some ⟨w'.heap.size,0,none⟩) 1 1 [.slice A5 n5 c5] f13.ev (w'.heap.size+1) ⟨rfl,fun _=>⟨w'.heap.size,0,rfl,Nat.lt_succ_self _,fun j u hu=> ?_⟩⟩ (by simp [Value.oneCell']) b1 b2 (by simp; omega) ?_
  ·rw [Nat.zero_add,cell_of_row _ _ _ _ _ (0,0) (heap_alloc_new w' _)]
   simpa using hu
  ·intro A4 c4 W4 ho hgr _
   have h4:W4.heap[S]? = some (.cells #[.slice A2 m c2] 56 (0,0)):=(hgr.block S (by simp; omega) (fun e=>by have:=(hown.lt S e.symm).1; omega)).trans ((Below.heap_alloc _ _ _ (by omega)).trans ((hl.block S hSw).trans hbox))
   refine ⟨trivial,fun a5 N=> ?_⟩
   have g3:=N.keep 3 _ (by decide) f3
   have g14:=N.got
   refine Ord.effect R (k:=5) (bs':=[true,true,true,true,true,true]) rfl (by kernel_rfl) trivial trivial (w1:=W4.setCell ⟨S,0,none⟩ (.slice A4 (m+1) c4)) (fun ty=> ?_) ?_
   ·have q:W4.cell? ⟨S,0,none⟩=some (.slice A2 m c2):=cell_of_row _ _ 0 _ _ (0,0) h4
    have fz:=frozen_of_row W4 S 0 _ _ h4
    have e1:=g3
    have e2:=g14
    unfold Chain.At at e1 e2
    go_simp
   ·exact Ord.finish R (by kernel_rfl) ⟨rfl,h _ _ _ _ _ _ _ _ hg ho hgr⟩
 refine Ord.take R (k:=1) (v:=x) (bs':=[false,true,false,false,false,false]) rfl (by kernel_rfl) Ord.Vj trivial trivial (fun w _ _=>Chain.j6 f5.ev) (by rw [hz]; decide) fun a1 N=> ?_
 have hz1:a1.tmps.size=16:=N.size.trans hz
 replace f3:=N.keep 3 _ (by decide) f3
 have f11:=N.got
 clear N
 refine Ord.either R (i:=0) (j:=2) (bs1:=[true,true,false,false,false,false]) (bs2:=[false,true,true,false,false,false]) (by kernel_rfl) ?_ ?_
 ·refine Ord.iC R (k:=0) rfl trivial trivial (hld w1 a1 hbox f3) (by rw [hz1]; decide) fun a2 N=> ?_
  have hz2:a2.tmps.size=16:=N.size.trans hz1
  have g3:=N.keep 3 _ (by decide) f3
  have g11:=N.keep 11 _ (by decide) f11
  have g10:=N.got
  refine Ord.call R (k:=2) (bs':=[true,true,true,false,false,false]) (args:= #[x]) rfl (by kernel_rfl) trivial (by simp [g11.ev]) (by kernel_rfl) C (by rw [hz2]; decide) ?_
  rintro e w' ⟨A5,n5,c5,rfl,hg⟩
  refine ⟨_,rfl,trivial,fun a3 N=> ?_⟩
  have hz3:a3.tmps.size=16:=N.size.trans hz2
  have k3:=N.keep 3 _ (by decide) g3
  have k10:=N.keep 10 _ (by decide) g10
  have k12:=N.got
  refine Ord.value R (k:=3) (bs':=[true,true,true,true,false,false]) rfl (by kernel_rfl) trivial trivial (hbs w' a3 _ _ _ k12) (by rw [hz3]; decide) fun a4 N=> ?_
  exact tail a4 w' _ _ _ (N.size.trans hz3) (N.keep 3 _ (by decide) k3) (N.keep 10 _ (by decide) k10) N.got hg
 ·refine Ord.Ec R (k:=2) (args:= #[x]) rfl trivial (by simp [f11.ev]) (by kernel_rfl) C (by rw [hz1]; decide) ?_
  rintro e w' ⟨A5,n5,c5,rfl,hg⟩
  have hb':w'.heap[S]? = some (.cells #[.slice A2 m c2] 56 (0,0)):=((hG _ _ hg).1.block S hSw).trans hbox
  refine ⟨_,rfl,trivial,fun a2 N=> ?_⟩
  have hz2:a2.tmps.size=16:=N.size.trans hz1
  have g3:=N.keep 3 _ (by decide) f3
  have g12:=N.got
  refine Ord.either R (i:=0) (j:=3) (bs1:=[true,true,true,false,false,false]) (bs2:=[false,true,true,true,false,false]) (by kernel_rfl) ?_ ?_
  ·refine Ord.iC R (k:=0) rfl trivial trivial (hld w' a2 hb' g3) (by rw [hz2]; decide) fun a3 N=> ?_
   have hz3:a3.tmps.size=16:=N.size.trans hz2
   have k3:=N.keep 3 _ (by decide) g3
   have k12:=N.keep 12 _ (by decide) g12
   have k10:=N.got
   refine Ord.value R (k:=3) (bs':=[true,true,true,true,false,false]) rfl (by kernel_rfl) trivial trivial (hbs w' a3 _ _ _ k12) (by rw [hz3]; decide) fun a4 N=> ?_
   exact tail a4 w' _ _ _ (N.size.trans hz3) (N.keep 3 _ (by decide) k3) (N.keep 10 _ (by decide) k10) N.got hg
  ·refine Ord.iC R (k:=3) rfl trivial trivial (hbs w' a2 _ _ _ g12) (by rw [hz2]; decide) fun a3 N=> ?_
   have hz3:a3.tmps.size=16:=N.size.trans hz2
   have k3:=N.keep 3 _ (by decide) g3
   have k13:=N.got
   refine Ord.value R (k:=0) (bs':=[true,true,true,true,false,false]) rfl (by kernel_rfl) trivial trivial (hld _ a3 ((Below.heap_alloc _ _ _ (by have:=(hG _ _ hg).1.size; omega)).trans hb') k3) (by rw [hz3]; decide) fun a4 N=> ?_
   exact tail a4 w' _ _ _ (N.size.trans hz3) (N.keep 3 _ (by decide) k3) N.got (N.keep 13 _ (by decide) k13) hg
end Ln
namespace Ln
open Rw
attribute [local go_sem] Oper.semAt_some
theorem qG {w:World} {base:Nat} {e:TypeId} {size n:Nat} {v:Value} {xs:List Value} (h:w.ownsRow base e size v n xs):∀j,v.ownBlock=some j→∃cur,w.heap[j]? = some (.cells cur e (0,0)):=by
 intro j hj
 rcases h.2 with ⟨rfl,_⟩ | ⟨g,cap,cur,rfl,_,hg,_⟩
 ·cases hj
 ·injection hj with hj
  subst hj
  exact ⟨_,hg⟩
theorem own_ne {w:World} {b1 b2:Nat} {e1 e2:TypeId} {s1 s2 n1 n2:Nat} {v1 v2:Value} {xs1 xs2:List Value} (h1:w.ownsRow b1 e1 s1 v1 n1 xs1) (h2:w.ownsRow b2 e2 s2 v2 n2 xs2) (he:e1≠e2):∀j,v1.ownBlock=some j→v2.ownBlock≠some j:=by
 intro j hj hj2
 obtain ⟨c1,k1⟩:=qG h1 j hj
 obtain ⟨c2,k2⟩:=qG h2 j hj2
 rw [k1] at k2
 injection k2 with k2
 injection k2 with _ k2 _
 exact he k2
theorem Xr:(Tryz.prog.info? 68).map (fun i=>(i.zero,i.size,i.bytes))=some (some (.slice none 0 0),1,24):=by kernel_rfl
structure mO (W:World) (B:Nat) (v:Value) (vs:List Value) (ls:List (List au)):Prop where
 own:W.ownsRow B 68 1 v ls.length vs
 each:∀(i:Nat) (x:Value) (l:List au),vs[i]? = some x→ls[i]? = some l→cZ W B x l
namespace mO
variable {W W':World} {B:Nat} {v v' x:Value} {vs:List Value} {ls:List (List au)} {l:List au}
theorem nothing (W:World) (B:Nat):mO W B (.slice none 0 0) [] []:=⟨World.ownsRow_nil _ _ _ _,fun i x l h=>by simp at h⟩
theorem len (h:mO W B v vs ls):vs.length=ls.length:=by have:=h.own.1; omega
theorem keep (h:mO W B v vs ls) (hk:∀j,B≤j→j<W.heap.size→W'.heap[j]? = W.heap[j]?):mO W' B v vs ls :=
 ⟨fB h.own fun j hj=>hk j (h.own.lt j hj).1 (h.own.lt j hj).2,fun i x l hx hl=>fB (h.each i x l hx hl) fun j hj=>by
  have hh:W.ownsRow B 76 3 x l.length (flat l):=h.each i x l hx hl
  exact hk j (hh.lt j hj).1 (hh.lt j hj).2⟩
theorem laid (h:mO W B v vs ls) (hb:Laid W W'):mO W' B v vs ls:=h.keep fun j _ hj=>hb.block j hj
theorem put (h:mO W B v vs ls) {j:Nat} {o:Obj} (o':Obj) (ho:W.heap[j]? = some o) (hc:o.isCells=false):mO (W.putObj j o') B v vs ls :=
 ⟨ownsRow_putObj h.own o' ho hc,fun i x l hx hl=>ownsRow_putObj (h.each i x l hx hl) o' ho hc⟩
theorem down (h:mO W B v vs ls) {B':Nat} (hb:B'≤B):mO W B' v vs ls:=⟨jq h.own hb,fun i x l hx hl=>jq (h.each i x l hx hl) hb⟩
theorem snoc (h:mO W B v vs ls) (hx:cZ W B x l) (ho:W'.ownsRow B 68 1 v' (ls.length+1) (vs++[x])) (hg:W.grownBy W' v.ownBlock):mO W' B v' (vs++[x]) (ls++[l]):=by
 have keepc:∀ {y:Value} {m:List au},cZ W B y m→cZ W' B y m:=fun {y m} hy=>fB hy fun j hj=>by
  have hh:W.ownsRow B 76 3 y m.length (flat m):=hy
  exact hg.block j (hh.lt j hj).2 (fun e=>own_ne hh h.own (by decide) j hj e.symm)
 refine ⟨by rw [List.length_append,List.length_singleton]; exact ho,fun i y m hy hm=> ?_⟩
 have hl:=h.len
 by_cases hi:i<ls.length
 ·rw [List.getElem?_append_left (by omega)] at hy
  rw [List.getElem?_append_left hi] at hm
  exact keepc (h.each i y m hy hm)
 ·have hi2:=(List.getElem?_eq_some_iff.1 hm).1
  rw [List.length_append,List.length_singleton] at hi2
  obtain rfl:i=ls.length:=by omega
  rw [List.getElem?_append_right (by omega),hl,Nat.sub_self] at hy
  rw [List.getElem?_append_right (Nat.le_refl _),Nat.sub_self] at hm
  simp at hy hm
  subst hy hm
  exact keepc hx
end mO
def DF (ls:List (List au)) (w:World) (e:Ending) (w':World):Prop:=∃v vs,e=.returned v∧mO w' w.heap.size v vs ls∧Below w.heap.size w w'
structure nC (w0:World) (g B:Nat) (ls:List (List au)) (W:World):Prop where
 old:Below w0.heap.size w0 W
 low:w0.heap.size≤g
 gB:g<B
 big:B≤W.heap.size
 box:∃A c vs,W.heap[g]? = some (.cells #[.slice A ls.length c] 56 (0,0))∧mO W B (.slice A ls.length c) vs ls
namespace nC
theorem Ye {w0 W:World} {g B:Nat} {ls:List (List au)} (h:nC w0 g B ls W):w0.heap.size≤B:=Nat.le_trans h.low (Nat.le_of_lt h.gB)
variable {w0 W W':World} {g B:Nat} {ls:List (List au)}
theorem laid (h:nC w0 g B ls W) (hb:Laid W W'):nC w0 g B ls W':=by
 obtain ⟨A,c,vs,h1,h2⟩:=h.box
 exact ⟨h.old.trans (hb.mono h.old.size),h.low,h.gB,Nat.le_trans h.big hb.size,A,c,vs,(hb.block _ (Array.getElem?_eq_some_iff.1 h1).1).trans h1,h2.laid hb⟩
theorem put (h:nC w0 g B ls W) {j:Nat} {o:Obj} (o':Obj) (hj:w0.heap.size≤j) (ho:W.heap[j]? = some o) (hc:o.isCells=false):nC w0 g B ls (W.putObj j o'):=by
 obtain ⟨A,c,vs,h1,h2⟩:=h.box
 refine ⟨h.old.trans ⟨rfl,rfl,rfl,by simp,fun k hk=>World.putObj_heap_other (by omega)⟩,h.low,h.gB,by simp; exact h.big,A,c,vs,(World.putObj_heap_other (fun e=> ?_)).trans h1,h2.put o' ho hc⟩
 subst e
 rw [h1] at ho
 cases ho
 cases hc
theorem snoc {A:Option Addr} {c:Nat} {vs:List Value} {v' x:Value} {l:List au} (h:nC w0 g B ls W) (hb:W.heap[g]? = some (.cells #[.slice A ls.length c] 56 (0,0))) (hl:mO W B (.slice A ls.length c) vs ls) (hx:cZ W B x l)
  (ho:W'.ownsRow B 68 1 v' (ls.length+1) (vs++[x])) (hg:W.grownBy W' (Value.slice A ls.length c).ownBlock):nC w0 g B (ls++[l]) (W'.setCell ⟨g,0,none⟩ v'):=by
 have hlt:=(Array.getElem?_eq_some_iff.1 hb).1
 have hne:∀j,j<B→(Value.slice A ls.length c).ownBlock≠some j:=fun j hj e=>by have:=(hl.own.lt j e).1; omega
 have hb':W'.heap[g]? = _:=(hg.block g hlt (fun e=>hne g h.gB e.symm)).trans hb
 obtain ⟨A',c',rfl,hc'⟩:=fO ho
 have hs:=hl.snoc hx ho hg
 refine ⟨?_,h.low,h.gB,?_,A',c',vs++[x],?_,?_⟩
 ·have h1:Below w0.heap.size w0 W':=h.old.grown hg h.old.size (fun j e=>by have h1:=(hl.own.lt j e).1; have:=h.low; have:=h.gB; omega)
  exact h1.setCell (p:=⟨g,0,none⟩) h.low _
 ·have:=h.big; have:=hg.size; simp; omega
 ·rw [List.length_append,List.length_singleton]
  have:=heap_setCell_same W' g 0 _ _ (.slice A' (ls.length+1) c') hb'
  simpa using this
 ·rw [List.length_append,List.length_singleton]
  refine hs.keep fun j hj _=>Below.heap_setCell _ _ _ _ ?_
  have:=h.gB
  show j≠g
  omega
end nC
theorem DI {p:List LR}:∀ {l:List LR},p∈parts l→p.length≤l.length
 | [],h=>by simp [parts] at h
 | r::rs,h=>by
  rw [mH] at h
  cases e:parts rs with
  | nil =>
   rw [e] at h
   simp [eF] at h
   subst h
   simp
  | cons q qs =>
   have ih:=fun h=>DI (p:=p) (l:=rs) h
   have iq:=DI (p:=q) (l:=rs) (by rw [e]; simp)
   rw [e] at h ih
   rw [rU] at h
   split at h
   ·rcases List.mem_cons.1 h with rfl | h
    ·simp; omega
    ·have:=ih (by simp [h]); simp; omega
   ·rcases List.mem_cons.1 h with rfl | h
    ·simp
    ·have:=ih h; simp; omega
theorem Oz {rs:List LR} {k:Nat} {part:List LR} (h:(parts rs)[k]? = some part):(joinL rs).take (k+1)=(joinL rs).take k++[joined part]:=by
 unfold joinL
 rw [←List.map_take,←List.map_take,take_one h,List.map_append]
 rfl
theorem EW (A:Option Addr) (n c:Nat) (rs:List aI) (w:World) (hs:dw w) (hr:jP w w.heap.size A n rs) (hc:n≤c) (hn:n≤1000000) :
  Calls Tryz.prog 39 #[.slice A n c] w fun e w'=>DF (joinL (rs.map lr)) w e w':=by
 obtain ⟨i0,hi0,hz0,hz1,hz2⟩:=info_parts Xr
 obtain ⟨S,hS⟩:∃S,w.heap.size=S:=⟨_,rfl⟩
 obtain ⟨N,hN⟩:∃N,(parts (rs.map lr)).length=N:=⟨_,rfl⟩
 have hNn:N≤1000000:=by
  have h1:=mI (rs.map lr)
  rw [hN,List.length_map,hr.len] at h1
  omega
 have hJN:(joinL (rs.map lr)).length=N:=by unfold joinL; rw [List.length_map,hN]
 have hsp:0<S:=by rw [←hS]; exact hs.size
 obtain ⟨w1,hw1⟩:∃w1,w.alloc (.cells #[.slice none 0 0] 56)=w1:=⟨_,rfl⟩
 have b1:Below w.heap.size w w1:=by rw [←hw1]; exact (Below.refl _ _).alloc (Nat.le_refl _) _
 have z1:w1.heap.size=S+1:=by rw [←hw1,←hS]; simp
 obtain ⟨w2,hw2⟩:∃w2,w1.alloc (.cells #[.slice A n c] 78)=w2:=⟨_,rfl⟩
 have b2:Laid w1 w2:=by rw [←hw2]; exact (Below.refl _ _).alloc (Nat.le_refl _) _
 have z2:w2.heap.size=S+2:=by rw [←hw2]; simp [z1]
 have h0:nC w S (S+2) [] w2:=by
  refine ⟨b1.trans (b2.mono b1.size),by rw [hS]; exact Nat.le_refl _,by omega,by omega,none,0,[],(b2.block S (by omega)).trans ?_,mO.nothing _ _⟩
  rw [←hw1,←hS]
  exact heap_alloc_new w _
 have hps:jV S (S+1) A n c rs w2:=by
  refine ⟨hs.below h0.old hs.size,hsp,?_,?_,by omega⟩
  ·rw [←hw2,←z1]
   exact heap_alloc_new w1 _
  ·have:=hr.below h0.old
   rw [hS] at this
   exact this
 have TL:=Lib.hid (Kr (Kp:=Leaves S (S+1)) hps hc (fun _ _ h=>h) hn)
 rw [hN] at TL
 have SW:=Lib.hid (Ov A n c w1)
 rw [hw2,z1] at SW
 have H0:=Lib.hid h0
 have HPS:=Lib.hid hps
 have HW:=Lib.hid hw1
 have HS:=Lib.hid hS
 have Z2:=Lib.hid z2
 have HJ:=Lib.hid hJN
 have HN:=Lib.hid hNn
 clear hr hs hps h0 b1 b2 hw1 hw2 z1 z2 hJN hsp hNn hN
 obtain ⟨JL,hJL⟩:∃JL,joinL (rs.map lr)=JL:=⟨_,rfl⟩
 have NX:=Lib.hid (show ∀(k:Nat) (part:List LR),(parts (rs.map lr))[k]? = some part→JL.take (k+1)=JL.take k++[joined part] from fun k part h=>by rw [←hJL]; exact Oz h)
 rw [hJL] at HJ ⊢
 clear hJL
 refine (callsIn_wide (n:=3)).1 (callsIn_of_wp_marks Tryz.func39 rfl trivial ?_ rfl)
 simp only [Tryz.ntmps39,List.size_toArray,List.length_cons,List.length_nil,Nat.reduceAdd,Nat.reduceSub,Array.replicate_succ,Array.replicate_zero,List.push_toArray,List.append_toArray,List.nil_append,List.cons_append]
 refine wpIn_wide.2 ?_
 go_wp2_with fail
 rw [HW.out]
 refine SW.out.mono ?_
 rintro e w' ⟨rfl,rfl⟩
 go_wp2_with fail
 refine Cx (Fit:=Ou S rs) (Kp:=Leaves S (S+1)) (N:=N) (gf:=104) (lb:= #[.pointer (some ⟨S+1,0,none⟩)]) rfl (enters_of Tryz.func104 (by kernel_rfl) rfl) TL.out Leaves.trans
  (fun A B hA h=>Leaves.laid h (by have:=Z2.out; omega) (by have:=Z2.out; omega)) (fun W l o o' hl ho hc=>Leaves.put (by have:=Z2.out; omega) (by have:=Z2.out; omega) o') (fun k x W h=>by obtain ⟨_,_,_,_,rfl,_⟩:=h; rfl)
  (fun k W=>Hid (nC w S (S+2) (JL.take k) W∧jV S (S+1) A n c rs W)) (fun _ _ _=>False)
  (fun k A B h hb=>Lib.hid ⟨h.out.1.laid hb,h.out.2.laid hb⟩) (fun k W l o o' hl ho hc h=>Lib.hid ⟨h.out.1.put o' (by have:=Z2.out; have:=HS.out; omega) ho hc,h.out.2.kept (Leaves.put (by have:=Z2.out; omega) (by have:=Z2.out; omega) o')⟩)
  (fun _ _ _ _ h _=>h) (fun _ _ _ _ _ _ _ _ _ h=>h) (Lib.hid ⟨H0.out,HPS.out⟩) ?round ?done (fun _ _ _ _ _ _ h _=>h.elim)
 case round =>
  rintro l2 k2 x W hk2 hl2 ⟨o,ho,hoc⟩ hi ⟨A',n',c',sub,rfl,hsub,hrw,hcc⟩
  gi_wp2
  refine ⟨Below.refl _ _,fun o1=> ?_⟩
  have hS2:S+2≤l2:=by have:=Z2.out; omega
  have H2:=Lib.hid (hi.out.1.put o1 (by have:=HS.out; omega) ho hoc)
  have P2:=Lib.hid (hi.out.2.kept (W':=W.putObj l2 o1) (Leaves.put (S:=S) (Bx:=S+1) (by omega) (by omega) o1))
  have R2:=Lib.hid (hrw.kept (W':=W.putObj l2 o1) fun j hj=>World.putObj_heap_other (by omega))
  generalize W.putObj l2 o1=W2 at H2 P2 R2 ⊢
  clear hi ho hrw
  obtain ⟨l0,hl0⟩:∃l0,JL.take k2=l0:=⟨_,rfl⟩
  have hll:l0.length=k2:=by rw [←hl0,List.length_take,HJ.out]; omega
  rw [hl0] at H2
  obtain ⟨A2,c2,vs,hb2,ho2⟩:=H2.out.box
  have c3:W2.cell? ⟨S,0,none⟩=some (.slice A2 l0.length c2):=cell_of_row _ _ 0 _ _ (0,0) hb2
  have B1:=Lib.hid (show l0.length+1≤maxLen from by have:=HN.out; unfold maxLen; omega)
  have B2:=Lib.hid (show (l0.length+1)*24≤140737488355328 from by have:=HN.out; omega)
  have OW:=Lib.hid ho2
  have HB:=Lib.hid hb2
  have C3:=Lib.hid c3
  have HK:=Lib.hid (show JL.take (k2+1)=l0++[joined (sub.map lr)] from by rw [NX.out _ _ hsub,hl0])
  have hn':n'≤1000000:=by
   have h2:=DI (List.mem_of_getElem? hsub)
   rw [List.length_map,List.length_map,R2.out.len,P2.out.rows.len] at h2
   omega
  have JW:=Lib.hid (fun (W':World) (hb:Laid W2 W')=>Kv A' n' c' sub W' (P2.out.laid hb).sp ((R2.out.below (hb.mono P2.out.big)).up (Nat.le_trans P2.out.big hb.size)) hn')
  clear hb2 ho2 hl0 hll hsub hn'
  gi_wp2
  have D2:Laid W2 W2.drew:=(Below.refl _ _).drew
  refine Ord.GZ (S:=fun _=>True) (n:=6) (R:=fun _ W=>KeepsFrom w'.heap.size W2 W∧Leaves S (S+1) W2 W∧Hid (nC w S (S+2) (JL.take (k2+1)) W∧jV S (S+1) A n c rs W)) (by kernel_rfl) (by kernel_rfl) (by kernel_rfl) ?_ (fun a W h=>h)
  refine Xq (w1:=W2.drew) (m:=l0.length) (S:=S) (B:=S+2) (A2:=A2) (c2:=c2) (vs:=vs) (x:=.slice A' n' c') (G:=fun W y=>Laid W2 W∧cZ W W2.heap.size y (joined (sub.map lr))) ⟨by kernel_rfl,by kernel_rfl⟩ hi0 hz0 hz1 hz2 HB.out ?_ ?_ (by omega) H2.out.big B1.out B2.out _ ?_ ?_ ?_ ?_
  ·refine (JW.out _ D2).mono ?_
   rintro e W3 ⟨v5,rfl,h5,b5⟩
   obtain ⟨A5,d5,rfl,_⟩:=fO (show W3.ownsRow W2.drew.heap.size 76 3 v5 (eX ((sub.map lr).flatMap iV)).length _ from h5)
   exact ⟨A5,_,d5,rfl,D2.trans b5,h5⟩
  ·rintro W3 y ⟨b5,h5⟩
   exact ⟨⟨b5.os,b5.tape,b5.output,b5.size,b5.block⟩,(OW.out.laid b5).own⟩
  ·rfl
  ·rfl
  ·rfl
  ·rintro a3 W3 A5 n5 c5 A4 c4 W4 ⟨b5,h5⟩ ho hg
   have O3:=H2.out.laid b5
   have hbig:=O3.big
   have b6:Laid W2 (W3.alloc (.cells #[.slice A5 n5 c5] 68)):=b5.alloc b5.size _
   have hx:cZ (W3.alloc (.cells #[.slice A5 n5 c5] 68)) (S+2) (.slice A5 n5 c5) (joined (sub.map lr)):=jq (nA h5 ((Below.refl _ _).alloc (Nat.le_refl _) _)) H2.out.big
   have hL:=OW.out.laid b6
   have hne:∀j,(Value.slice A2 l0.length c2).ownBlock=some j→S+2≤j:=fun j e=>(hL.own.lt j e).1
   refine ⟨?_,?_,Lib.hid ⟨?_,?_⟩⟩
   ·exact (o9 b6).trans ((sI hg (sJ hL.own)).trans ((KeepsOthers.setCell _ _ _).from _))
   ·refine ⟨?_,fun j hj=> ?_⟩
    ·have h1:=b6.size
     have h2:=hg.size
     simp at h1 h2 ⊢
     omega
    ·have hj2:j<S+2:=by omega
     refine (Below.heap_setCell _ _ _ _ (by show j≠S; omega)).trans ((hg.block j (by have:=H2.out.big; simp; omega) (fun e=>by have:=hne j e.symm; omega)).trans (b6.block j (by have:=H2.out.big; omega)))
   ·rw [HK.out]
    exact nC.snoc (H2.out.laid b6) ((b6.block S (by have:=H2.out.big; omega)).trans HB.out) hL hx ho hg
   ·refine P2.out.kept ⟨?_,fun j hj=> ?_⟩
    ·have h1:=b6.size
     have h2:=hg.size
     simp at h1 h2 ⊢
     omega
    ·have hj2:j<S+2:=by omega
     refine (Below.heap_setCell _ _ _ _ (by show j≠S; omega)).trans ((hg.block j (by have:=H2.out.big; simp; omega) (fun e=>by have:=hne j e.symm; omega)).trans (b6.block j (by have:=H2.out.big; omega)))
 case done =>
  rintro D W hD hi hdef
  rw [List.take_of_length_le (by rw [HJ.out]; exact Nat.le_refl _)] at hi
  obtain ⟨A2,c2,vs,hb2,ho2⟩:=hi.out.1.box
  have c3:W.cell? ⟨S,0,none⟩=some (.slice A2 JL.length c2):=cell_of_row _ _ 0 _ _ (0,0) hb2
  have HI:=Lib.hid (And.intro hi.out hdef)
  have HO:=Lib.hid ho2
  clear hi hdef hb2 ho2 TL
  go_wp2_with fail
  refine ⟨by simp,.inl ⟨_,_,rfl,run_takeDeferred HI.out.2,?_⟩⟩
  have o2:Below w.heap.size w (W.putObj D (.deferred none)):=HI.out.1.1.old.trans ⟨rfl,rfl,rfl,by simp,fun k hk=>World.putObj_heap_other (by have:=Z2.out; have:=HS.out; omega)⟩
  refine ⟨_,?_,_,vs,rfl,(HO.out.put _ HI.out.2 rfl).down HI.out.1.1.Ye,o2⟩
  simp [results,go_sem]
end Ln
namespace Ln
open Rw
structure Own (W:World) (B:Nat) (v:Value) (rs:List aI):Prop where
 own:W.ownsRow B 122 2 v rs.length (rs.flatMap aI.vals)
 each:∀r∈rs,cZ W B (.slice r.A r.n r.c) r.l∧(∀c∈r.l,-2147483648≤c.1∧c.1≤2147483647)∧r.c≤maxLen
namespace Own
variable {W W':World} {B:Nat} {v v':Value} {rs:List aI}
theorem shape (h:Own W B v rs):∃A c,v=.slice A rs.length c∧rs.length≤c:=fO h.own
theorem keep (h:Own W B v rs) (hk:∀j,B≤j→j<W.heap.size→W'.heap[j]? = W.heap[j]?):Own W' B v rs :=
 ⟨fB h.own fun j hj=>hk j (h.own.lt j hj).1 (h.own.lt j hj).2,fun r hr=>⟨fB (h.each r hr).1 fun j hj=>by
  have hh:W.ownsRow B 76 3 (.slice r.A r.n r.c) r.l.length (flat r.l):=(h.each r hr).1
  exact hk j (hh.lt j hj).1 (hh.lt j hj).2,(h.each r hr).2⟩⟩
theorem laid (h:Own W B v rs) (hb:Laid W W'):Own W' B v rs:=h.keep fun j _ hj=>hb.block j hj
theorem snoc {x:aI} (h:Own W B v rs) (hx:cZ W B (.slice x.A x.n x.c) x.l) (hs:∀c∈x.l,-2147483648≤c.1∧c.1≤2147483647) (hm:x.c≤maxLen) (ho:W'.ownsRow B 122 2 v' (rs.length+1) (rs.flatMap aI.vals++x.vals)) (hg:W.grownBy W' v.ownBlock):Own W' B v' (rs++[x]):=by
 have keepc:∀ {y:Value} {m:List au},cZ W B y m→cZ W' B y m:=fun {y m} hy=>fB hy fun j hj=>by
  have hh:W.ownsRow B 76 3 y m.length (flat m):=hy
  exact hg.block j (hh.lt j hj).2 (fun e=>own_ne hh h.own (by decide) j hj e.symm)
 refine ⟨?_,fun r hr=> ?_⟩
 ·rw [List.length_append,List.length_singleton,List.flatMap_append]
  simpa [List.flatMap_cons] using ho
 ·rcases List.mem_append.1 hr with hr | hr
  ·exact ⟨keepc (h.each r hr).1,(h.each r hr).2⟩
  ·rw [List.mem_singleton.1 hr]
   exact ⟨keepc hx,hs,hm⟩
theorem rws {A:Option Addr} {n c:Nat} (h:Own W B (.slice A n c) rs):n=rs.length∧jP W W.heap.size A n rs:=by
 obtain ⟨A',c',e,_⟩:=fO h.own
 injection e with e1 e2 e3
 subst e1 e2 e3
 refine ⟨rfl,fun r hr=> ?_,Sq.own h.own⟩
 obtain ⟨rA,rn,rc,rb,rl⟩:=r
 obtain ⟨h1,h2,h3⟩:=h.each _ hr
 have hh:W.ownsRow B 76 3 (.slice rA rn rc) rl.length (flat rl):=h1
 obtain ⟨A',c',e,hc⟩:=fO hh
 injection e with e1 e2 e3
 subst e2
 have hq:=Sq.own hh
 exact ⟨by show rl.length≤rc; omega,h3,h2,hq⟩
end Own
theorem Xt:(Tryz.prog.info? 122).map (fun i=>(i.zero,i.size,i.bytes))=some (some (.agg #[.slice none 0 0,.bool false]),2,32):=by kernel_rfl
end Ln
namespace Ln
open Rw
structure d9 (W:World) (B:Nat) (v:Value) (wv:Nat) (rs:List aI):Prop where
 own:Own W B v rs
 row:∀r∈rs,r.n=wv∧r.l.length=wv∧∃g,r.A=some ⟨g,0,none⟩
 apart:(rs.map aI.A).Nodup
def fG (W:World) (g j:Nat) (x:au):World:=((W.setCell ⟨g,j*3,none⟩ (.int .i32 x.1)).setCell ⟨g,j*3+1,none⟩ (.int .i64 x.2.1)).setCell ⟨g,j*3+2,none⟩ (.int .i64 x.2.2)
theorem vV (W:World) (g j:Nat) (x:au) {k:Nat} (h:k≠g):(fG W g j x).heap[k]? = W.heap[k]? :=
 (Below.heap_setCell _ _ _ _ h).trans ((Below.heap_setCell _ _ _ _ h).trans (Below.heap_setCell _ _ _ _ h))
theorem mem_set {α:Type} {l:List α} {k:Nat} {a y:α} (h:y∈l.set k a):y=a∨∃i,i≠k∧l[i]? = some y:=by
 obtain ⟨i,hi⟩:=List.mem_iff_getElem?.1 h
 rw [List.getElem?_set] at hi
 split at hi
 ·split at hi
  ·cases hi; exact .inl rfl
  ·cases hi
 ·exact .inr ⟨i,fun e=>by omega,hi⟩
theorem EY:∀(rs:List aI) (k:Nat) (r:aI) (b:Bool),rs[k]? = some r→(rs.flatMap aI.vals).set (k*2+1) (.bool b)=(rs.set k { r with wrap:=b }).flatMap aI.vals
 | [],k,r,b,h=>by simp at h
 | x::rs,0,r,b,h=>by
  simp at h
  subst h
  rfl
 | x::rs,k+1,r,b,h=>by
  have ih:=EY rs k r b (by simpa using h)
  rw [List.set_cons_succ,List.flatMap_cons,List.flatMap_cons,←ih]
  show (Value.slice x.A x.n x.c::Value.bool x.wrap::rs.flatMap aI.vals).set ((k+1)*2+1) _=Value.slice x.A x.n x.c::Value.bool x.wrap::(rs.flatMap aI.vals).set (k*2+1) _
  rw [show (k+1)*2+1=k*2+1+1+1 by omega,List.set_cons_succ,List.set_cons_succ]
theorem Cm:∀(rs:List aI) (k:Nat) (r:aI) (m:List au),rs[k]? = some r→(rs.set k { r with l:=m }).flatMap aI.vals=rs.flatMap aI.vals
 | [],k,r,m,h=>by simp at h
 | x::rs,0,r,m,h=>by
  simp at h
  subst h
  rfl
 | x::rs,k+1,r,m,h=>by
  rw [List.set_cons_succ,List.flatMap_cons,List.flatMap_cons,Cm rs k r m (by simpa using h)]
theorem map_set {β:Type} (f:aI→β) {rs:List aI} {k:Nat} {r r':aI} (h:rs[k]? = some r) (e:f r'=f r):(rs.set k r').map f=rs.map f:=by
 rw [List.map_set,e]
 refine List.ext_getElem? fun i=> ?_
 rw [List.getElem?_set]
 split
 ·subst_vars
  rw [List.getElem?_map,h]
  have:=(List.getElem?_eq_some_iff.1 h).1
  simp [this]
 ·rfl
namespace d9
variable {W W':World} {B wv:Nat} {v v':Value} {rs:List aI}
theorem keep (h:d9 W B v wv rs) (hk:∀j,B≤j→j<W.heap.size→W'.heap[j]? = W.heap[j]?):d9 W' B v wv rs:=⟨h.own.keep hk,h.row,h.apart⟩
theorem laid (h:d9 W B v wv rs) (hb:Laid W W'):d9 W' B v wv rs:=⟨h.own.laid hb,h.row,h.apart⟩
theorem Gb (h:d9 W B v wv rs) (h2:2≤wv) (hk:∀(j:Nat) (cs:Array Value) (ty:TypeId),W.heap[j]? = some (.cells cs ty (0,0))→(ty=122∨ty=76∧cs.size≠3)→W'.heap[j]? = W.heap[j]?):d9 W' B v wv rs:=by
 refine ⟨⟨fB h.own.own fun j hj=> ?_,fun r hr=> ?_⟩,h.row,h.apart⟩
 ·rcases h.own.own.2 with ⟨rfl,_⟩ | ⟨g,cap,cur,rfl,_,hg,_⟩
  ·cases hj
  ·injection hj with hj
   subst hj
   exact hk _ _ _ hg (.inl rfl)
 ·obtain ⟨k1,k2⟩:=h.own.each r hr
  obtain ⟨e1,e2,-⟩:=h.row r hr
  have kk:W.ownsRow B 76 3 (.slice r.A r.n r.c) r.l.length (flat r.l):=k1
  refine ⟨fB kk fun j hj=> ?_,k2⟩
  rcases kk.2 with ⟨_,h0⟩ | ⟨g,cap,cur,e,_,hg,hc,_,hz,_⟩
  ·omega
  ·rw [e] at hj
   injection hj with hj
   have hj':g=j:=hj
   subst hj'
   exact hk _ _ _ hg (.inr ⟨rfl,by omega⟩)
theorem ne (h:d9 W B v wv rs) {i k:Nat} {y r:aI} (hy:rs[i]? = some y) (hr:rs[k]? = some r) (hik:i≠k):y.A≠r.A:=by
 intro e
 have hi:i<(rs.map aI.A).length:=by have:=(List.getElem?_eq_some_iff.1 hy).1; simpa using this
 exact hik ((List.getElem?_inj hi h.apart).1 (by rw [List.getElem?_map,List.getElem?_map,hy,hr]; simp [e]))
theorem put (h:d9 W B v wv rs) {k j g:Nat} {r:aI} (hr:rs[k]? = some r) (hg:r.A=some ⟨g,0,none⟩) (x:au) (hx : -2147483648≤x.1∧x.1≤2147483647) :
  d9 (fG W g j x) B v wv (rs.set k { r with l:=r.l.set j x }):=by
 obtain ⟨rA,rn,rc,rb,rl⟩:=r
 dsimp only at hg
 subst hg
 obtain ⟨h1,h2,h3⟩:=h.own.each _ (List.mem_of_getElem? hr)
 have hh:W.ownsRow B 76 3 (.slice (some ⟨g,0,none⟩) rn rc) rl.length (flat rl):=h1
 obtain ⟨hn,hl,-⟩:=h.row _ (List.mem_of_getElem? hr)
 dsimp only at hn hl h2
 have hln:rn=rl.length:=by rw [hn,hl]
 subst hln
 refine ⟨⟨?_,fun y hy=> ?_⟩,fun y hy=> ?_,?_⟩
 ·rw [List.length_set,Cm _ _ _ _ hr]
  exact fB h.own.own fun q hq=>vV _ _ _ _ (fun e=>own_ne h.own.own hh (by decide) q hq (by rw [e]; rfl))
 ·rcases mem_set hy with rfl | ⟨i,hi,hy⟩
  ·refine ⟨?_,fun c hc=> ?_,h3⟩
   ·show World.ownsRow _ _ _ _ _ (rl.set j x).length (flat (rl.set j x))
    have e1:=(hh.stored (j*3) (.int .i32 x.1)).1
    have e2:=(e1.stored (j*3+1) (.int .i64 x.2.1)).1
    have e3:=(e2.stored (j*3+2) (.int .i64 x.2.2)).1
    rw [Ad] at e3
    rw [List.length_set]
    exact e3
   ·rcases List.mem_or_eq_of_mem_set hc with hc | rfl
    ·exact h2 _ hc
    ·exact hx
  ·obtain ⟨k1,k2,k3⟩:=h.own.each _ (List.mem_of_getElem? hy)
   have kk:W.ownsRow B 76 3 (.slice y.A y.n y.c) y.l.length (flat y.l):=k1
   obtain ⟨-,-,gy,ey⟩:=h.row _ (List.mem_of_getElem? hy)
   have hne:=h.ne hy hr hi
   refine ⟨fB kk fun q hq=>vV _ _ _ _ (fun e=> ?_),k2,k3⟩
   rw [ey] at hq hne
   injection hq with hq
   have hq':gy=q:=hq
   subst hq' e
   exact hne rfl
 ·rcases mem_set hy with rfl | ⟨i,hi,hy⟩
  ·exact ⟨hn,by show (rl.set j x).length=wv; rw [List.length_set]; exact hl,g,rfl⟩
  ·exact h.row _ (List.mem_of_getElem? hy)
 ·refine (congrArg List.Nodup (map_set aI.A hr ?_)).mpr h.apart
  rfl
theorem Xu {g n c k:Nat} (h:d9 W B (.slice (some ⟨g,0,none⟩) n c) wv rs) {r:aI} (hr:rs[k]? = some r) (b:Bool):d9 (W.setCell ⟨g,k*2+1,none⟩ (.bool b)) B (.slice (some ⟨g,0,none⟩) n c) wv (rs.set k { r with wrap:=b }):=by
 obtain ⟨e,_⟩:=h.own.rws
 subst e
 have ho:=h.own.own
 have hm:∀y∈rs.set k { r with wrap:=b },∃z∈rs,z.A=y.A∧z.n=y.n∧z.c=y.c∧z.l=y.l:=fun y hy=>by
  rcases List.mem_or_eq_of_mem_set hy with h1 | h1
  ·exact ⟨y,h1,rfl,rfl,rfl,rfl⟩
  ·rw [h1]; exact ⟨r,List.mem_of_getElem? hr,rfl,rfl,rfl,rfl⟩
 refine ⟨⟨?_,fun y hy=> ?_⟩,fun y hy=> ?_,?_⟩
 ·rw [List.length_set,←EY rs k r b hr]
  exact (ho.stored _ _).1
 ·obtain ⟨z,hz,e1,e2,e3,e4⟩:=hm y hy
  obtain ⟨h1,h2,h3⟩:=h.own.each z hz
  rw [e1,e2,e3,e4] at h1
  rw [e4] at h2
  rw [e3] at h3
  have hh:W.ownsRow B 76 3 (.slice y.A y.n y.c) y.l.length (flat y.l):=h1
  exact ⟨fB hh fun j hj=>Below.heap_setCell _ _ _ _ (fun e=>own_ne ho hh (by decide) g rfl (by rw [hj,e])),h2,h3⟩
 ·obtain ⟨z,hz,e1,e2,e3,e4⟩:=hm y hy
  have:=h.row z hz
  rw [e1,e2,e4] at this
  exact this
 ·refine (congrArg List.Nodup (map_set aI.A hr ?_)).mpr h.apart
  rfl
theorem snoc {x:aI} {B2:Nat} (h:d9 W B v wv rs) (hx:cZ W B2 (.slice x.A x.n x.c) x.l) (hb:B≤B2) (hnew:∀r∈rs,∀q,r.A=some ⟨q,0,none⟩→q<B2) (hs:∀c∈x.l,-2147483648≤c.1∧c.1≤2147483647) (hm:x.c≤maxLen) (h1:x.n=wv) (h2:x.l.length=wv) (hw:∃q,x.A=some ⟨q,0,none⟩)
  (ho:W'.ownsRow B 122 2 v' (rs.length+1) (rs.flatMap aI.vals++x.vals)) (hg:W.grownBy W' v.ownBlock):d9 W' B v' wv (rs++[x]):=by
 refine ⟨h.own.snoc (jq hx hb) hs hm ho hg,fun r hr=> ?_,?_⟩
 ·rcases List.mem_append.1 hr with hr | hr
  ·exact h.row r hr
  ·rw [List.mem_singleton.1 hr]; exact ⟨h1,h2,hw⟩
 ·rw [List.map_append,List.map_cons,List.map_nil]
  refine List.nodup_append.2 ⟨h.apart,by simp,fun a ha b hb' e=> ?_⟩
  obtain ⟨r,hr,rfl⟩:=List.mem_map.1 ha
  rw [List.mem_singleton] at hb'
  obtain ⟨-,-,q,eq⟩:=h.row r hr
  have hq:=hnew r hr q eq
  have hh:W.ownsRow B2 76 3 (.slice x.A x.n x.c) x.l.length (flat x.l):=hx
  have:=(hh.lt q (by rw [←hb',←e,eq]; rfl)).1
  omega
end d9
end Ln
