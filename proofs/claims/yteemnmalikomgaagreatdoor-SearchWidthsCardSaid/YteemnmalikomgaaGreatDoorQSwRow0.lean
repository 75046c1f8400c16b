import Derived.Test.YteemnmalikomgaaGreatDoorQSwBase16
import Derived.Laws.CopyRow
set_option maxRecDepth 100000
set_option maxHeartbeats 6400000
namespace Go.Proofs.YteemnmalikomgaaGreatDoor
namespace Rw
def jy (l:List au) (i:Nat):au:=l.getD i (32,1,0)
def vX (l:List au) (i:Nat):au:=if i=0 then (32,1,0) else jy l (i - 1)
theorem Uz {l:List au} {i:Nat} {c:au} (h:l[i]? = some c):jy l i=c:=by unfold jy; rw [List.getD_eq_getElem?_getD,h]; rfl
theorem UA {l:List au} {i:Nat} (h:l.length≤i):jy l i=(32,1,0):=by unfold jy; rw [List.getD_eq_getElem?_getD,List.getElem?_eq_none h]; rfl
theorem V8 {l:List au} {i:Nat} (h:i<l.length):l[i]? = some (jy l i):=by
 rw [Uz (List.getElem?_eq_getElem h)]
 exact List.getElem?_eq_getElem h
structure Good (l:List au):Prop where
 each:∀i,i<l.length→iK (jy l i)=true
 pair:∀i,((vX l i).2.1=2↔(jy l i).2.1=0)
 like:∀i,(jy l i).2.1=0→(jy l i).2.2=(vX l i).2.2
theorem Good.next {l:List au} (h:Good l) (i:Nat):(jy l i).2.1=2↔(jy l (i+1)).2.1=0:=by
 have:=h.pair (i+1)
 unfold vX at this
 rwa [if_neg (by omega),Nat.add_sub_cancel] at this
theorem Good.first {l:List au} (h:Good l):(jy l 0).2.1≠0:=by
 intro e
 have:=(h.pair 0).2 e
 unfold vX at this
 rw [if_pos rfl] at this
 cases this
structure Whole (L:List au):Prop where
 some':0<L.length
 each:∀j,j<L.length→iK (jy L j)=true
 pair:∀j,j<L.length→((vX L j).2.1=2↔(jy L j).2.1=0)
 like:∀j,j<L.length→(jy L j).2.1=0→(jy L j).2.2=(vX L j).2.2
 last:(jy L (L.length - 1)).2.1≠2
theorem Oo:iK (32,1,0)=true:=by unfold iK; simp; decide
def mJ (l:List au) (k:Nat) (L:List au):List au:=l.take k++L++l.drop (k+L.length)
def lone (o:List au) (i:Nat):Bool:=((jy o i).2.1 == 2 && !((jy o (i+1)).2.1 == 0)) || ((jy o i).2.1 == 0 && !((vX o i).2.1 == 2))
def av (n:Nat):List au:=List.replicate n (32,1,0)
theorem bO (n:Nat):(av n).length=n:=List.length_replicate
theorem Good.ahead {l:List au} (h:Good l) {i:Nat} (h0:(jy l i).2.1=0):0<i∧i<l.length:=by
 constructor
 ·rcases Nat.eq_zero_or_pos i with e | e
  ·subst e; exact absurd h0 h.first
  ·exact e
 ·rcases Nat.lt_or_ge i l.length with h' | h'
  ·exact h'
  ·rw [UA h'] at h0; cases h0
end Rw
end Go.Proofs.YteemnmalikomgaaGreatDoor
namespace Go.Proofs.YteemnmalikomgaaGreatDoor
open Go.ChangeShapes Go.WideShapes Go.ChangeAt Go.RowKit
theorem Sq.DJ {w:World} {B n b off k:Nat} {l:List au} {c:au} (h:Sq w B 3 n (some ⟨b,off,none⟩) (flat l)) (hc:l[k]? = some c):w.cell? ⟨b,off+k*3,none⟩=some (.int .i32 c.1)∧w.cell? ⟨b,off+k*3+1,none⟩=some (.int .i64 c.2.1)∧w.cell? ⟨b,off+k*3+2,none⟩=some (.int .i64 c.2.2):=by
 have hl:k<n:=by
  have h1:=h.len
  rw [aX] at h1
  have:=(List.getElem?_eq_some_iff.1 hc).1
  omega
 obtain ⟨b',off',e,_,c',h',q0,q1,q2⟩:=h.three hl
 injection e with e
 injection e with e1 e2
 subst e1 e2
 rw [hc] at h'
 injection h' with h'
 subst h'
 exact ⟨q0,q1,q2⟩
namespace Rw
theorem uh {P:Program} (w:World) (dT sT ty elem:TypeId) (i:TypeInfo) (g o dLen dCap:Nat) (a:Addr) (sLen sCap:Nat) (cur:Array Value) (t:TypeId) (cs:List Value)
  (hu:P.underlying dT=some (.slice elem)) (hi:P.info? elem=some i) (hsz:i.size=3)
  (hg:w.heap[g]? = some (.cells cur t (0,0))) (hn:cs.length=Nat.min sLen dLen*3)
  (hsrc:∀j v,cs[j]? = some v→w.cell? (a.add j)=some v) (hfit:o+cs.length≤cur.size) (h1:∀v∈cs,v.oneCell'=true) :
  (Builtin.copy_ #[dT,sT] ty #[.slice (some ⟨g,o,none⟩) dLen dCap,.slice (some a) sLen sCap]).run P w =
   .ok (goInt (Nat.min sLen dLen)) (w.setRow g (cur.toList.take o++cs++cur.toList.drop (o+cs.length)).toArray):=by
 have hl:=run_loadCells_list (P:=P) w a cs hsrc
 have hst:=run_storeCells_at P g o t cs 0 cur w hg (by simpa using hfit) h1
 simp [Builtin.copy_,run_underlying hu,Builtin.lenOf,Builtin.firstCells,sizeOf,typeInfo,hi,hsz,←hn,hl,hst]
theorem Ad:∀(l:List au) (k:Nat) (r m a:Int),(((flat l).set (k*3) (.int .i32 r)).set (k*3+1) (.int .i64 m)).set (k*3+2) (.int .i64 a)=flat (l.set k (r,m,a))
 | [],k,r,m,a=>by simp [flat]
 | c::l,0,r,m,a=>by simp [flat]
 | c::l,k+1,r,m,a=>by
  have h:=Ad l k r m a
  have e:flat (c::l)=.int .i32 c.1::.int .i64 c.2.1::.int .i64 c.2.2::flat l:=by simp [flat]
  have e':flat (c::l.set k (r,m,a))=.int .i32 c.1::.int .i64 c.2.1::.int .i64 c.2.2::flat (l.set k (r,m,a)):=by simp [flat]
  rw [List.set_cons_succ,e,e',←h,show (k+1)*3=k*3+1+1+1 by omega]
  rfl
structure dN (w:World) (b:Nat) (l:List au) (tail:List Value):Prop where
 heap:w.heap[b]? = some (.cells (flat l++tail).toArray 76 (0,0))
theorem dN.cell {w:World} {b:Nat} {l:List au} {tail:List Value} (h:dN w b l tail) {k:Nat} (hk:k<l.length) :
  w.cell? ⟨b,k*3,none⟩=some (.int .i32 (jy l k).1)∧w.cell? ⟨b,k*3+1,none⟩=some (.int .i64 (jy l k).2.1)∧w.cell? ⟨b,k*3+2,none⟩=some (.int .i64 (jy l k).2.2):=by
 have hb:b<w.heap.size:=(Array.getElem?_eq_some_iff.1 h.heap).1
 have hq:Sq w w.heap.size 3 l.length (some ⟨b,0,none⟩) (flat l):=⟨aX l,fun _=>⟨b,0,rfl,hb,fun j u hu=>by
  rw [Nat.zero_add,cell_of_row _ b j _ _ (0,0) h.heap]
  have hj:=(List.getElem?_eq_some_iff.1 hu).1
  rw [List.getElem?_toArray,List.getElem?_append_left hj]
  exact hu⟩⟩
 have:=hq.DJ (V8 hk)
 simpa using this
theorem dN.free {w:World} {b:Nat} {l:List au} {tail:List Value} (h:dN w b l tail) (j:Nat):w.frozen? ⟨b,j,none⟩=false:=frozen_of_row w b j _ _ h.heap
theorem dN.set {w:World} {b:Nat} {l:List au} {tail:List Value} (h:dN w b l tail) {k:Nat} (hk:k<l.length) (r m a:Int) :
  dN (((w.setCell ⟨b,k*3,none⟩ (.int .i32 r)).setCell ⟨b,k*3+1,none⟩ (.int .i64 m)).setCell ⟨b,k*3+2,none⟩ (.int .i64 a)) b (l.set k (r,m,a)) tail:=by
 have h0:=heap_setCell_same w b (k*3) _ _ (.int .i32 r) h.heap
 have h1:=heap_setCell_same _ b (k*3+1) _ _ (.int .i64 m) h0
 have h2:=heap_setCell_same _ b (k*3+2) _ _ (.int .i64 a) h1
 refine ⟨?_⟩
 rw [h2]
 have hl:=aX l
 have e:((((flat l++tail).toArray.setIfInBounds (k*3) (.int .i32 r)).setIfInBounds (k*3+1) (.int .i64 m)).setIfInBounds (k*3+2) (.int .i64 a))=(flat (l.set k (r,m,a))++tail).toArray:=by
  rw [←Ad]
  simp only [List.setIfInBounds_toArray]
  congr 1
  rw [List.set_append_left _ _ (by omega),List.set_append_left _ _ (by rw [List.length_set]; omega),List.set_append_left _ _ (by rw [List.length_set,List.length_set]; omega)]
 rw [e]
theorem dN.only (w:World) (b k:Nat) (r m a:Value):eH b w (((w.setCell ⟨b,k*3,none⟩ r).setCell ⟨b,k*3+1,none⟩ m).setCell ⟨b,k*3+2,none⟩ a) :=
 ((eH.cell b (k*3) w r).trans (eH.cell b (k*3+1) _ m)).trans (eH.cell b (k*3+2) _ a)
theorem dN.below {w w':World} {b:Nat} {l:List au} {tail:List Value} (h:dN w b l tail) (hb:Below w.heap.size w w'):dN w' b l tail:=⟨(hb.block b (Array.getElem?_eq_some_iff.1 h.heap).1).trans h.heap⟩
theorem dN.copied {w:World} {b:Nat} {l:List au} {tail:List Value} (h:dN w b l tail) {k:Nat} {L:List au} (hL:k+L.length≤l.length) :
  dN (w.setRow b ((flat l++tail).toArray.toList.take (k*3)++flat L++(flat l++tail).toArray.toList.drop (k*3+(flat L).length)).toArray) b (mJ l k L) tail:=by
 refine ⟨?_⟩
 rw [setRow_heap w b _ _ _ _ h.heap]
 have hl:=aX l
 have hL':=aX L
 have e:(flat l++tail).toArray.toList.take (k*3)++flat L++(flat l++tail).toArray.toList.drop (k*3+(flat L).length)=flat (mJ l k L)++tail:=by
  have hd:(flat l).drop (k*3+L.length*3)=flat (l.drop (k+L.length)):=by
   rw [show k*3+L.length*3=(k+L.length)*3 by omega]
   have h1:flat l=flat (l.take (k+L.length))++flat (l.drop (k+L.length)):=by rw [←gL,List.take_append_drop]
   rw [h1,List.drop_append_of_le_length (by rw [aX,List.length_take]; omega),List.drop_of_length_le (by rw [aX,List.length_take]; omega),List.nil_append]
  unfold mJ
  rw [gL,gL,DY,List.take_append_of_le_length (by omega),List.drop_append_of_le_length (by omega),hL',hd]
  simp [List.append_assoc]
 rw [e]
end Rw
namespace Rw
theorem LX (g:Nat) (w:World) (cs:Array Value):eH g w (w.setRow g cs):=⟨rfl,rfl,rfl,by simp [World.setRow],fun k hk=>setRow_other w g k cs hk⟩
theorem dN.lt {w:World} {b:Nat} {l:List au} {tail:List Value} (h:dN w b l tail):b<w.heap.size:=(Array.getElem?_eq_some_iff.1 h.heap).1
end Rw
namespace Rw
abbrev jI (k:Nat):=Ord.upto k 10
def Yf:List Ord.Line:=[
 (some 38,.move (.tmp 8),none,[]),
 (some 39,.move (.tmp 7),none,[]),
 (some 40,.move (.tmp 8),none,[]),
 (some 41,.slice 68 (.tmp 39) (some (.tmp 40)) none none,none,[1,2]),
 (some 42,.move (.tmp 7),none,[]),
 (some 43,.move (.tmp 8),none,[]),
 (some 44,.slice 68 (.tmp 42) none (some (.tmp 43)) none,none,[4,5]),
 (some 45,.call { callee:=.builtin .copy,args:= #[.tmp 41,.tmp 44],argTypes:= #[68,68] },none,[3,6]),
 (some 46,.binOp .add 3 (.tmp 38) (.tmp 45) 3,none,[0,7]),
 (some 8,.assign (.tmp 46),none,[8,7,0,1,2,3,4,5,6,7,8])]
structure vY (g cnt:Nat) (p0 p1 p2 p3 p4 p5 p6 p9 p10 p11 p12 p13 p14 p15 p16 p17 p18 p19 p20 p21 p22 p23 p24 p25 p26 p27 p28 p29 p30 p31 p32 p33 p47:Value) (a:Act):Prop where
 size:a.tmps.size=48
 defers:a.defers=[]
 s0:Chain.At a 0 (p0)
 s1:Chain.At a 1 (p1)
 s2:Chain.At a 2 (p2)
 s3:Chain.At a 3 (p3)
 s4:Chain.At a 4 (p4)
 s5:Chain.At a 5 (p5)
 s6:Chain.At a 6 (p6)
 s9:Chain.At a 9 (p9)
 s10:Chain.At a 10 (p10)
 s11:Chain.At a 11 (p11)
 s12:Chain.At a 12 (p12)
 s13:Chain.At a 13 (p13)
 s14:Chain.At a 14 (p14)
 s15:Chain.At a 15 (p15)
 s16:Chain.At a 16 (p16)
 s17:Chain.At a 17 (p17)
 s18:Chain.At a 18 (p18)
 s19:Chain.At a 19 (p19)
 s20:Chain.At a 20 (p20)
 s21:Chain.At a 21 (p21)
 s22:Chain.At a 22 (p22)
 s23:Chain.At a 23 (p23)
 s24:Chain.At a 24 (p24)
 s25:Chain.At a 25 (p25)
 s26:Chain.At a 26 (p26)
 s27:Chain.At a 27 (p27)
 s28:Chain.At a 28 (p28)
 s29:Chain.At a 29 (p29)
 s30:Chain.At a 30 (p30)
 s31:Chain.At a 31 (p31)
 s32:Chain.At a 32 (p32)
 s33:Chain.At a 33 (p33)
 s47:Chain.At a 47 (p47)
 s7:Chain.At a 7 (.slice (some ⟨g,0,none⟩) cnt cnt)
theorem vY.next {g cnt:Nat} {p0 p1 p2 p3 p4 p5 p6 p9 p10 p11 p12 p13 p14 p15 p16 p17 p18 p19 p20 p21 p22 p23 p24 p25 p26 p27 p28 p29 p30 p31 p32 p33 p47:Value} {a a':Act} {d:Nat} {v:Value} (F:vY g cnt p0 p1 p2 p3 p4 p5 p6 p9 p10 p11 p12 p13 p14 p15 p16 p17 p18 p19 p20 p21 p22 p23 p24 p25 p26 p27 p28 p29 p30 p31 p32 p33 p47 a) (nx:Chain.Next a a' d v) (h:d≠0∧d≠1∧d≠2∧d≠3∧d≠4∧d≠5∧d≠6∧d≠9∧d≠10∧d≠11∧d≠12∧d≠13∧d≠14∧d≠15∧d≠16∧d≠17∧d≠18∧d≠19∧d≠20∧d≠21∧d≠22∧d≠23∧d≠24∧d≠25∧d≠26∧d≠27∧d≠28∧d≠29∧d≠30∧d≠31∧d≠32∧d≠33∧d≠47∧d≠7:=by decide):vY g cnt p0 p1 p2 p3 p4 p5 p6 p9 p10 p11 p12 p13 p14 p15 p16 p17 p18 p19 p20 p21 p22 p23 p24 p25 p26 p27 p28 p29 p30 p31 p32 p33 p47 a':=⟨nx.size.trans F.size,nx.defers.trans F.defers,nx.k F.s0 (by omega),nx.k F.s1 (by omega),nx.k F.s2 (by omega),nx.k F.s3 (by omega),nx.k F.s4 (by omega),nx.k F.s5 (by omega),nx.k F.s6 (by omega),nx.k F.s9 (by omega),nx.k F.s10 (by omega),nx.k F.s11 (by omega),nx.k F.s12 (by omega),nx.k F.s13 (by omega),nx.k F.s14 (by omega),nx.k F.s15 (by omega),nx.k F.s16 (by omega),nx.k F.s17 (by omega),nx.k F.s18 (by omega),nx.k F.s19 (by omega),nx.k F.s20 (by omega),nx.k F.s21 (by omega),nx.k F.s22 (by omega),nx.k F.s23 (by omega),nx.k F.s24 (by omega),nx.k F.s25 (by omega),nx.k F.s26 (by omega),nx.k F.s27 (by omega),nx.k F.s28 (by omega),nx.k F.s29 (by omega),nx.k F.s30 (by omega),nx.k F.s31 (by omega),nx.k F.s32 (by omega),nx.k F.s33 (by omega),nx.k F.s47 (by omega),nx.k F.s7 (by omega)⟩
theorem vY.lt {g cnt:Nat} {p0 p1 p2 p3 p4 p5 p6 p9 p10 p11 p12 p13 p14 p15 p16 p17 p18 p19 p20 p21 p22 p23 p24 p25 p26 p27 p28 p29 p30 p31 p32 p33 p47:Value} {a:Act} {d:Nat} (F:vY g cnt p0 p1 p2 p3 p4 p5 p6 p9 p10 p11 p12 p13 p14 p15 p16 p17 p18 p19 p20 p21 p22 p23 p24 p25 p26 p27 p28 p29 p30 p31 p32 p33 p47 a) (h:d<48:=by decide):d<a.tmps.size:=by rw [F.size]; exact h
theorem Ri {ops:Array Oper} {Q:Exit→Act→World→Prop} (R:Ord.eT ops Yf) (hQ:∀c a w d v,Q (.panic c) (Act.put a (some d) v) w→Q (.panic c) a w) {w1 w9:World} {g cnt n d:Nat} {p0 p1 p2 p3 p4 p5 p6 p9 p10 p11 p12 p13 p14 p15 p16 p17 p18 p19 p20 p21 p22 p23 p24 p25 p26 p27 p28 p29 p30 p31 p32 p33 p47:Value}
  (hni:(n:Int)≤(cnt:Int)) (hn0:(0:Int)≤(n:Int)) (hnl:n<cnt) (hsub:cnt - n≠0) (hcn:cnt≠0) (hsum:IntKind.i64.wrap ((n:Int)+(d:Int))=(n:Int)+(d:Int))
  (CP:∀ty,(Builtin.copy_ #[68,68] ty #[.slice (some ⟨g,n*3,none⟩) (cnt - n) (cnt - n),.slice (some ⟨g,0,none⟩) n cnt]).run Tryz.prog w1=.ok (.int .i64 (d:Int)) w9)
  (a:Act) (F:vY g cnt p0 p1 p2 p3 p4 p5 p6 p9 p10 p11 p12 p13 p14 p15 p16 p17 p18 p19 p20 p21 p22 p23 p24 p25 p26 p27 p28 p29 p30 p31 p32 p33 p47 a) (f8:Chain.At a 8 (.int .i64 (n:Int))) (h:∀a,vY g cnt p0 p1 p2 p3 p4 p5 p6 p9 p10 p11 p12 p13 p14 p15 p16 p17 p18 p19 p20 p21 p22 p23 p24 p25 p26 p27 p28 p29 p30 p31 p32 p33 p47 a→Chain.At a 8 (.int .i64 ((n+d:Nat):Int))→Q .normal a w9) :
  wpAnyH Tryz.prog .any ops Q (fun w'=>w'=w1∨w'=w9) 10 (List.replicate 10 false).toArray a w1:=by
 have hS:w1=w1∨w1=w9:=.inl rfl
 refine Ord.take R (k:=0) (v:=.int .i64 (n:Int)) (bs':=jI 1) rfl (by kernel_rfl) hQ trivial hS (fun w _ hS=>Chain.j6 f8.ev) F.lt fun a0 N=> ?_
 replace F:=F.next N
 replace f8:=N.k f8
 have f38:=N.got
 clear N a
 refine Ord.take R (k:=1) (v:=.slice (some ⟨g,0,none⟩) cnt cnt) (bs':=jI 2) rfl (by kernel_rfl) hQ trivial hS (fun w _ hS=>Chain.j6 F.s7.ev) F.lt fun a1 N=> ?_
 replace F:=F.next N
 replace f8:=N.k f8
 replace f38:=N.k f38
 have f39:=N.got
 clear N a0
 refine Ord.take R (k:=2) (v:=.int .i64 (n:Int)) (bs':=jI 3) rfl (by kernel_rfl) hQ trivial hS (fun w _ hS=>Chain.j6 f8.ev) F.lt fun a2 N=> ?_
 replace F:=F.next N
 replace f8:=N.k f8
 replace f38:=N.k f38
 replace f39:=N.k f39
 have f40:=N.got
 clear N a1
 refine Ord.take R (k:=3) (v:=.slice (some ⟨g,n*3,none⟩) (cnt - n) (cnt - n)) (bs':=jI 4) rfl (by kernel_rfl) hQ trivial hS (fun w _ hS=>by have e39:=f39; unfold Chain.At at e39; have e40:=f40; unfold Chain.At at e40; have q0:=hni; have q1:=hn0; have q2:=hnl; have q3:=hsub; clear F; go_simp; omega) F.lt fun a3 N=> ?_
 replace F:=F.next N
 replace f8:=N.k f8
 replace f38:=N.k f38
 clear f39
 clear f40
 have f41:=N.got
 clear N a2
 refine Ord.take R (k:=4) (v:=.slice (some ⟨g,0,none⟩) cnt cnt) (bs':=jI 5) rfl (by kernel_rfl) hQ trivial hS (fun w _ hS=>Chain.j6 F.s7.ev) F.lt fun a4 N=> ?_
 replace F:=F.next N
 replace f8:=N.k f8
 replace f38:=N.k f38
 replace f41:=N.k f41
 have f42:=N.got
 clear N a3
 refine Ord.take R (k:=5) (v:=.int .i64 (n:Int)) (bs':=jI 6) rfl (by kernel_rfl) hQ trivial hS (fun w _ hS=>Chain.j6 f8.ev) F.lt fun a5 N=> ?_
 replace F:=F.next N
 replace f8:=N.k f8
 replace f38:=N.k f38
 replace f41:=N.k f41
 replace f42:=N.k f42
 have f43:=N.got
 clear N a4
 refine Ord.take R (k:=6) (v:=.slice (some ⟨g,0,none⟩) n cnt) (bs':=jI 7) rfl (by kernel_rfl) hQ trivial hS (fun w _ hS=>by have e42:=f42; unfold Chain.At at e42; have e43:=f43; unfold Chain.At at e43; have q0:=hni; have q1:=hn0; have q2:=hnl; have q3:=hcn; clear F; go_simp) F.lt fun a6 N=> ?_
 replace F:=F.next N
 replace f8:=N.k f8
 replace f38:=N.k f38
 replace f41:=N.k f41
 clear f42
 clear f43
 have f44:=N.got
 clear N a5
 refine Ord.value R (k:=7) (v:=.int .i64 (d:Int)) (w1:=w9) (bs':=jI 8) rfl (by kernel_rfl) trivial (show w9=w1∨w9=w9 from .inr rfl) (fun _=>by have e41:=f41; unfold Chain.At at e41; have e44:=f44; unfold Chain.At at e44; have q0:=CP; clear F; go_simp) F.lt fun a7 N=> ?_
 replace hS:=(show w9=w1∨w9=w9 from .inr rfl)
 replace F:=F.next N
 replace f8:=N.k f8
 replace f38:=N.k f38
 clear f41
 clear f44
 have f45:=N.got
 clear N a6
 refine Ord.take R (k:=8) (v:=.int .i64 ((n+d:Nat):Int)) (bs':=jI 9) rfl (by kernel_rfl) hQ trivial hS (fun w _ hS=>by have e38:=f38; unfold Chain.At at e38; have e45:=f45; unfold Chain.At at e45; have q0:=hsum; clear F; go_simp) F.lt fun a8 N=> ?_
 replace F:=F.next N
 replace f8:=N.k f8
 clear f38
 clear f45
 have f46:=N.got
 clear N a7
 refine Ord.take R (k:=9) (v:=.int .i64 ((n+d:Nat):Int)) (bs':=jI 10) rfl (by kernel_rfl) hQ trivial hS (fun w _ hS=>Chain.Py f46.ev) F.lt fun a9 N=> ?_
 replace F:=F.next N
 clear f8
 clear f46
 have f8:=N.got
 clear N a8
 exact Ord.finish R (by kernel_rfl) (h _ F f8)
theorem Rj {a:Act} {w:World} {K:Act→World→Prop} {v0 v1 v2 v3 v4 v5 v6 v7 v8 v9 v10 v11 v12 v13 v14 v15 v16 v17 v18 v19 v20 v21 v22 v23 v24 v25 v26 v27 v28 v29 v30 v31 v32 v33 v47:Value} (hz:a.tmps.size=48) (hd:a.defers=[]) (f0:Chain.At a 0 v0) (f1:Chain.At a 1 v1) (f2:Chain.At a 2 v2) (f3:Chain.At a 3 v3) (f4:Chain.At a 4 v4) (f5:Chain.At a 5 v5) (f6:Chain.At a 6 v6) (f7:Chain.At a 7 v7) (f8:Chain.At a 8 v8) (f9:Chain.At a 9 v9) (f10:Chain.At a 10 v10) (f11:Chain.At a 11 v11) (f12:Chain.At a 12 v12) (f13:Chain.At a 13 v13) (f14:Chain.At a 14 v14) (f15:Chain.At a 15 v15) (f16:Chain.At a 16 v16) (f17:Chain.At a 17 v17) (f18:Chain.At a 18 v18) (f19:Chain.At a 19 v19) (f20:Chain.At a 20 v20) (f21:Chain.At a 21 v21) (f22:Chain.At a 22 v22) (f23:Chain.At a 23 v23) (f24:Chain.At a 24 v24) (f25:Chain.At a 25 v25) (f26:Chain.At a 26 v26) (f27:Chain.At a 27 v27) (f28:Chain.At a 28 v28) (f29:Chain.At a 29 v29) (f30:Chain.At a 30 v30) (f31:Chain.At a 31 v31) (f32:Chain.At a 32 v32) (f33:Chain.At a 33 v33) (f47:Chain.At a 47 v47)
  (h:∀u34 u35 u36 u37 u38 u39 u40 u41 u42 u43 u44 u45 u46:Value,K ⟨#[v0,v1,v2,v3,v4,v5,v6,v7,v8,v9,v10,v11,v12,v13,v14,v15,v16,v17,v18,v19,v20,v21,v22,v23,v24,v25,v26,v27,v28,v29,v30,v31,v32,v33,u34,u35,u36,u37,u38,u39,u40,u41,u42,u43,u44,u45,u46,v47],[]⟩ w):K a w:=by
 have e:=Ord.Pz hz hd
 have r:(List.range 48).map (fun i=>a.tmps.toList.getD i undef)=[a.tmps.toList.getD 0 undef,a.tmps.toList.getD 1 undef,a.tmps.toList.getD 2 undef,a.tmps.toList.getD 3 undef,a.tmps.toList.getD 4 undef,a.tmps.toList.getD 5 undef,a.tmps.toList.getD 6 undef,a.tmps.toList.getD 7 undef,a.tmps.toList.getD 8 undef,a.tmps.toList.getD 9 undef,a.tmps.toList.getD 10 undef,a.tmps.toList.getD 11 undef,a.tmps.toList.getD 12 undef,a.tmps.toList.getD 13 undef,a.tmps.toList.getD 14 undef,a.tmps.toList.getD 15 undef,a.tmps.toList.getD 16 undef,a.tmps.toList.getD 17 undef,a.tmps.toList.getD 18 undef,a.tmps.toList.getD 19 undef,a.tmps.toList.getD 20 undef,a.tmps.toList.getD 21 undef,a.tmps.toList.getD 22 undef,a.tmps.toList.getD 23 undef,a.tmps.toList.getD 24 undef,a.tmps.toList.getD 25 undef,a.tmps.toList.getD 26 undef,a.tmps.toList.getD 27 undef,a.tmps.toList.getD 28 undef,a.tmps.toList.getD 29 undef,a.tmps.toList.getD 30 undef,a.tmps.toList.getD 31 undef,a.tmps.toList.getD 32 undef,a.tmps.toList.getD 33 undef,a.tmps.toList.getD 34 undef,a.tmps.toList.getD 35 undef,a.tmps.toList.getD 36 undef,a.tmps.toList.getD 37 undef,a.tmps.toList.getD 38 undef,a.tmps.toList.getD 39 undef,a.tmps.toList.getD 40 undef,a.tmps.toList.getD 41 undef,a.tmps.toList.getD 42 undef,a.tmps.toList.getD 43 undef,a.tmps.toList.getD 44 undef,a.tmps.toList.getD 45 undef,a.tmps.toList.getD 46 undef,a.tmps.toList.getD 47 undef]:=rfl
 rw [r,Ord.bF f0,Ord.bF f1,Ord.bF f2,Ord.bF f3,Ord.bF f4,Ord.bF f5,Ord.bF f6,Ord.bF f7,Ord.bF f8,Ord.bF f9,Ord.bF f10,Ord.bF f11,Ord.bF f12,Ord.bF f13,Ord.bF f14,Ord.bF f15,Ord.bF f16,Ord.bF f17,Ord.bF f18,Ord.bF f19,Ord.bF f20,Ord.bF f21,Ord.bF f22,Ord.bF f23,Ord.bF f24,Ord.bF f25,Ord.bF f26,Ord.bF f27,Ord.bF f28,Ord.bF f29,Ord.bF f30,Ord.bF f31,Ord.bF f32,Ord.bF f33,Ord.bF f47] at e
 rw [e]
 exact h _ _ _ _ _ _ _ _ _ _ _ _ _
end Rw
namespace Rw
def noughts (n:Nat):List au:=List.replicate n (0,0,0)
theorem Rk (n:Nat):(List.range (n*3)).map (fun i=>(#[Value.int .i32 0,.int .i64 0,.int .i64 0]:Array Value)[i % 3]!)=flat (noughts n):=by
 induction n with
 | zero=>rfl
 | succ n ih =>
  have e:noughts (n+1)=noughts n++[(0,0,0)]:=by unfold noughts; rw [List.replicate_succ']
  have h0:n*3 % 3=0:=by omega
  have h1:(n*3+1) % 3=1:=by omega
  have h2:(n*3+1+1) % 3=2:=by omega
  rw [show (n+1)*3=n*3+1+1+1 by omega,List.range_succ,List.range_succ,List.range_succ,List.map_append,List.map_append,List.map_append,ih,e,gL]
  simp only [List.map_cons,List.map_nil,h0,h1,h2,List.append_assoc]
  rfl
theorem Ju (n:Nat):madeCells #[.int .i32 0,.int .i64 0,.int .i64 0] (n*3)=(flat (noughts n)++[]).toArray:=by
 rw [List.append_nil,←Rk]
 apply Array.ext'
 simp [madeCells]
theorem nD (n:Nat):(noughts n).length=n:=List.length_replicate
theorem wE {n cnt:Nat} (h:n≤cnt):(av n++noughts (cnt - n)).length=cnt:=by rw [List.length_append,bO,nD]; omega
theorem wF (n d:Nat):av n++av d=av (n+d):=List.replicate_append_replicate
theorem EZ {n d cnt:Nat} (h:n+d≤cnt):mJ (av n++noughts (cnt - n)) n (av d)=av (n+d)++noughts (cnt - (n+d)):=by
 unfold mJ
 have h1:(av n++noughts (cnt - n)).take n=av n:=by
  have:=List.take_left (l₁:=av n) (l₂:=noughts (cnt - n))
  rwa [bO] at this
 have h2:(av n++noughts (cnt - n)).drop (n+d)=noughts (cnt - (n+d)):=by
  rw [List.drop_append,bO,List.drop_of_length_le (by rw [bO]; omega),List.nil_append]
  unfold noughts
  rw [List.drop_replicate]
  congr 1
  omega
 rw [h1,bO,h2,wF]
abbrev Jv (w:World) (g n cnt:Nat):Prop:=dN w g (av n++noughts (cnt - n)) []
theorem su (b0 cnt:Nat) (w:World) (hc:cnt≤1000000) (h0:w.heap[b0]? = some (.cells #[.int .i32 32,.int .i64 1,.int .i64 0] 76 (0,0))) :
  Calls Tryz.prog 161 #[.slice (some ⟨b0,0,none⟩) 1 1,.int .i64 (cnt:Int)] w fun e w'=>∃g,e=.returned (.slice (some ⟨g,0,none⟩) cnt cnt)∧w.heap.size≤g∧dN w' g (av cnt) []∧Below w.heap.size w w':=by
 obtain ⟨i0,hi0,hz0,hz1,hz2⟩:=info_parts uw
 have hc0:(0:Int)≤(cnt:Int):=by omega
 have MW:=Lib.hid (Tryz.bits_Mul 1 cnt (by omega) (by omega) w)
 have e1:1*cnt / 18446744073709551616=0:=by omega
 have e2:1*cnt % 18446744073709551616=cnt:=by omega
 rw [e1,e2] at MW
 have H0:=Lib.hid h0
 have hw2:IntKind.i64.wrap (cnt:Int)=(cnt:Int):=IntWalk.i64_in _ (by omega)
 clear h0 e1 e2
 go_enter Tryz.func161,Tryz.ntmps161
 go_wp2_with fail
 refine MW.out.mono ?_
 rintro e w2 ⟨rfl,hw⟩
 subst hw
 have hc63:¬((9223372036854775807:Int)<(cnt:Int)):=by omega
 have MK:=run_make w2 68 76 i0 (.agg #[.int .i32 0,.int .i64 0,.int .i64 0]) Tryz.underlying68 hi0 hz0 .i64 .i64 (cnt:Int) (cnt:Int) hc0 (Int.le_refl _) (by rw [hz2]; omega) (by omega)
 rw [hz1,Int.toNat_natCast] at MK
 have b3:=(Below.refl w2.heap.size w2).alloc (Nat.le_refl _) (.cells (madeCells (Value.agg #[.int .i32 0,.int .i64 0,.int .i64 0]).cells (cnt*3)) 76)
 have R3:=Lib.hid (show dN (w2.alloc (.cells (madeCells (Value.agg #[.int .i32 0,.int .i64 0,.int .i64 0]).cells (cnt*3)) 76)) w2.heap.size (noughts cnt) [] from ⟨by rw [←Ju]; exact heap_alloc_new w2 _⟩)
 have S3:=Lib.hid (show (w2.alloc (.cells (madeCells (Value.agg #[.int .i32 0,.int .i64 0,.int .i64 0]).cells (cnt*3)) 76)).heap[b0]? = some (.cells #[.int .i32 32,.int .i64 1,.int .i64 0] 76 (0,0)) from (b3.block b0 (Array.getElem?_eq_some_iff.1 H0.out).1).trans H0.out)
 have B3:=Lib.hid b3
 obtain ⟨w3,hw3⟩:∃w3,w2.alloc (.cells (madeCells (Value.agg #[.int .i32 0,.int .i64 0,.int .i64 0]).cells (cnt*3)) 76)=w3:=⟨_,rfl⟩
 rw [hw3] at MK B3 R3 S3
 obtain ⟨g,hg⟩:∃g,w2.heap.size=g:=⟨_,rfl⟩
 have HG:=Lib.hid hg
 rw [hg] at MK R3
 clear b3 hw3 MW hg
 obtain ⟨n1,hn1⟩:∃n1,Nat.min 1 cnt=n1:=⟨_,rfl⟩
 have hn1c:n1≤cnt∧n1≤1∧(0<cnt→0<n1):=by
  have:Nat.min 1 cnt=min 1 cnt:=rfl
  omega
 obtain ⟨hn1a,hn1b,hn1d⟩:=hn1c
 have CP:=uh (P:=Tryz.prog) w3 68 68 3 76 i0 g 0 cnt cnt ⟨b0,0,none⟩ 1 1 _ 76 (flat (av n1)) Tryz.underlying68 hi0 hz1 R3.out.heap (by rw [aX,bO,hn1]) (fun j u hu=>by
  have hj:=(List.getElem?_eq_some_iff.1 hu).1
  rw [aX,bO] at hj
  obtain rfl:n1=1:=by omega
  rw [LY,cell_of_row _ b0 _ _ _ (0,0) S3.out,Nat.zero_add]
  simpa [av,flat] using hu) (by have h1:=aX (noughts cnt); have h2:=aX (av n1); rw [nD] at h1; rw [bO] at h2; simp; omega) (uy _)
 have R4:=Lib.hid (R3.out.copied (k:=0) (L:=av n1) (by rw [nD,bO]; omega))
 obtain ⟨w4,hw4⟩:∃w4,w3.setRow g ((flat (noughts cnt)++[]).toArray.toList.take (0*3)++flat (av n1)++(flat (noughts cnt)++[]).toArray.toList.drop (0*3+(flat (av n1)).length)).toArray=w4:=⟨_,rfl⟩
 have B4:=Lib.hid (show Below w2.heap.size w2 w4 by rw [←hw4]; exact B3.out.trans ((Turned.GX (LX g _ _)).toBelow B3.out.size (fun k hk e=>by have:=HG.out; omega)))
 rw [hw4] at R4
 rw [hn1,show (0:Nat)=0*3 by omega,hw4] at CP
 have F4:=Lib.hid (show Jv w4 g n1 cnt by
  have h:=R4.out
  have e:=EZ (n:=0) (d:=n1) (cnt:=cnt) (by omega)
  rw [show av 0++noughts (cnt - 0)=noughts cnt from rfl,Nat.zero_add] at e
  rw [e] at h
  exact h)
 clear hw4 R3 R4 S3 B3
 go_wp2_with fail
 go_loopw [8] (fun v8 wr=>∃n:Nat,v8=.int .i64 n∧n≤cnt∧(0<cnt→0<n)∧Hid (Jv wr g n cnt)∧Hid (Below w2.heap.size w2 wr)) (fun v8 _=>cnt - (intOf v8).toNat)
 case atStart=>exact ⟨n1,rfl,hn1a,hn1d,F4,B4⟩
 case round =>
  obtain ⟨n,rfl,hn,hnp,FN,BN⟩:=hrel
  by_cases hlt:n<cnt
  ·have hnp:=hnp (by omega)
   obtain ⟨d,hd⟩:∃d,Nat.min n (cnt - n)=d:=⟨_,rfl⟩
   have hd':d≤n∧n+d≤cnt∧0<d:=by
    have:Nat.min n (cnt - n)=min n (cnt - n):=rfl
    omega
   obtain ⟨hd1,hd2,hd3⟩:=hd'
   have hni:(n:Int)<(cnt:Int):=by omega
   go_wp2_with fail
   have RD:=Lib.hid (show dN wr.drew g (av n++noughts (cnt - n)) [] from ⟨FN.out.heap⟩)
   have fl:=aX (av n++noughts (cnt - n))
   rw [wE hn] at fl
   have fb:=aX (av d)
   rw [bO] at fb
   have CQ:=fun ty=>uh (P:=Tryz.prog) wr.drew 68 68 ty 76 i0 g (n*3) (cnt - n) (cnt - n) ⟨g,0,none⟩ n cnt _ 76 (flat (av d)) Tryz.underlying68 hi0 hz1 RD.out.heap (by rw [fb,hd]) (fun j u hu=>by
    have hj:=(List.getElem?_eq_some_iff.1 hu).1
    rw [LY,cell_of_row _ g _ _ _ (0,0) RD.out.heap,Nat.zero_add]
    have hfn:=aX (av n)
    rw [bO] at hfn
    rw [List.append_nil,List.getElem?_toArray,gL,List.getElem?_append_left (by omega)]
    have e:av n=av d++av (n - d):=by rw [wF]; congr 1; omega
    rw [e,gL,List.getElem?_append_left hj]
    exact hu) (by simp only [List.append_nil,List.size_toArray]; omega) (uy _)
   have R9:=Lib.hid (RD.out.copied (k:=n) (L:=av d) (by rw [wE hn,bO]; exact hd2))
   obtain ⟨w9,hw9⟩:∃w9,wr.drew.setRow g ((flat (av n++noughts (cnt - n))++[]).toArray.toList.take (n*3)++flat (av d)++(flat (av n++noughts (cnt - n))++[]).toArray.toList.drop (n*3+(flat (av d)).length)).toArray=w9:=⟨_,rfl⟩
   have B9:=Lib.hid (show Below w2.heap.size w2 w9 by rw [←hw9]; exact BN.out.drew.trans ((Turned.GX (LX g _ _)).toBelow BN.out.drew.size (fun k hk e=>by have:=HG.out; omega)))
   rw [hw9,EZ hd2] at R9
   rw [hw9,hd] at CQ
   have hsum:IntKind.i64.wrap ((n:Int)+(d:Int))=(n:Int)+(d:Int):=IntWalk.i64_in _ (by omega)
   refine Ord.start (S:=fun w'=>w'=wr.drew∨w'=w9) (n:=10) (by kernel_rfl) (by kernel_rfl) (.inl rfl) ?_
   apply Ri (w1:=wr.drew) (w9:=w9) (g:=g) (cnt:=cnt) (n:=n) (d:=d) (p0:=.slice (some ⟨b0,0,none⟩) 1 1) (p1:=.int .i64 (cnt:Int)) (p2:=undef) (p3:=undef) (p4:=.slice none 0 0) (p5:=.int .u64 0) (p6:=.int .u64 (cnt:Int)) (p9:=.int .i64 (cnt:Int)) (p10:=.bool (decide ((cnt:Int)<0))) (p11:=undef) (p12:=.tuple #[.int .u64 0,.int .u64 (cnt:Int)]) (p13:=.slice (some ⟨b0,0,none⟩) 1 1) (p14:=.int .i64 1) (p15:=.int .u64 1) (p16:=.int .i64 (cnt:Int)) (p17:=.int .u64 (cnt:Int)) (p18:=.tuple #[.int .u64 0,.int .u64 (cnt:Int)]) (p19:=.int .u64 0) (p20:=.int .u64 (cnt:Int)) (p21:=.int .u64 0) (p22:=.bool false) (p23:=.bool false) (p24:=.int .u64 (cnt:Int)) (p25:=.bool (decide ((9223372036854775807:Int)<(cnt:Int)))) (p26:=.bool (decide ((9223372036854775807:Int)<(cnt:Int)))) (p27:=undef) (p28:=.int .u64 (cnt:Int)) (p29:=.int .i64 (cnt:Int)) (p30:=.slice (some ⟨g,0,none⟩) cnt cnt) (p31:=.slice (some ⟨g,0,none⟩) cnt cnt) (p32:=.slice (some ⟨b0,0,none⟩) 1 1) (p33:=.int .i64 (n1:Int)) (p47:=undef)
   case R=>exact ⟨by kernel_rfl,by kernel_rfl⟩
   case hQ=>exact fun _ _ _ _ _ h=>h
   case hni=>omega
   case hn0=>omega
   case hnl=>exact hlt
   case hsub=>omega
   case hcn=>omega
   case hsum=>exact hsum
   case CP=>exact CQ
   case F=>exact ⟨rfl,rfl,rfl,rfl,rfl,rfl,rfl,rfl,rfl,rfl,rfl,rfl,rfl,rfl,rfl,rfl,rfl,rfl,rfl,rfl,rfl,rfl,rfl,rfl,rfl,rfl,rfl,rfl,rfl,rfl,rfl,rfl,rfl,rfl,rfl,rfl⟩
   case f8=>rfl
   intro a2 F2 f8
   refine Rj F2.size F2.defers F2.s0 F2.s1 F2.s2 F2.s3 F2.s4 F2.s5 F2.s6 F2.s7 f8 F2.s9 F2.s10 F2.s11 F2.s12 F2.s13 F2.s14 F2.s15 F2.s16 F2.s17 F2.s18 F2.s19 F2.s20 F2.s21 F2.s22 F2.s23 F2.s24 F2.s25 F2.s26 F2.s27 F2.s28 F2.s29 F2.s30 F2.s31 F2.s32 F2.s33 F2.s47 ?_
   intros
   clear F2 f8 CQ
   try dsimp only
   go_wp2
   go_roundw
   case rel=>exact ⟨n+d,by first | rfl | (congr 1; done) | (congr 1; omega),hd2,fun _=>by omega,R9,B9⟩
   case measure=>first | (simp [intOf]; done) | (simp [intOf]; omega)
  ·obtain rfl:n=cnt:=by omega
   have DN:=Lib.hid (show dN wr g (av n) [] by
    have h:=FN.out
    unfold Jv at h
    rw [Nat.sub_self] at h
    simpa [noughts] using h)
   go_wp2
   go_ret
   exact ⟨g,rfl,Nat.le_of_eq HG.out,DN.out,BN.out⟩
theorem Kz (cnt:Nat) (w:World) (hc:cnt≤1000000) :
  Calls Tryz.prog 110 #[.int .i64 (cnt:Int)] w fun e w'=>∃g,e=.returned (.slice (some ⟨g,0,none⟩) cnt cnt)∧w.heap.size≤g∧dN w' g (av cnt) []∧Below w.heap.size w w':=by
 have BW:=Lib.hid (uj w)
 go_enter Tryz.func110,Tryz.ntmps110
 go_wp2_with fail
 refine BW.out.mono ?_
 rintro e w2 ⟨rfl,b2⟩
 have B2:=Lib.hid b2
 have b3:=(Below.refl w2.heap.size w2).alloc (Nat.le_refl _) (.cells #[.int .i32 32,.int .i64 1,.int .i64 0] 76)
 have RW:=Lib.hid (su w2.heap.size cnt (w2.alloc (.cells #[.int .i32 32,.int .i64 1,.int .i64 0] 76)) hc (heap_alloc_new w2 _))
 have B3:=Lib.hid b3
 clear b2 b3 BW
 go_wp2_with fail
 refine RW.out.mono ?_
 rintro e w4 ⟨g,rfl,hg,r4,b4⟩
 have B34:=B3.out.trans (b4.mono B3.out.size)
 have DN:=Lib.hid (And.intro (show w.heap.size≤g from Nat.le_trans B2.out.size (Nat.le_trans B3.out.size hg)) (And.intro r4 (B2.out.trans (B34.mono B2.out.size))))
 clear hg r4 b4 RW B34
 go_wp2
 go_ret
 exact ⟨g,rfl,DN.out⟩
end Rw
namespace Rw
def kX (x:Int):Nat:=(min (max x 0) 300).toNat
theorem Rm {w:World} {base g n:Nat} {l:List au} (h:dN w g l []) (hg:base≤g) (hl:l.length=n) (hn:n≤1099511627776):cZ w base (.slice (some ⟨g,0,none⟩) n n) l:=by
 subst hl
 have hf:=aX l
 refine ⟨hf,.inr ⟨g,l.length,_,rfl,hg,h.heap,Nat.le_refl _,by unfold maxLen; omega,?_,?_⟩⟩
 ·rw [List.append_nil,List.size_toArray,hf]
 ·rw [List.append_nil,←hf]
  exact List.take_length
theorem FJ (x:Int) (w:World):Calls Tryz.prog 75 #[.int .i64 x] w fun e w'=>∃g,e=.returned (.agg #[.slice (some ⟨g,0,none⟩) (kX x) (kX x),.bool false])∧cZ w' w.heap.size (.slice (some ⟨g,0,none⟩) (kX x) (kX x)) (av (kX x))∧Below w.heap.size w w':=by
 obtain ⟨k,hk⟩:∃k,kX x=k:=⟨_,rfl⟩
 have hk3:k≤300:=by rw [←hk]; unfold kX; omega
 have hkx:min (max x 0) 300=(k:Int):=by rw [←hk]; unfold kX; omega
 rw [hk]
 have b1:=(Below.refl w.heap.size w).alloc (Nat.le_refl _) (.cells #[.slice none 0 0,.bool false] 122)
 have R1:=Lib.hid (show jr (w.alloc (.cells #[.slice none 0 0,.bool false] 122)) w.heap.size (.slice none 0 0) false from heap_alloc_new w _)
 have BW:=Lib.hid (Kz k (w.alloc (.cells #[.slice none 0 0,.bool false] 122)) (by omega))
 have B1:=Lib.hid b1
 have S1:=Lib.hid (show (w.alloc (.cells #[.slice none 0 0,.bool false] 122)).heap.size=w.heap.size+1 by simp)
 clear b1 hk
 go_enter Tryz.func75,Tryz.ntmps75
 go_wp2_with fail
 obtain ⟨g1,hg1⟩:∃g1,w.heap.size=g1:=⟨_,rfl⟩
 have HG1:=Lib.hid hg1
 rw [hg1] at R1 ⊢
 generalize w.alloc (.cells #[.slice none 0 0,.bool false] 122)=w1 at R1 BW B1 S1 ⊢
 refine BW.out.mono ?_
 rintro e w2 ⟨g,rfl,hg,r2,b2⟩
 have R2:=Lib.hid (show jr w2 g1 (.slice none 0 0) false from (b2.block g1 R1.out.lt).trans R1.out)
 have B2:=Lib.hid (B1.out.trans (b2.mono B1.out.size))
 have hgw:w.heap.size+1≤g:=by have:=S1.out; omega
 have HC:=Lib.hid (Rm (base:=w.heap.size+1) r2 hgw (bO k) (by omega))
 have z0:w2.cell? ⟨g1,0,none⟩=some (.slice none 0 0):=R2.out.get 0
 have z1:w2.cell? ⟨g1,1,none⟩=some (.bool false):=R2.out.get 1
 have zf0:=R2.out.free 0
 have zf1:=R2.out.free 1
 have RF:=Lib.hid (jr.Yg R2.out (.slice (some ⟨g,0,none⟩) k k) false)
 have OF:=(eH.cell g1 0 w2 (.slice (some ⟨g,0,none⟩) k k)).trans (eH.cell g1 1 _ (.bool false))
 have HF:=Lib.hid (cZ.keep HC.out (fun j e=>OF.block j (by have:=(cZ.lt HC.out j e).1; have:=HG1.out; omega)))
 have BF:=Lib.hid (B2.out.trans ((Turned.GX OF).toBelow B2.out.size (fun q hq e=>by have:=HG1.out; omega)))
 clear OF r2 b2 hg hg1
 go_wp2
 generalize (w2.setCell ⟨g1,0,none⟩ (.slice (some ⟨g,0,none⟩) k k)).setCell ⟨g1,1,none⟩ (.bool false)=wz at RF HF BF ⊢
 have e0:wz.cell? ⟨g1,0,none⟩=some (.slice (some ⟨g,0,none⟩) k k):=RF.out.get 0
 have e1:wz.cell? ⟨g1,1,none⟩=some (.bool false):=RF.out.get 1
 exact bodyPost_ret (v:=.agg #[.slice (some ⟨g,0,none⟩) k k,.bool false]) (by simp [results,Tryz.results75,go_sem,e0,e1]) rfl ⟨g,rfl,cZ.mono HF.out (Nat.le_succ _),BF.out⟩
end Rw
