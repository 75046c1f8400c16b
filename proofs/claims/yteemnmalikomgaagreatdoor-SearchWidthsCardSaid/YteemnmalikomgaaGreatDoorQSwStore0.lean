import Derived.Test.YteemnmalikomgaaGreatDoorQSwBase14
import Derived.Test.YteemnmalikomgaaGreatDoorQSwBase15
import Derived.Lib.AppendZerosOnto
import Derived.Lib.Walk
namespace Go.Proofs.YteemnmalikomgaaGreatDoor
open Go.ChangeShapes Go.WideShapes Go.ChangeAt Go.RowKit
def aN (rs:List (Nat×au)):List Value:=rs.flatMap fun x=>[.int .i64 x.1,.int .i32 x.2.1,.int .i64 x.2.2.1,.int .i64 x.2.2.2]
theorem qI (rs:List (Nat×au)):(aN rs).length=rs.length*4:=by
 induction rs with
 | nil=>rfl
 | cons x rs ih=>simp only [aN,List.flatMap_cons,List.length_append,List.length_cons,List.length_nil] at ih ⊢; omega
theorem qJ (a b:List (Nat×au)):aN (a++b)=aN a++aN b:=by simp [aN]
theorem OI (rs:List (Nat×au)) (n:Nat) (c:au):(aN (rs++[(n,c)])).set (rs.length*4) (.int .i64 ((n+1:Nat):Int))=aN (rs++[(n+1,c)]):=by
 rw [qJ,qJ,←qI,List.set_append_right _ _ (Nat.le_refl _),Nat.sub_self]
 rfl
def fP (w:World) (base:Nat) (v:Value) (rs:List (Nat×au)):Prop:=w.ownsRow base 352 4 v rs.length (aN rs)
theorem fP.nothing (w:World) (base:Nat):fP w base (.slice none 0 0) []:=World.ownsRow_nil w base _ _
theorem fP.below {w w':World} {B base:Nat} {v:Value} {rs:List (Nat×au)} (h:fP w base v rs) (hb:Below B w w') (hv:∀k,v.ownBlock=some k→k<B):fP w' base v rs:=by
 refine ⟨h.1,?_⟩
 rcases h.2 with e | ⟨g,cap,cur,rfl,e2,e3,r⟩
 ·exact .inl e
 ·exact .inr ⟨g,cap,cur,rfl,e2,(hb.block g (hv g rfl)).trans e3,r⟩
theorem fP.lt {w:World} {base:Nat} {v:Value} {rs:List (Nat×au)} (h:fP w base v rs):∀k,v.ownBlock=some k→k<w.heap.size:=fun k e=>(World.ownsRow.lt h k e).2
theorem fP.shape {w:World} {base:Nat} {v:Value} {rs:List (Nat×au)} (h:fP w base v rs):∃A c,v=.slice A rs.length c:=by
 rcases h.2 with ⟨rfl,h0⟩ | ⟨g,cap,cur,rfl,_⟩
 ·rw [h0]; exact ⟨_,_,rfl⟩
 ·exact ⟨_,_,rfl⟩
theorem fP.last {w:World} {base g cap p:Nat} {rs:List (Nat×au)} {n:Nat} {c:au} (hq:rs.length+1=p) (h:fP w base (.slice (some ⟨g,0,none⟩) p cap) (rs++[(n,c)])) :
  w.cell? ⟨g,(p - 1)*4,none⟩=some (.int .i64 n)∧w.frozen? ⟨g,(p - 1)*4,none⟩=false∧fP (w.setCell ⟨g,(p - 1)*4,none⟩ (.int .i64 ((n+1:Nat):Int))) base (.slice (some ⟨g,0,none⟩) p cap) (rs++[(n+1,c)])∧base≤g:=by
 subst hq
 rw [Nat.add_sub_cancel]
 have h':w.ownsRow base 352 4 (.slice (some ⟨g,0,none⟩) (rs.length+1) cap) (rs.length+1) (aN (rs++[(n,c)])):=by
  have:=h
  unfold fP at this
  rwa [List.length_append] at this
 refine ⟨?_,h'.frozenAt _,?_,(World.ownsRow.lt h' g rfl).1⟩
 ·rw [h'.cellAt _ (by omega),qJ,List.getElem?_append_right (by rw [qI]; exact Nat.le_refl _),qI,Nat.sub_self]
  rfl
 ·have:=(h'.stored (rs.length*4) (.int .i64 ((n+1:Nat):Int))).1
  rw [OI] at this
  unfold fP
  rw [List.length_append]
  exact this
theorem LY (b off j:Nat):(⟨b,off,none⟩:Addr).add j=⟨b,off+j,none⟩:=by unfold Addr.add; split<;>simp_all
def jr (w:World) (g:Nat) (v:Value) (wrap:Bool):Prop:=w.heap[g]? = some (.cells #[v,.bool wrap] 122 (0,0))
theorem jr.get {w:World} {g:Nat} {v:Value} {wrap:Bool} (h:jr w g v wrap) (j:Nat):w.cell? ⟨g,j,none⟩ = #[v,.bool wrap][j]?:=cell_of_row w g j _ _ (0,0) h
theorem jr.free {w:World} {g:Nat} {v:Value} {wrap:Bool} (h:jr w g v wrap) (j:Nat):w.frozen? ⟨g,j,none⟩=false:=frozen_of_row w g j _ _ h
theorem jr.lt {w:World} {g:Nat} {v:Value} {wrap:Bool} (h:jr w g v wrap):g<w.heap.size:=(Array.getElem?_eq_some_iff.1 h).1
theorem jr.put {w:World} {g:Nat} {v:Value} {wrap:Bool} (h:jr w g v wrap) (v':Value):jr (w.setCell ⟨g,0,none⟩ v') g v' wrap:=heap_setCell_same w g 0 _ _ _ h
theorem jr.Yg {w:World} {g:Nat} {v:Value} {wrap:Bool} (h:jr w g v wrap) (v':Value) (wrap':Bool):jr ((w.setCell ⟨g,0,none⟩ v').setCell ⟨g,1,none⟩ (.bool wrap')) g v' wrap':=heap_setCell_same _ g 1 _ _ _ (heap_setCell_same w g 0 _ _ _ h)
theorem cZ.nothing (w:World) (base:Nat):cZ w base (.slice none 0 0) []:=World.ownsRow_nil w base _ _
theorem cZ.shape {w:World} {base:Nat} {v:Value} {l:List au} (h:cZ w base v l):∃A c,v=.slice A l.length c∧l.length≤c:=by
 rcases h.2 with ⟨rfl,h0⟩ | ⟨g,cap,cur,rfl,_,_,hc,_⟩
 ·rw [h0]; exact ⟨_,_,rfl,Nat.le_refl _⟩
 ·exact ⟨_,_,rfl,hc⟩
theorem cZ.lt {w:World} {base:Nat} {v:Value} {l:List au} (h:cZ w base v l):∀k,v.ownBlock=some k→base≤k∧k<w.heap.size:=fun k e=>World.ownsRow.lt h k e
theorem cZ.keep {w w':World} {base:Nat} {v:Value} {l:List au} (h:cZ w base v l) (hk:∀k,v.ownBlock=some k→w'.heap[k]? = w.heap[k]?):cZ w' base v l:=by
 refine ⟨h.1,?_⟩
 rcases h.2 with e | ⟨g,cap,cur,rfl,e2,e3,r⟩
 ·exact .inl e
 ·exact .inr ⟨g,cap,cur,rfl,e2,(hk g rfl).trans e3,r⟩
theorem cZ.mono {w:World} {base base':Nat} {v:Value} {l:List au} (h:cZ w base v l) (hb:base'≤base):cZ w base' v l:=by
 refine ⟨h.1,?_⟩
 rcases h.2 with e | ⟨g,cap,cur,rfl,e2,r⟩
 ·exact .inl e
 ·exact .inr ⟨g,cap,cur,rfl,Nat.le_trans hb e2,r⟩
theorem cZ.sq {w:World} {base n c:Nat} {A:Option Addr} {l:List au} (h:cZ w base (.slice A n c) l):Sq w w.heap.size 3 n A (flat l):=by
 obtain ⟨A',c',e,_⟩:=cZ.shape h
 injection e with e1 e2 e3
 subst e1 e2 e3
 exact Sq.own h
