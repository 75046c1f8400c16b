import Derived.Test.YteemnmalikomgaaGreatDoorQSwBase13
namespace Go.Proofs.YteemnmalikomgaaGreatDoor
open Go.ChangeShapes Go.WideShapes Go.ChangeAt Go.RowKit
structure eH (g:Nat) (w w':World):Prop where
 os:w'.os=w.os
 tape:w'.tape=w.tape
 output:w'.output=w.output
 size:w'.heap.size=w.heap.size
 block:∀k,k≠g→w'.heap[k]? = w.heap[k]?
theorem eH.refl (g:Nat) (w:World):eH g w w:=⟨rfl,rfl,rfl,rfl,fun _ _=>rfl⟩
theorem eH.trans {g:Nat} {w w' w2:World} (h:eH g w w') (h2:eH g w' w2):eH g w w2 :=
 ⟨h2.os.trans h.os,h2.tape.trans h.tape,h2.output.trans h.output,h2.size.trans h.size,fun k hk=>(h2.block k hk).trans (h.block k hk)⟩
theorem eH.cell (g j:Nat) (w:World) (v:Value):eH g w (w.setCell ⟨g,j,none⟩ v):=⟨rfl,rfl,rfl,by simp,fun k hk=>Below.heap_setCell _ _ _ _ hk⟩
structure Turned (M:Nat→Prop) (w w':World):Prop where
 os:w'.os=w.os
 tape:w'.tape=w.tape
 output:w'.output=w.output
 size:w.heap.size≤w'.heap.size
 block:∀k,k<w.heap.size→¬M k→w'.heap[k]? = w.heap[k]?
namespace Turned
variable {M M':Nat→Prop} {w w' w2:World}
theorem refl (M:Nat→Prop) (w:World):Turned M w w:=⟨rfl,rfl,rfl,Nat.le_refl _,fun _ _ _=>rfl⟩
theorem trans (h:Turned M w w') (h2:Turned M' w' w2) (hm:∀k,k<w.heap.size→M' k→M k):Turned M w w2 :=
 ⟨h2.os.trans h.os,h2.tape.trans h.tape,h2.output.trans h.output,Nat.le_trans h.size h2.size,fun k hk hn=>(h2.block k (Nat.lt_of_lt_of_le hk h.size) (fun x=>hn (hm k hk x))).trans (h.block k hk hn)⟩
theorem mono (h:Turned M w w') (hm:∀k,k<w.heap.size→M k→M' k):Turned M' w w':=⟨h.os,h.tape,h.output,h.size,fun k hk hn=>h.block k hk (fun x=>hn (hm k hk x))⟩
theorem GX {g:Nat} (h:eH g w w'):Turned (· = g) w w':=⟨h.os,h.tape,h.output,Nat.le_of_eq h.size.symm,fun k _ hk=>h.block k hk⟩
theorem jB {row:Option Nat} (h:w.grownBy w' row):Turned (fun k=>row=some k) w w':=⟨h.os,h.tape,h.output,h.size,fun k hk hn=>h.block k hk (fun e=>hn e.symm)⟩
theorem toBelow (h:Turned M w w') {B:Nat} (hB:B≤w.heap.size) (hm:∀k,k<B→¬M k):Below B w w':=⟨h.os,h.tape,h.output,h.size,fun k hk=>h.block k (Nat.lt_of_lt_of_le hk hB) (hm k hk)⟩
end Turned
def Typed (w:World) (e:TypeId) (k:Nat):Prop:=∃cs fr,w.heap[k]? = some (.cells cs e fr)
theorem Typed.apart {w:World} {e e':TypeId} {k k':Nat} (h:Typed w e k) (h':Typed w e' k') (hne:e≠e'):k≠k':=by
 rintro rfl
 obtain ⟨_,_,h⟩:=h
 obtain ⟨_,_,h'⟩:=h'
 rw [h] at h'
 injection h' with h'
 injection h' with _ h'
 exact hne h'
def lC (w:World) (base:Nat) (v:Value) (xs:List Int):Prop:=w.ownsRow base 5 1 v xs.length (xs.map (Value.int .u8))
theorem lC.nothing (w:World) (base:Nat):lC w base (.slice none 0 0) []:=World.ownsRow_nil w base _ _
theorem lC.shape {w:World} {base:Nat} {v:Value} {xs:List Int} (h:lC w base v xs):∃A c,v=.slice A xs.length c:=by
 rcases h.2 with ⟨rfl,h0⟩ | ⟨g,cap,cur,rfl,_⟩
 ·rw [h0]; exact ⟨_,_,rfl⟩
 ·exact ⟨_,_,rfl⟩
theorem lC.turned {M:Nat→Prop} {w w':World} {base:Nat} {v:Value} {xs:List Int} (h:lC w base v xs) (ht:Turned M w w') (hm:∀k,M k→¬Typed w 5 k):lC w' base v xs:=by
 refine ⟨h.1,?_⟩
 rcases h.2 with e | ⟨b,cap,cur,rfl,e2,e3,rr⟩
 ·exact .inl e
 ·exact .inr ⟨b,cap,cur,rfl,e2,(ht.block b (Array.getElem?_eq_some_iff.1 e3).1 (fun x=>hm b x ⟨_,_,e3⟩)).trans e3,rr⟩
theorem lC.below {w w':World} {B base:Nat} {v:Value} {xs:List Int} (h:lC w base v xs) (hb:Below B w w') (hv:∀k,v.ownBlock=some k→k<B):lC w' base v xs:=by
 refine ⟨h.1,?_⟩
 rcases h.2 with e | ⟨g,cap,cur,rfl,e2,e3,r⟩
 ·exact .inl e
 ·exact .inr ⟨g,cap,cur,rfl,e2,(hb.block g (hv g rfl)).trans e3,r⟩
theorem lC.lt {w:World} {base:Nat} {v:Value} {xs:List Int} (h:lC w base v xs):∀k,v.ownBlock=some k→k<w.heap.size:=fun k e=>(World.ownsRow.lt h k e).2
structure rY (v v':Value) (w w':World):Prop where
 by':w.grownBy w' v.ownBlock
 at':v'.ownBlock=v.ownBlock∨∃k,v'.ownBlock=some k∧w.heap.size≤k
theorem rY.refl (v:Value) (w:World):rY v v w w:=⟨⟨rfl,rfl,rfl,Nat.le_refl _,fun _ _ _=>rfl⟩,.inl rfl⟩
theorem rY.trans {v v' v'':Value} {w w' w'':World} (h:rY v v' w w') (k:rY v' v'' w' w''):rY v v'' w w'':=by
 have hs:=h.by'.size
 refine ⟨⟨k.by'.os.trans h.by'.os,k.by'.tape.trans h.by'.tape,k.by'.output.trans h.by'.output,Nat.le_trans hs k.by'.size,fun i hi hne=> ?_⟩,?_⟩
 ·refine (k.by'.block i (by omega) (fun e=> ?_)).trans (h.by'.block i hi hne)
  rcases h.at' with a | ⟨j,a,hj⟩
  ·exact hne (e.trans a)
  ·rw [a] at e; injection e with e; omega
 ·rcases k.at' with a | ⟨j,a,hj⟩
  ·rcases h.at' with b | ⟨j,b,hj⟩
   ·exact .inl (a.trans b)
   ·exact .inr ⟨j,a.trans b,hj⟩
  ·exact .inr ⟨j,a,by omega⟩
theorem rY.alloc {v v':Value} {w w':World} {o:Obj} (hg:(w.alloc o).grownBy w' v.ownBlock) (hat:v'.ownBlock=v.ownBlock∨v'.ownBlock=some (w.alloc o).heap.size):rY v v' w w':=by
 have hs:=hg.size
 simp at hs
 refine ⟨⟨hg.os,hg.tape,hg.output,by omega,fun i hi hne=>(hg.block i (by simp; omega) hne).trans (Below.heap_alloc w o i hi)⟩,?_⟩
 rcases hat with a | a
 ·exact .inl a
 ·exact .inr ⟨_,a,by simp⟩
theorem rY.below {v v':Value} {w w':World} {B:Nat} (h:rY v v' w w') (hB:B≤w.heap.size) (hv:∀k,v.ownBlock=some k→B≤k):Below B w w' :=
 (Below.refl B w).grown h.by' hB hv
