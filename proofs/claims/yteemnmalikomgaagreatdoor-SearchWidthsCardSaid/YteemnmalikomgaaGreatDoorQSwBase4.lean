import Derived.Test.YteemnmalikomgaaGreatDoorQSwBase3
import Derived.Laws.MakeOwn
import Derived.RangeFuncBox
import Derived.Deep.CutRange
import Derived.Deep.CutBlock
set_option maxRecDepth 100000
set_option maxHeartbeats 6400000
namespace Go.Proofs.YteemnmalikomgaaGreatDoor
open Go.ChangeShapes Go.WideShapes Go.ChangeAt Go.RowKit
namespace NF
abbrev Bk (w:World) (e:TypeId) (g:Nat) (cs:Array Value):Prop:=w.heap[g]? = some (.cells cs e (0,0))
theorem Bk.get {w:World} {e:TypeId} {g:Nat} {cs:Array Value} (h:Bk w e g cs) (j:Nat):w.cell? ⟨g,j,none⟩=cs[j]?:=cell_of_row w g j _ _ (0,0) h
theorem Bk.free {w:World} {e:TypeId} {g:Nat} {cs:Array Value} (h:Bk w e g cs) (j:Nat):w.frozen? ⟨g,j,none⟩=false:=frozen_of_row w g j _ _ h
theorem Bk.put {w:World} {e:TypeId} {g:Nat} {cs:Array Value} (h:Bk w e g cs) (j:Nat) (v:Value):Bk (w.setCell ⟨g,j,none⟩ v) e g (cs.setIfInBounds j v):=heap_setCell_same w g j _ _ _ h
theorem Bk.lt {w:World} {e:TypeId} {g:Nat} {cs:Array Value} (h:Bk w e g cs):g<w.heap.size:=(Array.getElem?_eq_some_iff.1 h).1
theorem Bk.ne {w:World} {e e':TypeId} {g g':Nat} {cs cs':Array Value} (h:Bk w e g cs) (h':Bk w e' g' cs') (hne:e≠e'):g≠g':=by
 rintro rfl
 have h2:=h.symm.trans h'
 injection h2 with h2
 injection h2 with _ h2
 exact hne h2
structure ak (M:Nat→Prop) (w w':World):Prop where
 os:w'.os=w.os
 tape:w'.tape=w.tape
 output:w'.output=w.output
 size:w.heap.size≤w'.heap.size
 block:∀k,k<w.heap.size→¬M k→w'.heap[k]? = w.heap[k]?
namespace ak
variable {M M':Nat→Prop} {w w' w2:World}
theorem refl (M:Nat→Prop) (w:World):ak M w w:=⟨rfl,rfl,rfl,Nat.le_refl _,fun _ _ _=>rfl⟩
theorem trans (h:ak M w w') (h2:ak M' w' w2) (hm:∀k,k<w.heap.size→M' k→M k):ak M w w2 :=
 ⟨h2.os.trans h.os,h2.tape.trans h.tape,h2.output.trans h.output,Nat.le_trans h.size h2.size,fun k hk hn=>(h2.block k (Nat.lt_of_lt_of_le hk h.size) (fun x=>hn (hm k hk x))).trans (h.block k hk hn)⟩
theorem mono (h:ak M w w') (hm:∀k,k<w.heap.size→M k→M' k):ak M' w w':=⟨h.os,h.tape,h.output,h.size,fun k hk hn=>h.block k hk (fun x=>hn (hm k hk x))⟩
theorem aH (h:Below w.heap.size w w') (M:Nat→Prop):ak M w w':=⟨h.os,h.tape,h.output,h.size,fun k hk _=>h.block k hk⟩
theorem jB {row:Option Nat} (h:w.grownBy w' row):ak (fun k=>row=some k) w w':=⟨h.os,h.tape,h.output,h.size,fun k hk hn=>h.block k hk (fun e=>hn e.symm)⟩
theorem bR (g j:Nat) (w:World) (v:Value):ak (· = g) w (w.setCell ⟨g,j,none⟩ v):=⟨rfl,rfl,rfl,by simp,fun k _ hk=>Below.heap_setCell _ _ _ _ hk⟩
theorem drew (h:ak M w w'):ak M w w'.drew:=⟨h.os,h.tape,h.output,h.size,h.block⟩
theorem toBelow (h:ak M w w') {B:Nat} (hB:B≤w.heap.size) (hm:∀k,k<B→¬M k):Below B w w':=⟨h.os,h.tape,h.output,h.size,fun k hk=>h.block k (Nat.lt_of_lt_of_le hk hB) (hm k hk)⟩
theorem bk (h:ak M w w') {e:TypeId} {g:Nat} {cs:Array Value} (hb:Bk w e g cs) (hm:¬M g):Bk w' e g cs:=(h.block g hb.lt hm).trans hb
theorem own (ht:ak M w w') {base:Nat} {e:TypeId} {size n:Nat} {v:Value} {xs:List Value} (h:w.ownsRow base e size v n xs) (hm:∀k,v.ownBlock=some k→¬M k):w'.ownsRow base e size v n xs:=by
 refine ⟨h.1,?_⟩
 rcases h.2 with e1 | ⟨b,cap,cur,rfl,e2,e3,rr⟩
 ·exact .inl e1
 ·exact .inr ⟨b,cap,cur,rfl,e2,(ht.block b (Array.getElem?_eq_some_iff.1 e3).1 (hm b rfl)).trans e3,rr⟩
end ak
theorem iA {w:World} {base:Nat} {e:TypeId} {size n:Nat} {v:Value} {xs:List Value} (h:w.ownsRow base e size v n xs):∀k,v.ownBlock=some k→∃cs,Bk w e k cs∧base≤k:=by
 intro k hk
 rcases h.2 with ⟨rfl,_⟩ | ⟨b,cap,cur,rfl,e2,e3,rr⟩
 ·cases hk
 ·injection hk with hk
  subst hk
  exact ⟨cur,e3,e2⟩
theorem lQ {w:World} {base:Nat} {e e':TypeId} {size n g:Nat} {v:Value} {xs:List Value} {cs:Array Value} (h:w.ownsRow base e size v n xs) (hb:Bk w e' g cs) (hne:e≠e'):∀k,v.ownBlock=some k→k≠g:=by
 intro k hk
 obtain ⟨cs',h1,_⟩:=iA h k hk
 exact h1.ne hb hne
theorem jA {w:World} {base:Nat} {e:TypeId} {size n:Nat} {v:Value} {xs:List Value} (h:w.ownsRow base e size v n xs):∃A c,v=.slice A n c:=by
 rcases h.2 with ⟨rfl,rfl⟩ | ⟨b,cap,cur,rfl,_⟩
 ·exact ⟨_,_,rfl⟩
 ·exact ⟨_,_,rfl⟩
theorem Aj {w:World} {n:Nat} (h:w.heap.size=n) (x:Value) (t:TypeId):∀j u,[x][j]? = some u→(w.alloc (.cells #[x] t)).cell? ((⟨n,0,none⟩:Addr).add j)=some u:=by
 subst h; exact cell_one_new w x t
theorem Mj {n:Nat} (h:n≤1000000):n+1≤maxLen:=by unfold maxLen; omega
theorem Mk {n:Nat} (h:n≤1000000):(n+1)*8≤140737488355328:=by omega
theorem yF (x:Int):∀u∈[Value.int .i64 x],u.oneCell'=true:=by intro u hu; simp at hu; subst hu; rfl
theorem yE:(Tryz.prog.info? 3).map (fun i=>(i.zero,i.size,i.bytes))=some (some (.int .i64 0),1,8):=by kernel_rfl
theorem S9:(Tryz.prog.info? 4).map (fun i=>(i.zero,i.size,i.bytes))=some (some (.bool false),1,1):=by kernel_rfl
theorem AP:∀(n:Nat) (l:List Nat),l.Nodup→(∀x∈l,x<n)→l.length≤n
 | 0,l,_,h=>by
  cases l with
  | nil=>simp
  | cons x xs=>exact absurd (h x (by simp)) (Nat.not_lt_zero _)
 | n+1,l,hd,h=>by
  by_cases hm:n∈l
  ·have h1:=AP n (l.erase n) (hd.erase n) (fun x hx=>by
    have h2:=(hd.mem_erase_iff).1 hx
    have:=h x h2.2
    have:=h2.1
    omega)
   rw [List.length_erase_of_mem hm] at h1
   omega
  ·have h1:=AP n l hd (fun x hx=>by
    have:=h x hx
    have:x≠n:=fun e=>hm (e ▸ hx)
    omega)
   omega
def nums (l:List Nat):List Value:=l.map fun (q:Nat)=>.int .i64 (q:Int)
structure Cr (w:World) (B g h:Nat) (v:Value) (N:Nat) (all:List Nat):Prop where
 box:Bk w 105 g #[v,.slice (some ⟨h,0,none⟩) N N]
 own:w.ownsRow B 3 1 v all.length (nums all)
 has:∃hs,Bk w 4 h hs∧hs.size=N∧∀k,k<N→hs[k]? = some (.bool (decide (k∈all)))
 low:B≤g∧B≤h
 nodup:all.Nodup
 lt:∀q∈all,q<N
 big:N≤1000000
def Ow (g h:Nat) (v:Value) (k:Nat):Prop:=k=g∨k=h∨v.ownBlock=some k
structure Did (B g h:Nat) (v:Value) (N:Nat) (w w':World) (v':Value) (all:List Nat):Prop where
 cr:Cr w' B g h v' N all
 aO:ak (Ow g h v) w w'
 at':∀k,v'.ownBlock=some k→v.ownBlock=some k∨w.heap.size≤k
namespace Cr
variable {w w':World} {B g h N:Nat} {v:Value} {all:List Nat}
theorem len (c:Cr w B g h v N all):all.length≤N:=AP N all c.nodup c.lt
theorem turned {M:Nat→Prop} (c:Cr w B g h v N all) (ht:ak M w w') (hm:∀k,Ow g h v k→¬M k):Cr w' B g h v N all:=by
 obtain ⟨hs,h1,h2⟩:=c.has
 exact ⟨ht.bk c.box (hm g (.inl rfl)),ht.own c.own (fun k hk=>hm k (.inr (.inr hk))),⟨hs,ht.bk h1 (hm h (.inr (.inl rfl))),h2⟩,c.low,c.nodup,c.lt,c.big⟩
theorem drew (c:Cr w B g h v N all):Cr w.drew B g h v N all:=⟨c.box,c.own,c.has,c.low,c.nodup,c.lt,c.big⟩
theorem same (c:Cr w B g h v N all):Did B g h v N w w v all:=⟨c,ak.refl _ _,fun _k hk=>.inl hk⟩
theorem oN (c:Cr w B g h v N all):∀k,Ow g h v k→k<w.heap.size∧B≤k:=by
 rintro k (rfl | rfl | hk)
 ·exact ⟨c.box.lt,c.low.1⟩
 ·obtain ⟨hs,h1,_⟩:=c.has
  exact ⟨h1.lt,c.low.2⟩
 ·obtain ⟨cs,h1,h2⟩:=iA c.own k hk
  exact ⟨h1.lt,h2⟩
end Cr
theorem Did.trans {B g h N:Nat} {v v' v2:Value} {w w' w2:World} {all all2:List Nat} (h1:Did B g h v N w w' v' all) (h2:Did B g h v' N w' w2 v2 all2):Did B g h v N w w2 v2 all2:=by
 refine ⟨h2.cr,h1.aO.trans h2.aO ?_,?_⟩
 ·rintro k hk (rfl | rfl | hv)
  ·exact .inl rfl
  ·exact .inr (.inl rfl)
  ·rcases h1.at' k hv with h3 | h3
   ·exact .inr (.inr h3)
   ·omega
 ·intro k hk
  rcases h2.at' k hk with h3 | h3
  ·exact h1.at' k h3
  ·exact .inr (Nat.le_trans h1.aO.size h3)
def ins (all:List Nat) (q:Nat):List Nat:=if q∈all then all else all++[q]
theorem KV {all:List Nat} {q x:Nat}:x∈ins all q↔x∈all∨x=q:=by
 unfold ins
 split
 ·rename_i h
  constructor
  ·exact .inl
  ·rintro (h2 | rfl)
   ·exact h2
   ·exact h
 ·simp
theorem uT (B g h:Nat) (v:Value) (N:Nat) (all:List Nat) (q:Nat) (w:World) (c:Cr w B g h v N all) (hq:q<N) (hB:B≤w.heap.size) :
  Calls Tryz.prog 56 #[.pointer (some ⟨g,0,none⟩),.int .i64 (q:Int)] w fun e w'=>e=.returned (.tuple #[])∧∃v',Did B g h v N w w' v' (ins all q):=by
 obtain ⟨hs,b1,hz,b2⟩:=c.has
 have c0:w.cell? ⟨g,0,none⟩=some v:=c.box.get 0
 have c1:w.cell? ⟨g,1,none⟩=some (.slice (some ⟨h,0,none⟩) N N):=c.box.get 1
 have c2:w.cell? ⟨h,q,none⟩=some (.bool (decide (q∈all))):=(b1.get q).trans (b2 q hq)
 have hq0:(0:Int)≤(q:Int):=by omega
 have hqn:(q:Int)<(N:Int):=by omega
 by_cases hm:q∈all
 ·have D:=Lib.hid c.same
  have E:ins all q=all:=if_pos hm
  rw [decide_eq_true hm] at c2
  rw [E]
  clear c b1 b2 hz hm E
  go_enter Tryz.func56,Tryz.ntmps56
  go_wp2_with fail
  go_end0
  exact ⟨rfl,v,D.out⟩
 ·have E:ins all q=all++[q]:=if_neg hm
  have hgh:g≠h:=c.box.ne b1 (by decide)
  have hvh:∀k,v.ownBlock=some k→k≠h:=lQ c.own b1 (by decide)
  have hvg:∀k,v.ownBlock=some k→k≠g:=lQ c.own c.box (by decide)
  have hlen:all.length+1≤N:=by
   have:=AP N (all++[q]) (List.nodup_append.2 ⟨c.nodup,by simp,fun a ha b hb e=>by
    simp at hb
    subst hb
    exact hm (e ▸ ha)⟩) (fun x hx=>by
    rcases List.mem_append.1 hx with hx | hx
    ·exact c.lt x hx
    ·simp at hx; omega)
   simpa using this
  obtain ⟨w1,hw1⟩:∃w1,w.setCell ⟨h,q,none⟩ (.bool true)=w1:=⟨_,rfl⟩
  have t1:ak (· = h) w w1:=by rw [←hw1]; exact ak.bR h q w _
  have k0:Bk w1 105 g #[v,.slice (some ⟨h,0,none⟩) N N]:=t1.bk c.box hgh
  have k1:Bk w1 4 h (hs.setIfInBounds q (.bool true)):=by rw [←hw1]; exact b1.put q _
  have o1:=t1.own c.own hvh
  have f1:=b1.free q
  have hgl:=c.box.lt
  have hhl:=b1.lt
  have hbig:=c.big
  have z1:w1.heap.size=w.heap.size:=by rw [←hw1]; simp
  have d0:w1.cell? ⟨g,0,none⟩=some v:=k0.get 0
  obtain ⟨i0,hi,hz0,hz1,hz2⟩:=info_parts yE
  rw [decide_eq_false hm] at c2
  have C:=Lib.hid c
  have HS:=Lib.hid (And.intro hz b2)
  have T1:=Lib.hid t1
  have K0:=Lib.hid k0
  have K1:=Lib.hid k1
  have HW:=Lib.hid hw1
  have NN:=Lib.hid (And.intro hgh (And.intro hvh hvg))
  have HM:=Lib.hid hm
  have O1:=Lib.hid o1
  have Z1:=Lib.hid z1
  obtain ⟨A,cp,rfl⟩:=jA o1
  rw [E]
  clear c b1 b2 hz E t1 k0 k1 hgh hvh hvg hm o1 z1
  go_enter Tryz.func56,Tryz.ntmps56
  go_wp2_with (
   at_builtin
   refine wpList_append_own_at _ rfl _ _ 36 rfl B 3 i0 (.int .i64 0) 1 8 Tryz.underlying36 hi hz0 hz1 hz2 rfl (by decide) (.slice A all.length cp) _ _ rfl (World.ownsRow.alloc O1.out _) ⟨w1.heap.size,0,none⟩ 1 1 [.int .i64 (q:Int)] rfl rfl (Aj rfl _ _) (yF _) (Mj (by omega)) (Mk (by omega)) (by have:=Z1.out; simp; omega) ?_
   intro v2 w2 hown hg _ hat
   obtain ⟨g2,cap2,rfl⟩:=ownsRow_succ hown
   have G2:=Lib.hid (show ak (fun k=>(Value.slice A all.length cp).ownBlock=some k) w1 w2 from (ak.aH ((Below.refl _ _).alloc (Nat.le_refl _) _) _).trans (ak.jB hg) (fun k _ e=>e))
   have J0:=Lib.hid (G2.out.bk K0.out (fun e=>NN.out.2.2 g e rfl))
   have J1:=Lib.hid (G2.out.bk K1.out (fun e=>NN.out.2.1 h e rfl))
   have O2:=Lib.hid hown
   have AT:=Lib.hid hat
   have f0:=J0.out.free 0
   have e0:=J0.out.get 0
   clear hown hg hat)
  obtain ⟨w3,hw3⟩:∃w3,w2.setCell ⟨g,0,none⟩ (.slice (some ⟨g2,0,none⟩) (all.length+1) cap2)=w3:=⟨_,rfl⟩
  have t3:ak (· = g) w2 w3:=by rw [←hw3]; exact ak.bR g 0 w2 _
  have l0:Bk w3 105 g #[.slice (some ⟨g2,0,none⟩) (all.length+1) cap2,.slice (some ⟨h,0,none⟩) N N]:=by rw [←hw3]; exact J0.out.put 0 _
  have l1:=t3.bk J1.out (fun e=>NN.out.1 e.symm)
  have ho2:g2≠g:=lQ O2.out J0.out (by decide) g2 rfl
  have o3:=t3.own O2.out (fun k hk e=>ho2 (by rw [←e]; injection hk))
  rw [hw3]
  go_end0
  obtain ⟨hz,b2⟩:=HS.out
  refine ⟨rfl,.slice (some ⟨g2,0,none⟩) (all.length+1) cap2,⟨?_,?_,⟨_,l1,by simp [hz],fun k hk=> ?_⟩,C.out.low,?_,?_,C.out.big⟩,?_,?_⟩
  ·exact l0
  ·rw [List.length_append,List.length_singleton]
   unfold nums at o3 ⊢
   rw [List.map_append]
   exact o3
  ·by_cases hkq:k=q
   ·subst hkq
    rw [Array.getElem?_setIfInBounds_self_of_lt (by omega)]
    simp
   ·rw [Array.getElem?_setIfInBounds_ne (fun e=>hkq e.symm),b2 k hk]
    congr 2
    simp [hkq]
  ·exact List.nodup_append.2 ⟨C.out.nodup,by simp,fun a ha b hb e=>by
    simp at hb
    subst hb
    exact HM.out (e ▸ ha)⟩
  ·intro x hx
   rcases List.mem_append.1 hx with hx | hx
   ·exact C.out.lt x hx
   ·simp at hx; omega
  ·refine ((T1.out.mono (M':=Ow g h (.slice A all.length cp)) fun k _ e=>.inr (.inl e)).trans G2.out fun k _ e=>.inr (.inr e)).trans t3 fun k _ e=>.inl e
  ·intro k hk
   rcases AT.out with h1 | h1
   ·exact .inl (by rw [←h1]; exact hk)
   ·rw [h1] at hk
    injection hk with hk
    have:=Z1.out
    simp at hk
    exact .inr (by omega)
theorem Vo {w:World} {B n c:Nat} {A:Option Addr} {e:TypeId} {xs:List Value} (h:w.ownsRow B e 1 (.slice A n c) n xs):w.ownsRow B e 1 (.slice A 0 c) 0 []:=by
 refine ⟨rfl,?_⟩
 rcases h.2 with ⟨h1,_⟩ | ⟨b,cap,cur,h1,e2,e3,e4,e5,e6,e7⟩
 ·injection h1 with h2 _ h4
  subst h2 h4
  exact .inl ⟨rfl,rfl⟩
 ·injection h1 with h2 _ h4
  subst h2 h4
  exact .inr ⟨b,_,cur,rfl,e2,e3,Nat.zero_le _,e5,e6,by simp⟩
theorem Qa {w:World} {B n c k:Nat} {A:Option Addr} {l:List Nat} (h:w.ownsRow B 3 1 (.slice A n c) n (nums l)) (hk:k<l.length) (hn:n=l.length) :
  ∃b,A=some ⟨b,0,none⟩∧w.cell? ⟨b,k,none⟩=some (.int .i64 (l[k]:Int)):=by
 rcases h.2 with ⟨_,h1⟩ | ⟨b,cap,cur,h1,e2,e3,e4,e5,e6,e7⟩
 ·omega
 ·injection h1 with h2 _ h4
  subst h2 h4
  refine ⟨b,rfl,?_⟩
  rw [cell_of_row w b k _ _ (0,0) e3]
  have h3:(nums l)[k]? = some (.int .i64 (l[k]:Int)):=by unfold nums; rw [List.getElem?_map,List.getElem?_eq_getElem hk]; rfl
  rw [←e7,List.getElem?_take] at h3
  split at h3
  ·simpa using h3
  ·cases h3
theorem Nf (B g h:Nat) (v:Value) (N:Nat) (all:List Nat) (w:World) (c:Cr w B g h v N all) :
  Calls Tryz.prog 59 #[.pointer (some ⟨g,0,none⟩)] w fun e w'=>e=.returned (.tuple #[])∧∃v',Did B g h v N w w' v' []:=by
 obtain ⟨A,cp,rfl⟩:=jA c.own
 have c0:w.cell? ⟨g,0,none⟩=some (.slice A all.length cp):=c.box.get 0
 have C:=Lib.hid c
 have I0:=Lib.hid (show ak (· = h) w w∧∃hs,Bk w 4 h hs∧hs.size=N∧∀k,k<N→hs[k]? = some (.bool (decide (k∈all.drop 0))) from ⟨ak.refl _ _,c.has⟩)
 have hgl:=c.box.lt
 have hlen:=c.len
 have hbig:=c.big
 clear c
 go_enter Tryz.func59,Tryz.ntmps59
 go_wp2_with fail
 go_loopw [9] (fun x wr=>∃i:Nat,x=.int .i64 (i:Int)∧i≤all.length∧Hid (ak (· = h) w wr∧∃hs,Bk wr 4 h hs∧hs.size=N∧∀k,k<N→hs[k]? = some (.bool (decide (k∈all.drop i))))) (fun x _=>all.length - (intOf x).toNat)
 case atStart=>exact ⟨0,rfl,Nat.zero_le _,I0⟩
 case round =>
  obtain ⟨i,rfl,hi,I⟩:=hrel
  clear I0
  obtain ⟨t,hs,b1,hz,b2⟩:=I.out
  have hgh:h≠g:=fun e=>C.out.box.ne (C.out.has.choose_spec.1) (by decide) e.symm
  have hvh:∀k,(Value.slice A all.length cp).ownBlock=some k→k≠h:=lQ C.out.own (C.out.has.choose_spec.1) (by decide)
  have k0:=t.bk C.out.box (fun e=>hgh e.symm)
  have ow:=t.own C.out.own hvh
  have d0:wr.cell? ⟨g,0,none⟩=some (.slice A all.length cp):=k0.get 0
  have d1:wr.cell? ⟨g,1,none⟩=some (.slice (some ⟨h,0,none⟩) N N):=k0.get 1
  have f0:=k0.free 0
  have T:=Lib.hid t
  have K:=Lib.hid k0
  by_cases hlt:i<all.length
  ·obtain ⟨b,rfl,e0⟩:=Qa ow hlt rfl
   have hq:=C.out.lt all[i] (List.getElem_mem hlt)
   obtain ⟨q,hqe⟩:∃q,all[i]=q:=⟨_,rfl⟩
   rw [hqe] at e0 hq
   have f1:=b1.free q
   have e1:wr.cell? ⟨h,q,none⟩=some (.bool (decide (q∈all.drop i))):=(b1.get q).trans (b2 q hq)
   have I2:=Lib.hid (show ∃hs2,Bk (wr.setCell ⟨h,q,none⟩ (.bool false)) 4 h hs2∧hs2.size=N∧∀k,k<N→hs2[k]? = some (.bool (decide (k∈all.drop (i+1)))) from by
    refine ⟨_,b1.put q (.bool false),by simp [hz],fun k hk=> ?_⟩
    have hdrop:all.drop i=q::all.drop (i+1):=by rw [List.drop_eq_getElem_cons hlt,hqe]
    have hnd:q ∉ all.drop (i+1):=by
     have:=C.out.nodup.sublist (List.drop_sublist i all)
     rw [hdrop,List.nodup_cons] at this
     exact this.1
    by_cases hkq:k=q
    ·subst hkq
     rw [Array.getElem?_setIfInBounds_self_of_lt (by omega)]
     simp [hnd]
    ·rw [Array.getElem?_setIfInBounds_ne (fun e=>hkq e.symm),b2 k hk,hdrop]
     congr 2
     simp [hkq])
   have T2:=Lib.hid (t.trans (ak.bR h q wr (.bool false)) fun k _ e=>e)
   have hi0:(0:Int)≤(i:Int):=by omega
   have hin:(i:Int)<(all.length:Int):=by omega
   have hq0:(0:Int)≤(q:Int):=by omega
   have hqn:(q:Int)<(N:Int):=by omega
   have hinc:IntKind.i64.wrap ((i:Int)+1)=(i:Int)+1:=IntWalk.i64_in _ (by omega)
   clear I t b1 b2 hz k0 ow hgh hvh hqe hlt K T
   go_wp2_with fail
   go_roundw
   case rel=>exact ⟨i+1,by first | rfl | (congr 1; done) | (congr 1; omega),by omega,Lib.hid ⟨T2.out,I2.out⟩⟩
   case measure=>first | (simp [intOf]; done) | (simp [intOf]; omega)
  ·obtain rfl:i=all.length:=by omega
   have D:=Lib.hid (show ∃v',Did B g h (.slice A all.length cp) N w (wr.setCell ⟨g,0,none⟩ (.slice A 0 cp)) v' [] from by
    have hbk:∀k,(Value.slice A all.length cp).ownBlock=some k→k≠g:=lQ ow k0 (by decide)
    have t2:=ak.bR g 0 wr (.slice A 0 cp)
    have hAA:(Value.slice A 0 cp).ownBlock=(Value.slice A all.length cp).ownBlock:=by cases A<;>rfl
    refine ⟨.slice A 0 cp,⟨k0.put 0 _,t2.own (Vo ow) (fun k hk=>hbk k (hAA ▸ hk)),⟨hs,t2.bk b1 hgh,hz,fun k hk=>by rw [b2 k hk]; simp⟩,C.out.low,List.nodup_nil,by simp,C.out.big⟩,?_,fun k hk=>.inl (hAA ▸ hk)⟩
    exact (t.mono (M':=Ow g h (.slice A all.length cp)) fun k _ e=>.inr (.inl e)).trans t2 fun k _ e=>.inl e)
   clear I t b1 b2 hz hgh hvh K T k0 ow
   go_wp2_with fail
   go_end0
   exact ⟨rfl,D.out⟩
theorem Ng (n:Nat):∀k,k<n→(madeCells #[Value.bool false] n)[k]? = some (.bool false):=by
 intro k hk
 unfold madeCells
 simp [hk,Nat.mod_one]
theorem Fj (N:Nat) (w:World) (hN:N≤1000000) :
  Calls Tryz.prog 55 #[.int .i64 (N:Int)] w fun e w'=>∃g h,e=.returned (.pointer (some ⟨g,0,none⟩))∧Cr w' w.heap.size g h (.slice none 0 0) N []∧Below w.heap.size w w':=by
 obtain ⟨i0,hi,hz0,hz1,hz2⟩:=info_parts S9
 have hN0:(0:Int)≤(N:Int):=by omega
 have MK:=run_make w 42 4 i0 (.bool false) Tryz.underlying42 hi hz0 .i64 .i64 (N:Int) (N:Int) hN0 (Int.le_refl _) (by rw [hz2]; omega) (by omega)
 rw [hz1,Int.toNat_natCast,Nat.mul_one] at MK
 have HN:=Lib.hid hN
 go_enter Tryz.func55,Tryz.ntmps55
 go_wp2_with fail
 go_ret
 refine ⟨w.heap.size+1,w.heap.size,rfl,?_,((Below.refl w.heap.size w).alloc (Nat.le_refl _) _).alloc (by simp) _⟩
 obtain ⟨w1,hw1⟩:∃w1,w.alloc (.cells (madeCells #[.bool false] N) 4)=w1:=⟨_,rfl⟩
 have h1:Bk w1 4 w.heap.size (madeCells #[.bool false] N):=by rw [←hw1]; exact heap_alloc_new w _
 have z1:w1.heap.size=w.heap.size+1:=by rw [←hw1]; simp
 rw [hw1]
 have h2:=heap_alloc_new w1 (.cells #[.slice none 0 0,.slice (some ⟨w.heap.size,0,none⟩) N N] 105)
 rw [z1] at h2
 refine ⟨h2,World.ownsRow_nil _ _ _ _,⟨_,((Below.refl w1.heap.size w1).alloc (Nat.le_refl _) _).block _ (by omega) |>.trans h1,size_madeCells _ _,fun k hk=>by rw [Ng N k hk]; simp⟩,⟨by omega,Nat.le_refl _⟩,List.nodup_nil,by simp,HN.out⟩
end NF
namespace NF
structure Nv where
 k:Int
 A:Option Addr
 n:Nat
 c:Nat
 nt:Bool
 A2:Option Addr
 n2:Nat
 c2:Nat
 mn:Int
 mx:Int
def Nv.vals (x:Nv):List Value:=[.int .i64 x.k,.slice x.A x.n x.c,.bool x.nt,.slice x.A2 x.n2 x.c2,.int .i64 x.mn,.int .i64 x.mx]
def Nv.v (x:Nv):Value:=.agg #[.int .i64 x.k,.slice x.A x.n x.c,.bool x.nt,.slice x.A2 x.n2 x.c2,.int .i64 x.mn,.int .i64 x.mx]
def bY (xs:List Nv):List Value:=xs.flatMap Nv.vals
structure iD (w:World) (lo B:Nat) (s:Sg) (m:Nat) (x:Nv) (xs:List Nv):Prop where
 set:Sq w B 2 x.n x.A (aN s)
 le:x.n≤x.c
 many:x.n≤17592186044416
 kids:Sq w B 6 x.n2 x.A2 (bY xs)
 le2:x.n2≤x.c2
 many2:x.n2≤1759218604441
 len:m=x.n2
 lZ:xs.length=x.n2
 signs:∀r∈s,(-2147483648≤r.1∧r.1≤2147483647)∧ -2147483648≤r.2∧r.2≤2147483647
 ints:(-9223372036854775808≤x.mn∧x.mn≤9223372036854775807)∧ -9223372036854775808≤x.mx∧x.mx≤9223372036854775807
 lo1:∀b off,x.A=some ⟨b,off,none⟩→0<x.n→lo≤b
 lo2:∀b off,x.A2=some ⟨b,off,none⟩→0<x.n2→lo≤b
mutual
def bQ (w:World) (lo B:Nat):Nd→Nv→Prop
 | .mk k s nt ks mn mx,x=>x.k=k∧x.nt=nt∧x.mn=mn∧x.mx=mx∧∃xs:List Nv,iD w lo B s ks.length x xs∧cO w lo B ks xs
def cO (w:World) (lo B:Nat):List Nd→List Nv→Prop
 | [],xs=>xs=[]
 | y::ys,xs=>∃x r,xs=x::r∧bQ w lo B y x∧cO w lo B ys r
end
theorem cO.at {w:World} {lo B:Nat}:∀ {ks:List Nd} {xs:List Nv},cO w lo B ks xs→∀(i:Nat) (y:Nd),ks[i]? = some y→∃x,xs[i]? = some x∧bQ w lo B y x
 | [],xs,_,i,y,h=>by simp at h
 | z::zs,xs,h,i,y,hy=>by
  rw [cO] at h
  obtain ⟨x,r,rfl,h1,h2⟩:=h
  cases i with
  | zero=>simp at hy; subst hy; exact ⟨x,rfl,h1⟩
  | succ i=>exact h2.at i y (by simpa using hy)
theorem oH {w w':World} {lo B size n:Nat} {A:Option Addr} {xs:List Value} (h:Sq w B size n A xs) (hl:∀b off,A=some ⟨b,off,none⟩→0<n→lo≤b) (hk:∀p:Addr,lo≤p.block→p.block<B→w'.cell? p=w.cell? p):Sq w' B size n A xs :=
 ⟨h.len,fun hn=>let ⟨b,off,e,hb,hc⟩:=h.spot hn; ⟨b,off,e,hb,fun j u hu=>(hk ⟨b,off+j,none⟩ (hl b off e hn) hb).trans (hc j u hu)⟩⟩
theorem iD.KY {w w':World} {lo B:Nat} {s:Sg} {m:Nat} {x:Nv} {xs:List Nv} (h:iD w lo B s m x xs) (hk:∀p:Addr,lo≤p.block→p.block<B→w'.cell? p=w.cell? p):iD w' lo B s m x xs :=
 ⟨oH h.set h.lo1 hk,h.le,h.many,oH h.kids h.lo2 hk,h.le2,h.many2,h.len,h.lZ,h.signs,h.ints,h.lo1,h.lo2⟩
theorem iD.carry {w w':World} {lo B:Nat} {s:Sg} {m:Nat} {x:Nv} {xs:List Nv} (h:iD w lo B s m x xs) (hk:∀p:Addr,p.block<B→w'.cell? p=w.cell? p):iD w' lo B s m x xs :=
 h.KY fun p _ hp=>hk p hp
theorem iD.up {w:World} {lo B B':Nat} {s:Sg} {m:Nat} {x:Nv} {xs:List Nv} (h:iD w lo B s m x xs) (hb:B≤B'):iD w lo B' s m x xs :=
 ⟨h.set.up hb,h.le,h.many,h.kids.up hb,h.le2,h.many2,h.len,h.lZ,h.signs,h.ints,h.lo1,h.lo2⟩
theorem iD.down {w:World} {lo lo' B:Nat} {s:Sg} {m:Nat} {x:Nv} {xs:List Nv} (h:iD w lo B s m x xs) (hb:lo'≤lo):iD w lo' B s m x xs :=
 ⟨h.set,h.le,h.many,h.kids,h.le2,h.many2,h.len,h.lZ,h.signs,h.ints,fun b off e hn=>Nat.le_trans hb (h.lo1 b off e hn),fun b off e hn=>Nat.le_trans hb (h.lo2 b off e hn)⟩
mutual
theorem jh {w w':World} {lo B:Nat} (hk:∀p:Addr,lo≤p.block→p.block<B→w'.cell? p=w.cell? p):∀ {t:Nd} {x:Nv},bQ w lo B t x→bQ w' lo B t x
 | .mk k s nt ks mn mx,x,h=>by
  rw [bQ] at h ⊢
  obtain ⟨h1,h2,h3,h4,xs,h5,h6⟩:=h
  exact ⟨h1,h2,h3,h4,xs,h5.KY hk,kQ hk h6⟩
theorem kQ {w w':World} {lo B:Nat} (hk:∀p:Addr,lo≤p.block→p.block<B→w'.cell? p=w.cell? p):∀ {ks:List Nd} {xs:List Nv},cO w lo B ks xs→cO w' lo B ks xs
 | [],xs,h=>by rw [cO] at h ⊢; exact h
 | y::ys,xs,h=>by
  rw [cO] at h ⊢
  obtain ⟨x,r,e,h1,h2⟩:=h
  exact ⟨x,r,e,jh hk h1,kQ hk h2⟩
end
mutual
theorem lK {w:World} {lo lo' B B':Nat} (hl:lo'≤lo) (hb:B≤B'):∀ {t:Nd} {x:Nv},bQ w lo B t x→bQ w lo' B' t x
 | .mk k s nt ks mn mx,x,h=>by
  rw [bQ] at h ⊢
  obtain ⟨h1,h2,h3,h4,xs,h5,h6⟩:=h
  exact ⟨h1,h2,h3,h4,xs,(h5.up hb).down hl,uD hl hb h6⟩
theorem uD {w:World} {lo lo' B B':Nat} (hl:lo'≤lo) (hb:B≤B'):∀ {ks:List Nd} {xs:List Nv},cO w lo B ks xs→cO w lo' B' ks xs
 | [],xs,h=>by rw [cO] at h ⊢; exact h
 | y::ys,xs,h=>by
  rw [cO] at h ⊢
  obtain ⟨x,r,e,h1,h2⟩:=h
  exact ⟨x,r,e,lK hl hb h1,uD hl hb h2⟩
end
theorem bQ.below {w w':World} {lo B:Nat} {t:Nd} {x:Nv} (h:bQ w lo B t x) (hb:Below B w w'):bQ w' lo B t x:=jh (fun _ _ hp=>hb.cell hp) h
theorem cO.below {w w':World} {lo B:Nat} {t:List Nd} {x:List Nv} (h:cO w lo B t x) (hb:Below B w w'):cO w' lo B t x:=kQ (fun _ _ hp=>hb.cell hp) h
theorem wN:∀(xs:List Nv) (i:Nat) (x:Nv),xs[i]? = some x→∀(j:Nat) (u:Value),x.vals[j]? = some u→(bY xs)[i*6+j]? = some u
 | [],i,x,h,_,_,_=>by simp at h
 | y::l,0,x,h,j,u,hu=>by
  simp at h
  subst h
  have e:bY (y::l)=y.vals++bY l:=rfl
  rw [e,Nat.zero_mul,Nat.zero_add,List.getElem?_append_left (List.getElem?_eq_some_iff.1 hu).1]
  exact hu
 | y::l,i+1,x,h,j,u,hu=>by
  have ih:=wN l i x (by simpa using h) j u hu
  have e:bY (y::l)=y.vals++bY l:=rfl
  have hy:y.vals.length=6:=rfl
  rw [e,List.getElem?_append_right (by rw [hy]; omega),hy,show (i+1)*6+j - 6=i*6+j by omega]
  exact ih
structure zC (w:World) (b o:Nat) (x:Nv):Prop where
 c0:w.cell? ⟨b,o,none⟩=some (.int .i64 x.k)
 c1:w.cell? ⟨b,o+1,none⟩=some (.slice x.A x.n x.c)
 c2:w.cell? ⟨b,o+2,none⟩=some (.bool x.nt)
 c3:w.cell? ⟨b,o+3,none⟩=some (.slice x.A2 x.n2 x.c2)
 c4:w.cell? ⟨b,o+4,none⟩=some (.int .i64 x.mn)
 c5:w.cell? ⟨b,o+5,none⟩=some (.int .i64 x.mx)
theorem nM {w:World} {B n i:Nat} {A:Option Addr} {xs:List Nv} {x:Nv} (h:Sq w B 6 n A (bY xs)) (hx:xs[i]? = some x) (hi:i<n):∃b off,A=some ⟨b,off,none⟩∧b<B∧zC w b (off+i*6) x:=by
 obtain ⟨b,off,e,hb,hc⟩:=h.spot (by omega)
 have g:=fun j u hu=>hc _ u (wN xs i x hx j u hu)
 refine ⟨b,off,e,hb,⟨?_,?_,?_,?_,?_,?_⟩⟩
 ·exact g 0 _ rfl
 ·rw [Nat.add_assoc]; exact g 1 _ rfl
 ·rw [Nat.add_assoc]; exact g 2 _ rfl
 ·rw [Nat.add_assoc]; exact g 3 _ rfl
 ·rw [Nat.add_assoc]; exact g 4 _ rfl
 ·rw [Nat.add_assoc]; exact g 5 _ rfl
def aR (w:World) (g:Nat) (x:Nv):Prop:=Bk w 29 g #[.int .i64 x.k,.slice x.A x.n x.c,.bool x.nt,.slice x.A2 x.n2 x.c2,.int .i64 x.mn,.int .i64 x.mx]
theorem aR.at {w:World} {g:Nat} {x:Nv} (h:aR w g x):zC w g 0 x:=⟨Bk.get h 0,Bk.get h 1,Bk.get h 2,Bk.get h 3,Bk.get h 4,Bk.get h 5⟩
theorem CS (r:Int) (w:World) :
  Calls Tryz.prog 257 #[.int .i32 r] w fun e w'=>e=.returned (.bool (decide (0≤r) && decide (r≤1114111) && !(decide (55296≤r) && decide (r≤57343))))∧w'=w:=by
 by_cases h1:0≤r
 ·by_cases h2:r<55296
  ·go_enter Tryz.func257,Tryz.ntmps257
   go_wp2_with fail
   go_ret
   exact ⟨aC (by first | (simp; done) | (simp; omega)),rfl⟩
  ·by_cases h3:57343<r
   ·by_cases h4:r≤1114111
    ·go_enter Tryz.func257,Tryz.ntmps257
     go_wp2_with fail
     go_ret
     exact ⟨aC (by first | (simp; done) | (simp; omega)),rfl⟩
    ·go_enter Tryz.func257,Tryz.ntmps257
     go_wp2_with fail
     go_ret
     exact ⟨aC (by first | (simp; done) | (simp; omega)),rfl⟩
   ·go_enter Tryz.func257,Tryz.ntmps257
    go_wp2_with fail
    go_ret
    exact ⟨aC (by first | (simp; done) | (simp; omega)),rfl⟩
 ·have h3:¬57343<r:=by omega
  go_enter Tryz.func257,Tryz.ntmps257
  go_wp2_with fail
  go_ret
  exact ⟨aC (by first | (simp; done) | (simp; omega)),rfl⟩
theorem xq (r:Int) (w:World) :
  Calls Tryz.prog 210 #[.int .i32 r] w fun e w'=>e=.returned (.bool (bL r))∧w'=w:=by
 have V:=Lib.hid (CS r w)
 have O:=Lib.hid (show bL r=((decide (0≤r) && decide (r≤1114111) && !(decide (55296≤r) && decide (r≤57343))) && !decide (r=65533)) from rfl)
 generalize (decide (0≤r) && decide (r≤1114111) && !(decide (55296≤r) && decide (r≤57343)))=v at V O
 go_enter Tryz.func210,Tryz.ntmps210
 go_wp2_with fail
 refine V.out.mono ?_
 rintro e w' ⟨rfl,rfl⟩
 cases v
 ·go_wp2_with fail
  go_ret
  exact ⟨aC (by rw [O.out]; rfl),rfl⟩
 ·go_wp2_with fail
  go_ret
  exact ⟨aC (by rw [O.out]; by_cases h:r=65533<;>simp [h]),rfl⟩
theorem Fp (mn mx:Int) (w:World) :
  Calls Tryz.prog 172 #[.int .i64 mn,.int .i64 mx] w fun e w'=>e=.returned (.bool (decide (0≤mn) && decide (mn≤9) && (decide (mx = -1) || decide (mn≤mx) && decide (mx≤9))))∧w'=w:=by
 by_cases h1:0≤mn
 ·by_cases h2:mn≤9
  ·by_cases h3:mx = -1
   ·subst h3
    go_enter Tryz.func172,Tryz.ntmps172
    go_wp2_with fail
    go_ret
    exact ⟨aC (by first | (simp; done) | (simp; omega)),rfl⟩
   ·have h3':(mx == -1)=false:=by rw [beq_eq_false_iff_ne]; exact h3
    have h3'':decide (mx = -1)=false:=decide_eq_false h3
    by_cases h4:mn≤mx
    ·by_cases h5:mx≤9
     ·go_enter Tryz.func172,Tryz.ntmps172
      go_wp2_with fail
      go_ret
      exact ⟨aC (by first | (simp; done) | (simp; omega)),rfl⟩
     ·go_enter Tryz.func172,Tryz.ntmps172
      go_wp2_with fail
      go_ret
      exact ⟨aC (by first | (simp; done) | (simp; omega)),rfl⟩
    ·go_enter Tryz.func172,Tryz.ntmps172
     go_wp2_with fail
     go_ret
     exact ⟨aC (by first | (simp; done) | (simp; omega)),rfl⟩
  ·go_enter Tryz.func172,Tryz.ntmps172
   go_wp2_with fail
   go_ret
   exact ⟨aC (by first | (simp; done) | (simp; omega)),rfl⟩
 ·go_enter Tryz.func172,Tryz.ntmps172
  go_wp2_with fail
  go_ret
  exact ⟨aC (by first | (simp; done) | (simp; omega)),rfl⟩
theorem bX (w:World) (k:Int) (A:Option Addr) (n c:Nat) (nt:Bool) (A2:Option Addr) (n2 c2:Nat) (mn mx:Int):∃w1,w.alloc (.cells #[.int .i64 k,.slice A n c,.bool nt,.slice A2 n2 c2,.int .i64 mn,.int .i64 mx] 29)=w1∧aR w1 w.heap.size ⟨k,A,n,c,nt,A2,n2,c2,mn,mx⟩∧Below w.heap.size w w1∧w1.heap.size=w.heap.size+1 :=
 ⟨_,rfl,heap_alloc_new w _,(Below.refl _ _).alloc (Nat.le_refl _) _,by simp⟩
theorem aR.below {w w':World} {g B:Nat} {x:Nv} (h:aR w g x) (hb:Below B w w') (hg:g<B):aR w' g x:=(hb.block g hg).trans h
theorem Nh {s:Sg} {i:Nat} {r:Int×Int} (hr:s[i]? = some r) (h:bK (s.take i)=true) (h1:bL r.1=true) (h2:bL r.2=true) (h3:r.1≤r.2):bK (s.take (i+1))=true:=by
 obtain ⟨hi,he⟩:=List.getElem?_eq_some_iff.1 hr
 unfold bK at h ⊢
 rw [List.take_succ_eq_append_getElem hi,List.all_append,h,he]
 simp [h1,h2,h3]
theorem xu {s:Sg} {i:Nat} {r:Int×Int} (hr:s[i]? = some r) (h:(bL r.1 && bL r.2 && decide (r.1≤r.2))=false):bK s=false:=by
 unfold bK
 rw [List.all_eq_false]
 exact ⟨r,List.mem_of_getElem? hr,by rw [h]; simp⟩
theorem JX (s:Sg) (m:Nat) (x:Nv) (xs:List Nv) (w:World) {lo:Nat} (h:iD w lo w.heap.size s m x xs) :
  Calls Tryz.prog 171 #[x.v] w fun e w'=>e=.returned (.bool (bK s && (!s.isEmpty || x.nt)))∧Below w.heap.size w w':=by
 obtain ⟨k,A,n,c,nt,A2,n2,c2,mn,mx⟩:=x
 have hl:=mQ h.set
 have hn:n≤17592186044416:=h.many
 obtain ⟨w1,hw1,k1,b1,z1⟩:=bX w k A n c nt A2 n2 c2 mn mx
 have Q:=Lib.hid (h.set.below b1)
 have L:=Lib.hid (show s.length=n from hl)
 have k11:w1.cell? ⟨w.heap.size,1,none⟩=some (.slice A n c):=k1.at.c1
 have K1:=Lib.hid k1
 have I0:=Lib.hid (show Below w1.heap.size w1 w1∧bK (s.take 0)=true from ⟨Below.refl _ _,rfl⟩)
 have B1:=Lib.hid b1
 have Z1:=Lib.hid z1
 unfold Nv.v
 dsimp only
 clear h hl b1 k1 z1
 go_enter Tryz.func171,Tryz.ntmps171
 go_wp2_with fail
 go_loopw [8] (fun y wr=>∃i:Nat,y=.int .i64 (i:Int)∧i≤n∧Hid (Below w1.heap.size w1 wr∧bK (s.take i)=true)) (fun y _=>n - (intOf y).toNat)
 case atStart=>exact ⟨0,rfl,Nat.zero_le _,I0⟩
 case round =>
  obtain ⟨i,rfl,hi,I⟩:=hrel
  clear I0 k11 hw1
  have HB:=Lib.hid I.out.1
  have OK:=Lib.hid I.out.2
  have hi0:(0:Int)≤(i:Int):=by omega
  have hinc:IntKind.i64.wrap ((i:Int)+1)=(i:Int)+1:=IntWalk.i64_in _ (by omega)
  clear I
  by_cases hlt:i<n
  ·obtain ⟨r,hr⟩:∃r,s[i]? = some r:=⟨_,List.getElem?_eq_getElem (by rw [L.out]; exact hlt)⟩
   obtain ⟨b,off,rfl,_,c0,c1⟩:=zO (Q.out.below (HB.out.mono (by rw [Z1.out]; omega))) hr hlt
   have hi1:(i:Int)<(n:Int):=by omega
   obtain ⟨lo,hi'⟩:=r
   dsimp only at c0 c1
   have HR:=Lib.hid hr
   have S1:=Lib.hid (fun W=>xq lo W)
   have S2:=Lib.hid (fun W=>xq hi' W)
   have BX:=Lib.hid (HB.out.alloc HB.out.size (.cells #[.int .i32 lo,.int .i32 hi'] 189))
   obtain ⟨o1,ho1⟩:∃o,bL lo=o:=⟨_,rfl⟩
   obtain ⟨o2,ho2⟩:∃o,bL hi'=o:=⟨_,rfl⟩
   have O1:=Lib.hid ho1
   have O2:=Lib.hid ho2
   rw [ho1] at S1
   rw [ho2] at S2
   clear hr ho1 ho2
   cases o1
   ·have F:=Lib.hid (xu HR.out (by dsimp only; rw [O1.out]; rfl))
    go_wp2_with fail
    refine (S1.out _).mono ?_
    rintro e w2 ⟨rfl,rfl⟩
    go_wp2_with fail
    go_ret
    exact ⟨aC (by rw [F.out]; rfl),B1.out.trans (BX.out.mono B1.out.size)⟩
   ·cases o2
    ·have F:=Lib.hid (xu HR.out (by dsimp only; rw [O1.out,O2.out]; rfl))
     go_wp2_with fail
     refine (S1.out _).mono ?_
     rintro e w2 ⟨rfl,rfl⟩
     go_wp2_with fail
     refine (S2.out _).mono ?_
     rintro e w2 ⟨rfl,rfl⟩
     go_wp2_with fail
     go_ret
     exact ⟨aC (by rw [F.out]; rfl),B1.out.trans (BX.out.mono B1.out.size)⟩
    ·by_cases h3:lo≤hi'
     ·have T:=Lib.hid (Nh HR.out OK.out O1.out O2.out h3)
      go_wp2_with fail
      refine (S1.out _).mono ?_
      rintro e w2 ⟨rfl,rfl⟩
      go_wp2_with fail
      refine (S2.out _).mono ?_
      rintro e w2 ⟨rfl,rfl⟩
      go_wp2_with fail
      go_roundw
      case rel=>exact ⟨i+1,by first | rfl | (congr 1; done) | (congr 1; omega),by omega,Lib.hid ⟨BX.out,T.out⟩⟩
      case measure=>first | (simp [intOf]; done) | (simp [intOf]; omega)
     ·have F:=Lib.hid (xu HR.out (by dsimp only; rw [decide_eq_false h3]; simp))
      go_wp2_with fail
      refine (S1.out _).mono ?_
      rintro e w2 ⟨rfl,rfl⟩
      go_wp2_with fail
      refine (S2.out _).mono ?_
      rintro e w2 ⟨rfl,rfl⟩
      go_wp2_with fail
      go_ret
      exact ⟨aC (by rw [F.out]; rfl),B1.out.trans (BX.out.mono B1.out.size)⟩
  ·obtain rfl:i=n:=by omega
   have nb:=K1.out.below HB.out (by rw [Z1.out]; omega)
   have k11:wr.cell? ⟨w.heap.size,1,none⟩=some (.slice A i c):=nb.at.c1
   have k12:wr.cell? ⟨w.heap.size,2,none⟩=some (.bool nt):=nb.at.c2
   have T:=Lib.hid (show bK s=true from by have:=OK.out; rw [List.take_of_length_le (by rw [L.out]; omega)] at this; exact this)
   have NE:=Lib.hid (show s.isEmpty=decide (i=0) from by
    have:=L.out
    cases s with
    | nil=>simp at this; simp [←this]
    | cons a b=>simp at this; simp; omega)
   clear OK nb
   by_cases h0:0<i
   ·have h0':(0:Int)<(i:Int):=by omega
    go_wp2_with fail
    go_ret
    exact ⟨aC (by rw [T.out,NE.out,decide_eq_false (by omega)]; rfl),B1.out.trans (HB.out.mono B1.out.size)⟩
   ·obtain rfl:i=0:=by omega
    go_wp2_with fail
    go_ret
    exact ⟨aC (by rw [T.out,NE.out]; cases nt<;>rfl),B1.out.trans (HB.out.mono B1.out.size)⟩
end NF
end Go.Proofs.YteemnmalikomgaaGreatDoor
namespace Go.Proofs.YteemnmalikomgaaGreatDoor
open Go.ChangeShapes Go.WideShapes Go.ChangeAt Go.RowKit
namespace NF
theorem Fq (s:Sg) (m:Nat) (x:Nv) (xs:List Nv) (w:World) {lo:Nat} (h:iD w lo w.heap.size s m x xs) :
  Calls Tryz.prog 130 #[x.v] w fun e w'=>e=.returned (.bool (aP x.k s x.nt m x.mn x.mx))∧Below w.heap.size w w':=by
 obtain ⟨k,A,n,c,nt,A2,n2,c2,mn,mx⟩:=x
 obtain ⟨w1,hw1,k1,b1,z1⟩:=bX w k A n c nt A2 n2 c2 mn mx
 have hl:s.length=n:=mQ h.set
 have hm:m=n2:=h.len
 have MS:=Lib.hid (JX s m ⟨k,A,n,c,nt,A2,n2,c2,mn,mx⟩ xs w1 ((h.carry fun p hp=>b1.cell hp).up b1.size))
 have MT:=Lib.hid (fun W=>Fp mn mx W)
 have k10:=k1.at.c0
 have k11:=k1.at.c1
 have k12:=k1.at.c2
 have k13:=k1.at.c3
 have k14:=k1.at.c4
 have k15:=k1.at.c5
 dsimp only [Nv.v] at MS k10 k11 k12 k13 k14 k15 ⊢
 have B1:=Lib.hid b1
 obtain ⟨em,hem⟩:∃em,s.isEmpty=em:=⟨_,rfl⟩
 have h0:(n == 0)=em:=by rw [←hem,←hl]; cases s<;>rfl
 have h0':((n:Int) == 0)=em:=by
  rw [←h0]
  by_cases hn:n=0
  ·subst hn; rfl
  ·rw [beq_eq_false_iff_ne.2 hn,beq_eq_false_iff_ne]; omega
 have h0'':decide (n=0)=em:=by rw [←h0]; rfl
 have SI:=Lib.hid hem
 obtain ⟨nk,hnk⟩:∃nk,decide (n2=0)=nk:=⟨_,rfl⟩
 have g0:(n2 == 0)=nk:=by rw [←hnk]; by_cases hn:n2=0<;>simp [hn]
 have g0':((n2:Int) == 0)=nk:=by rw [←hnk]; by_cases hn:n2=0<;>simp [hn]
 obtain ⟨z4,hz4⟩:∃z,decide (mn=0)=z:=⟨_,rfl⟩
 obtain ⟨z5,hz5⟩:∃z,decide (mx=0)=z:=⟨_,rfl⟩
 have e4:(mn == 0)=z4:=by rw [←hz4]; by_cases hn:mn=0<;>simp [hn]
 have e5:(mx == 0)=z5:=by rw [←hz5]; by_cases hn:mx=0<;>simp [hn]
 have MA:=Lib.hid (show aP k s nt m mn mx=(if k=2 then bK s && (!em || nt) && nk && z4 && z5
  else if k=3∨k=4 then em && !nt && decide (2≤n2) && z4 && z5
  else if k=5 then em && !nt && decide (n2=1) && decide (0≤mn) && decide (mn≤9) && (decide (mx = -1) || decide (mn≤mx) && decide (mx≤9))
  else if k=6∨k=7 then em && !nt && nk && z4 && z5
  else false) from by unfold aP; rw [hm,hem,hnk,hz4,hz5])
 rw [hem] at MS
 clear h b1 k1 z1 hl hm hem hnk hz4 hz5
 go_enter Tryz.func130,Tryz.ntmps130
 go_upto_region 1 with fail
 go_cut [3] from 6 to 14 (fun s3 wx=>s3=.bool (em && !nt)∧wx=w1)
 case first =>
  cases em
  ·go_wp2_with fail
   go_meet
   case rel=>exact ⟨rfl,rfl⟩
  ·go_wp2_with fail
   go_meet
   case rel=>exact ⟨rfl,rfl⟩
 case rest =>
  obtain ⟨rfl,rfl⟩:=hcut
  go_upto_region 3 with fail
  go_cut [5] from 18 to 26 (fun s5 wx=>s5=.bool (z4 && z5)∧wx=wc)
  case first =>
   cases z4
   ·go_wp2_with fail
    go_meet
    case rel=>exact ⟨rfl,rfl⟩
   ·go_wp2_with fail
    go_meet
    case rel=>exact ⟨rfl,rfl⟩
  case rest =>
   obtain ⟨rfl,rfl⟩:=hcut
   obtain ⟨p1,hp1⟩:∃p,(em && !nt)=p:=⟨_,rfl⟩
   obtain ⟨p2,hp2⟩:∃p,(z4 && z5)=p:=⟨_,rfl⟩
   have P1:=Lib.hid hp1
   have P2:=Lib.hid hp2
   rw [hp1,hp2]
   clear hp1 hp2 h0 h0' h0'' g0 g0' e4 e5
   by_cases q2:k=2
   ·subst q2
    have R:=Lib.hid (show aP 2 s nt m mn mx=((bK s && (!em || nt)) && nk && p2) from by rw [MA.out,if_pos rfl,←P2.out,Bool.and_assoc (_ && nk)])
    clear MA
    generalize (bK s && (!em || nt))=ok at MS R
    cases ok
    ·go_wp2_with fail
     refine MS.out.mono ?_
     rintro e w2 ⟨rfl,b2⟩
     have B2:=Lib.hid (B1.out.trans (b2.mono B1.out.size))
     clear b2 MS
     go_wp2_with fail
     go_ret
     exact ⟨aC (by rw [R.out]; rfl),B2.out⟩
    ·cases nk
     ·go_wp2_with fail
      refine MS.out.mono ?_
      rintro e w2 ⟨rfl,b2⟩
      have B2:=Lib.hid (B1.out.trans (b2.mono B1.out.size))
      clear b2 MS
      go_wp2_with fail
      go_ret
      exact ⟨aC (by rw [R.out]; rfl),B2.out⟩
     ·go_wp2_with fail
      refine MS.out.mono ?_
      rintro e w2 ⟨rfl,b2⟩
      have B2:=Lib.hid (B1.out.trans (b2.mono B1.out.size))
      clear b2 MS
      go_wp2_with fail
      go_ret
      exact ⟨aC (by rw [R.out]; simp),B2.out⟩
   ·have r2:(k == 2)=false:=by rw [beq_eq_false_iff_ne]; exact q2
    clear MS
    by_cases q34:k=3∨k=4
    ·have R:=Lib.hid (show aP k s nt m mn mx=(p1 && decide (2≤n2) && p2) from by rw [MA.out,if_neg q2,if_pos q34,←P1.out,←P2.out,Bool.and_assoc (_ && decide _)])
     clear MA
     rcases q34 with rfl | rfl<;>cases p1
     ·go_wp2_with fail
      go_ret
      exact ⟨aC (by rw [R.out]; rfl),B1.out⟩
     ·by_cases h2:2≤n2
      ·have h2':(2:Int)≤(n2:Int):=by omega
       go_wp2_with fail
       go_ret
       exact ⟨aC (by rw [R.out]; simp [h2]),B1.out⟩
      ·have h2':¬(2:Int)≤(n2:Int):=by omega
       go_wp2_with fail
       go_ret
       exact ⟨aC (by rw [R.out]; simp [h2]),B1.out⟩
     ·go_wp2_with fail
      go_ret
      exact ⟨aC (by rw [R.out]; rfl),B1.out⟩
     ·by_cases h2:2≤n2
      ·have h2':(2:Int)≤(n2:Int):=by omega
       go_wp2_with fail
       go_ret
       exact ⟨aC (by rw [R.out]; simp [h2]),B1.out⟩
      ·have h2':¬(2:Int)≤(n2:Int):=by omega
       go_wp2_with fail
       go_ret
       exact ⟨aC (by rw [R.out]; simp [h2]),B1.out⟩
    ·have r3:(k == 3)=false:=by rw [beq_eq_false_iff_ne]; omega
     have r4:(k == 4)=false:=by rw [beq_eq_false_iff_ne]; omega
     by_cases q5:k=5
     ·have R:=Lib.hid (show aP k s nt m mn mx=(p1 && decide (n2=1) && (decide (0≤mn) && decide (mn≤9) && (decide (mx = -1) || decide (mn≤mx) && decide (mx≤9)))) from by rw [MA.out,if_neg q2,if_neg q34,if_pos q5,←P1.out]; simp only [Bool.and_assoc])
      clear MA
      generalize (decide (0≤mn) && decide (mn≤9) && (decide (mx = -1) || decide (mn≤mx) && decide (mx≤9)))=tm at MT R
      subst q5
      cases p1
      ·go_wp2_with fail
       go_ret
       exact ⟨aC (by rw [R.out]; rfl),B1.out⟩
      ·by_cases h2:n2=1
       ·subst h2
        go_wp2_with fail
        refine (MT.out _).mono ?_
        rintro e w2 ⟨rfl,rfl⟩
        go_wp2_with fail
        go_ret
        exact ⟨aC (by rw [R.out]; simp),B1.out⟩
       ·have h2':((n2:Int) == 1)=false:=by rw [beq_eq_false_iff_ne]; omega
        have h2'':(n2 == 1)=false:=by rw [beq_eq_false_iff_ne]; omega
        go_wp2_with fail
        go_ret
        exact ⟨aC (by rw [R.out]; simp [h2]),B1.out⟩
     ·have r5:(k == 5)=false:=by rw [beq_eq_false_iff_ne]; omega
      by_cases q67:k=6∨k=7
      ·have R:=Lib.hid (show aP k s nt m mn mx=(p1 && nk && p2) from by rw [MA.out,if_neg q2,if_neg q34,if_neg q5,if_pos q67,←P1.out,←P2.out,Bool.and_assoc (_ && nk)])
       clear MA
       rcases q67 with rfl | rfl<;>cases p1<;>cases nk
       all_goals
        go_wp2_with fail
        go_ret
        exact ⟨aC (by rw [R.out]; first | rfl | (cases p2<;>rfl)),B1.out⟩
      ·have r6:(k == 6)=false:=by rw [beq_eq_false_iff_ne]; omega
       have r7:(k == 7)=false:=by rw [beq_eq_false_iff_ne]; omega
       have R:=Lib.hid (show aP k s nt m mn mx=false from by rw [MA.out,if_neg q2,if_neg q34,if_neg q5,if_neg q67])
       clear MA
       go_wp2_with fail
       go_ret
       exact ⟨aC R.out.symm,B1.out⟩
theorem zA:∀ {ks:List Nd} {i:Nat} {y:Nd},ks[i]? = some y→counts (ks.take (i+1))=counts (ks.take i)+count y∧counts (ks.take (i+1))≤counts ks∧deep y≤dI ks∧aW (ks.take (i+1))=(aW (ks.take i) && may y)∧(may y=false→aW ks=false)
 | [],i,y,h=>by simp at h
 | z::zs,0,y,h=>by
  simp at h
  subst h
  simp only [List.take_succ_cons,List.take_zero,counts,dI,aW,Nat.zero_add,Nat.add_zero,Bool.true_and,Bool.and_true]
  exact ⟨trivial,by omega,by omega,trivial,fun h=>by rw [h]; rfl⟩
 | z::zs,i+1,y,h=>by
  obtain ⟨h1,h2,h3,h4,h5⟩:=zA (ks:=zs) (i:=i) (y:=y) (by simpa using h)
  simp only [List.take_succ_cons,counts,dI,aW] at h1 h2 h4 ⊢
  refine ⟨by omega,by omega,by omega,by rw [h4,Bool.and_assoc],fun h=>by rw [h5 h,Bool.and_false]⟩
theorem oG {w:World} {b o:Nat} {k:Int} {A:Option Addr} {n c:Nat} {nt:Bool} {A2:Option Addr} {n2 c2:Nat} {mn mx:Int} (h:zC w b o ⟨k,A,n,c,nt,A2,n2,c2,mn,mx⟩) :
  w.cell? ⟨b,o,none⟩=some (.int .i64 k)∧w.cell? ⟨b,o+1,none⟩=some (.slice A n c)∧w.cell? ⟨b,o+2,none⟩=some (.bool nt)∧w.cell? ⟨b,o+3,none⟩=some (.slice A2 n2 c2)∧w.cell? ⟨b,o+4,none⟩=some (.int .i64 mn)∧w.cell? ⟨b,o+5,none⟩=some (.int .i64 mx):=⟨h.c0,h.c1,h.c2,h.c3,h.c4,h.c5⟩
theorem aB {w:World} {g:Nat} {k:Int} {A:Option Addr} {n c:Nat} {nt:Bool} {A2:Option Addr} {n2 c2:Nat} {mn mx:Int} (h:aR w g ⟨k,A,n,c,nt,A2,n2,c2,mn,mx⟩) :
  w.cell? ⟨g,0,none⟩=some (.int .i64 k)∧w.cell? ⟨g,1,none⟩=some (.slice A n c)∧w.cell? ⟨g,2,none⟩=some (.bool nt)∧w.cell? ⟨g,3,none⟩=some (.slice A2 n2 c2)∧w.cell? ⟨g,4,none⟩=some (.int .i64 mn)∧w.cell? ⟨g,5,none⟩=some (.int .i64 mx):=⟨h.at.c0,h.at.c1,h.at.c2,h.at.c3,h.at.c4,h.at.c5⟩
theorem CU:∀(fuel:Nat) (t:Nd) (x:Nv) (d r R lo B:Nat) (w:World),deep t≤fuel→deep t≤d→d≤40→count t≤R→R≤2000→B≤r→bQ w lo B t x→Bk w 3 r #[.int .i64 (R:Int)] →
  Calls Tryz.prog 85 #[x.v,.int .i64 (d:Int),.pointer (some ⟨r,0,none⟩)] w fun e w'=>e=.returned (.bool (may t))∧ak (· = r) w w'∧(may t=true→Bk w' 3 r #[.int .i64 ((R - count t:Nat):Int)]):=by
 intro fuel
 induction fuel with
 | zero =>
  intro t x d r R lo B w hf
  cases t
  rw [deep] at hf
  omega
 | succ fuel ih =>
  intro t x d r R lo B w hf hd hd4 hc hR hB hx hr
  obtain ⟨k0,s0,nt0,ks,mn0,mx0⟩:=t
  rw [bQ] at hx
  obtain ⟨e1,e2,e3,e4,xs,ho,hk⟩:=hx
  obtain ⟨k,A,n,c,nt,A2,n2,c2,mn,mx⟩:=x
  dsimp only at e1 e2 e3 e4
  subst e1 e2 e3 e4
  obtain ⟨w1,hw1,k1,b1,z1⟩:=bX w k A n c nt A2 n2 c2 mn mx
  have hrl:=hr.lt
  have hBw:B≤w.heap.size:=by omega
  have r1:Bk w1 3 r #[.int .i64 (R:Int)]:=(b1.block r hrl).trans hr
  have o1:iD w1 lo B s0 ks.length ⟨k,A,n,c,nt,A2,n2,c2,mn,mx⟩ xs:=ho.carry fun p hp=>b1.cell (Nat.lt_of_lt_of_le hp hBw)
  have MA:=Lib.hid (Fq s0 ks.length ⟨k,A,n,c,nt,A2,n2,c2,mn,mx⟩ xs w1 (o1.up (Nat.le_trans hBw b1.size)))
  rw [deep] at hf hd
  have hcs:count (.mk k s0 nt ks mn mx)=counts ks+1:=by rw [count]
  rw [hcs] at hc
  have M0:=Lib.hid (show may (.mk k s0 nt ks mn mx)=(aP k s0 nt ks.length mn mx && aW ks) from by rw [may])
  have CT:=Lib.hid hcs
  have c0:w1.cell? ⟨r,0,none⟩=some (.int .i64 (R:Int)):=r1.get 0
  have f0:=r1.free 0
  have hlen:ks.length=n2:=ho.len
  have hxl:xs.length=n2:=ho.lZ
  have hm2:n2≤1759218604441:=ho.many2
  obtain ⟨R1,hR1⟩:∃R1:Nat,R=R1+1:=⟨R - 1,by omega⟩
  obtain ⟨d1,hd1⟩:∃d1:Nat,d=d1+1:=⟨d - 1,by omega⟩
  obtain ⟨y0,y1,y2,y3,y4,y5⟩:=aB k1
  have OW:=Lib.hid ho
  have KW:=Lib.hid hk
  have K1:=Lib.hid k1
  have B1:=Lib.hid b1
  have R1H:=Lib.hid r1
  have HL:=Lib.hid (And.intro hlen hxl)
  have SZ:=Lib.hid (And.intro hrl (And.intro hB z1))
  have D0:((d:Int) == 0)=false:=by rw [beq_eq_false_iff_ne]; omega
  have D1:((R:Int) == 0)=false:=by rw [beq_eq_false_iff_ne]; omega
  have D2:IntKind.i64.wrap ((R:Int) - 1)=(R1:Int):=by rw [IntWalk.i64_in _ (by omega)]; omega
  have D3:IntKind.i64.wrap ((d:Int) - 1)=(d1:Int):=by rw [IntWalk.i64_in _ (by omega)]; omega
  have NB:=Lib.hid (And.intro hf (And.intro hd (And.intro hc (And.intro hR1 hd1))))
  rw [hcs]
  dsimp only [Nv.v] at MA ⊢
  obtain ⟨ma,hma⟩:∃ma,aP k s0 nt ks.length mn mx=ma:=⟨_,rfl⟩
  rw [hma] at MA M0
  clear hr r1 o1 k1 b1 z1 ho hk hma hcs hlen hxl hrl hB hBw hR1 hd1 hf hd hc
  cases ma
  ·have M1:=Lib.hid (show may (.mk k s0 nt ks mn mx)=false from M0.out)
   rw [M1.out]
   go_enter Tryz.func85,Tryz.ntmps85
   go_wp2_with fail
   refine MA.out.mono ?_
   rintro e w2 ⟨rfl,b2⟩
   have T2:=Lib.hid (show ak (· = r) w w2 from ak.aH (B1.out.trans (b2.mono B1.out.size)) _)
   clear b2 MA
   go_wp2_with fail
   go_ret
   exact ⟨rfl,T2.out,fun h=>by cases h⟩
  ·have M1:=Lib.hid (show may (.mk k s0 nt ks mn mx)=aW ks from M0.out)
   rw [M1.out]
   clear M0 M1
   go_enter Tryz.func85,Tryz.ntmps85
   go_wp2_with fail
   refine MA.out.mono ?_
   rintro e w2 ⟨rfl,b2⟩
   have hr2:Bk w2 3 r #[.int .i64 (R:Int)]:=(b2.block r R1H.out.lt).trans R1H.out
   have c2':w2.cell? ⟨r,0,none⟩=some (.int .i64 (R:Int)):=hr2.get 0
   have f2:w2.frozen? ⟨r,0,none⟩=false:=hr2.free 0
   obtain ⟨w3,hw3⟩:∃w3,w2.setCell ⟨r,0,none⟩ (.int .i64 (R1:Int))=w3:=⟨_,rfl⟩
   have t3:ak (· = r) w2 w3:=by rw [←hw3]; exact ak.bR r 0 w2 _
   have r3:Bk w3 3 r #[.int .i64 (R1:Int)]:=by rw [←hw3]; exact hr2.put 0 _
   have n3:aR w3 w.heap.size ⟨k,A,n,c,nt,A2,n2,c2,mn,mx⟩:=t3.bk (K1.out.below b2 (by have:=SZ.out.2.2; omega)) (fun e=>by have:=SZ.out.1; omega)
   have x3:w3.cell? ⟨w.heap.size,3,none⟩=some (.slice A2 n2 c2):=n3.at.c3
   have T1:=Lib.hid (show ak (· = r) w w3 from ((ak.aH (B1.out.trans (b2.mono B1.out.size)) (fun _=>False)).mono (fun _ _ h=>h.elim)).trans t3 (fun _ _ h=>h))
   have N3:=Lib.hid n3
   have I0:=Lib.hid (show ak (· = r) w w3∧∃R':Nat,Bk w3 3 r #[.int .i64 (R':Int)]∧R'+counts (ks.take 0)=R1∧aW (ks.take 0)=true from ⟨T1.out,R1,r3,by simp [counts],rfl⟩)
   clear c0 f0 MA hw1 y0 y1 y2 y3 y4 y5 hr2 b2 t3 r3 n3 T1
   go_wp2_with fail
   go_loopw [30] (fun y wr=>∃i:Nat,y=.int .i64 (i:Int)∧i≤n2∧Hid (ak (· = r) w wr∧∃R':Nat,Bk wr 3 r #[.int .i64 (R':Int)]∧R'+counts (ks.take i)=R1∧aW (ks.take i)=true)) (fun y _=>n2 - (intOf y).toNat)
   case atStart=>exact ⟨0,rfl,Nat.zero_le _,I0⟩
   case round =>
    obtain ⟨i,rfl,hi,I⟩:=hrel
    clear I0 c2' f2 hw3 x3
    have hi0:(0:Int)≤(i:Int):=by omega
    have hinc:IntKind.i64.wrap ((i:Int)+1)=(i:Int)+1:=IntWalk.i64_in _ (by omega)
    by_cases hlt:i<n2
    ·obtain ⟨t,R',hb',hsum,hms⟩:=I.out
     obtain ⟨y,hy⟩:∃y,ks[i]? = some y:=⟨_,List.getElem?_eq_getElem (by rw [HL.out.1]; exact hlt)⟩
     obtain ⟨q1,q2,q3,q4,q5⟩:=zA hy
     have bw:Below B w wr:=t.toBelow (by have:=SZ.out; omega) (fun k hk e=>by have:=SZ.out; omega)
     obtain ⟨xi,hxi,hin⟩:=(KW.out.below bw).at i y hy
     obtain ⟨b,off,rfl,_,nv⟩:=nM (OW.out.carry fun p hp=>bw.cell hp).kids hxi hlt
     obtain ⟨ki,Ai,ni,ci,nti,A2i,n2i,c2i,mni,mxi⟩:=xi
     obtain ⟨u0,u1,u2,u3,u4,u5⟩:=oG nv
     obtain ⟨w4,hw4,k4,b4,z4⟩:=bX wr ki Ai ni ci nti A2i n2i c2i mni mxi
     obtain ⟨v0,v1,v2,v3,v4,v5⟩:=aB k4
     have hi1:(i:Int)<(n2:Int):=by omega
     have IH:=Lib.hid (ih y ⟨ki,Ai,ni,ci,nti,A2i,n2i,c2i,mni,mxi⟩ d1 r R' lo B w4 (by have:=NB.out; omega) (by have:=NB.out; omega) (by have:=NB.out; omega) (by have:=NB.out; omega) (by have:=NB.out; omega) SZ.out.2.1 (hin.below (b4.mono (by have:=t.size; have:=SZ.out; omega))) ((b4.block r hb'.lt).trans hb'))
     have T4:=Lib.hid (show ak (· = r) w w4 from t.trans (ak.aH b4 (fun _=>False)) (fun _ _ h=>h.elim))
     have QQ:=Lib.hid (And.intro q1 (And.intro q4 (And.intro q5 (And.intro hsum (And.intro hms q2)))))
     dsimp only [Nv.v] at IH
     clear t hb' hsum hms hy q1 q2 q3 q4 q5 bw hxi hin nv k4 b4 z4 I
     go_wp2_with fail
     refine IH.out.mono ?_
     rintro e w5 ⟨rfl,t5,r5⟩
     have T5:=Lib.hid (T4.out.trans t5 (fun _ _ h=>h))
     have R5:=Lib.hid r5
     clear IH T4 t5 r5 u0 u1 u2 u3 u4 u5 v0 v1 v2 v3 v4 v5 hw4
     cases hmy:may y
     ·have F:=Lib.hid (QQ.out.2.2.1 hmy)
      go_wp2_with fail
      go_ret
      exact ⟨aC F.out.symm,T5.out,fun h=>by rw [F.out] at h; cases h⟩
     ·have I5:=Lib.hid (show ak (· = r) w w5∧∃R':Nat,Bk w5 3 r #[.int .i64 (R':Int)]∧R'+counts (ks.take (i+1))=R1∧aW (ks.take (i+1))=true from by
       obtain ⟨g1,g4,_,gs,gm,g2⟩:=QQ.out
       refine ⟨T5.out,R' - count y,R5.out hmy,?_,by rw [g4,gm,hmy]; rfl⟩
       have:=NB.out
       omega)
      clear R5 QQ T5
      go_wp2_with fail
      go_roundw
      case rel=>exact ⟨i+1,by first | rfl | (congr 1; done) | (congr 1; omega),by omega,I5⟩
      case measure=>first | (simp [intOf]; done) | (simp [intOf]; omega)
    ·obtain rfl:i=n2:=by omega
     have R:=Lib.hid (show aW ks=true∧ak (· = r) w wr∧Bk wr 3 r #[.int .i64 ((R - (counts ks+1):Nat):Int)] from by
      obtain ⟨t,R',hb',hsum,hms⟩:=I.out
      rw [List.take_of_length_le (by rw [HL.out.1]; exact Nat.le_refl _)] at hsum hms
      refine ⟨hms,t,?_⟩
      have:=NB.out
      rw [show R - (counts ks+1)=R' by omega]
      exact hb')
     clear I
     go_wp2_with fail
     go_ret
     exact ⟨aC R.out.1.symm,R.out.2.1,fun _=>R.out.2.2⟩
theorem Sc (t:Nd) (x:Nv) (lo:Nat) (w:World) (hx:bQ w lo w.heap.size t x) (hd:deep t≤40) (hc:count t≤2000) :
  Calls Tryz.prog 46 #[x.v] w fun e w'=>e=.returned (.bool (may t))∧Below w.heap.size w w':=by
 obtain ⟨k,A,n,c,nt,A2,n2,c2,mn,mx⟩:=x
 obtain ⟨w1,hw1,k1,b1,z1⟩:=bX w k A n c nt A2 n2 c2 mn mx
 obtain ⟨w2,hw2⟩:∃w2,w1.alloc (.cells #[.int .i64 2000] 3)=w2:=⟨_,rfl⟩
 have b2:Below w1.heap.size w1 w2:=by rw [←hw2]; exact (Below.refl _ _).alloc (Nat.le_refl _) _
 have k2:Bk w2 3 w1.heap.size #[.int .i64 ((2000:Nat):Int)]:=by rw [←hw2]; exact heap_alloc_new w1 _
 have k1':=aR.below k1 b2 (by omega)
 obtain ⟨y0,y1,y2,y3,y4,y5⟩:=aB k1'
 have b12:=b1.trans (b2.mono b1.size)
 have MW:=Lib.hid (CU 40 t ⟨k,A,n,c,nt,A2,n2,c2,mn,mx⟩ 40 w1.heap.size 2000 lo w.heap.size w2 hd hd (Nat.le_refl _) hc (Nat.le_refl _) b1.size (hx.below b12) k2)
 rw [z1] at MW
 have B12:=Lib.hid b12
 have Z1:=Lib.hid z1
 dsimp only [Nv.v] at MW ⊢
 clear hx k1 b1 b2 k2 k1' b12
 go_enter Tryz.func46,Tryz.ntmps46
 go_wp2_with fail
 refine MW.out.mono ?_
 rintro e w3 ⟨rfl,t3,_⟩
 have B3:=Lib.hid (B12.out.trans (t3.toBelow B12.out.size (fun k hk e=>by omega)))
 clear t3 MW
 go_wp2_with fail
 go_ret
 exact ⟨rfl,B3.out⟩
end NF
