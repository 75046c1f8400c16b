import Derived.Test.YteemnmalikomgaaGreatDoorQSwLine2
import Derived.Test.YteemnmalikomgaaGreatDoorQSwLine3
set_option maxRecDepth 100000
set_option maxHeartbeats 3200000
namespace Go.Proofs.YteemnmalikomgaaGreatDoor
open Go.ChangeShapes Go.WideShapes Go.ChangeAt Go.RowKit
namespace Ln
theorem Fr.ex {lo hi:Nat} {a0 a:Act} (F:Fr lo hi a0 a) (hlo:lo≤hi) (hhi:hi<a0.tmps.size):∃l:List Value,l.length=hi+1 - lo∧a={ tmps:=(a0.tmps.toList.take lo++(l++a0.tmps.toList.drop (hi+1))).toArray,defers:=a0.defers }:=by
 have hz:=F.size
 have hl:((a.tmps.toList.drop lo).take (hi+1 - lo)).length=hi+1 - lo:=by rw [List.length_take,List.length_drop,Array.length_toList]; omega
 refine ⟨_,hl,F.out hlo hhi _ hl fun j v h=> ?_⟩
 have hj:=(List.getElem?_eq_some_iff.1 h).1
 rw [hl] at hj
 rw [List.getElem?_take,if_pos hj,List.getElem?_drop,Array.getElem?_toList] at h
 exact h
def Xw:List Ord.Line:=[
 (some 36,.load 78 (.tmp 5),none,[]),
 (some 37,.load 3 (.tmp 3),none,[]),
 (some 38,.call { callee:=.value (.func 75),args:= #[.tmp 37],argTypes:= #[3] },none,[1]),
 (some 39,.buildSlice 78 1 #[(0,.tmp 38)],none,[2]),
 (some 40,.call { callee:=.builtin .append,args:= #[.tmp 36,.tmp 39],argTypes:= #[78,78] },none,[0,3,2]),
 (none,.store 78 (.tmp 5) (.tmp 40),none,[4,4,0,1,2,3,4])]
theorem XU {ops:Array Oper} {Rr:Act→World→Prop} {G:World→Value→Prop} (R:Ord.eT ops Xw) {w1:World} {S B m c2:Nat} {A2:Option Addr} {vs:List Value} {x:Value} {i0:TypeInfo} (hi0:Tryz.prog.info? 122=some i0) (hz0:i0.zero=some (.agg #[.slice none 0 0,.bool false])) (hz1:i0.size=2) (hz2:i0.bytes=32)
  (hbox:w1.heap[S]? = some (.cells #[.slice A2 m c2] 78 (0,0))) (C:Calls Tryz.prog 75 #[x] w1 fun e w'=>∃A5 n5 c5 b5,e=.returned (.agg #[.slice A5 n5 c5,.bool b5])∧G w' (.agg #[.slice A5 n5 c5,.bool b5]))
  (hG:∀w' y,G w' y→Laid w1 w'∧w'.ownsRow B 122 2 (.slice A2 m c2) m vs) {bx:Nat} (hbx:w1.heap[bx]? = some (.cells #[x] 3 (0,0))) (hB:∀j,(Value.slice A2 m c2).ownBlock=some j→j≠S) (hBw:B≤w1.heap.size) (b1:m+1≤maxLen) (b2:(m+1)*32≤140737488355328)
  (a:Act) (hz:a.tmps.size=62) (f5:Chain.At a 5 (.pointer (some ⟨S,0,none⟩))) (f3:Chain.At a 3 (.pointer (some ⟨bx,0,none⟩)))
  (h:∀a' w' A5 n5 c5 b5 A4 c4 W4,Fr 36 40 a a'→G w' (.agg #[.slice A5 n5 c5,.bool b5])→W4.ownsRow B 122 2 (.slice A4 (m+1) c4) (m+1) (vs++[.slice A5 n5 c5,.bool b5])→(w'.alloc (.cells #[.slice A5 n5 c5,.bool b5] 122)).grownBy W4 (Value.slice A2 m c2).ownBlock→Rr a' (W4.setCell ⟨S,0,none⟩ (.slice A4 (m+1) c4))) :
  wpAnyH Tryz.prog .any ops (fun e a w=>e=.normal∧Rr a w) (fun _=>True) 6 (List.replicate 6 false).toArray a w1:=by
 have hSw:=(Array.getElem?_eq_some_iff.1 hbox).1
 have hld:∀(w':World) (a:Act),w'.heap[S]? = some (.cells #[.slice A2 m c2] 78 (0,0))→Chain.At a 5 (.pointer (some ⟨S,0,none⟩))→∀ty,(execOp a.eval ⟨some 36,.load 78 (.tmp 5),ty, "",#[],none⟩).run Tryz.prog w'=.ok (.value (.slice A2 m c2)) w':=fun w' a hb f ty=>by
  have q:w'.cell? ⟨S,0,none⟩=some (.slice A2 m c2):=cell_of_row _ _ 0 _ _ (0,0) hb
  have e:=f
  unfold Chain.At at e
  go_simp
 have hbs:∀(w':World) (a:Act) (A5:Option Addr) (n5 c5:Nat) (b5:Bool),Chain.At a 38 (.agg #[.slice A5 n5 c5,.bool b5])→∀ty,(execOp a.eval ⟨some 39,.buildSlice 78 1 #[(0,.tmp 38)],ty, "",#[],none⟩).run Tryz.prog w'=.ok (.value (.slice (some ⟨w'.heap.size,0,none⟩) 1 1)) (w'.alloc (.cells #[.slice A5 n5 c5,.bool b5] 122)):=fun w' a A5 n5 c5 b5 f ty=>by
  have e:=f
  unfold Chain.At at e
  go_simp
 obtain ⟨a0,ha0⟩:∃a0,a0=a:=⟨_,rfl⟩
 have F0:Fr 36 40 a0 a:=ha0 ▸ Fr.refl 36 40 a
 have tail:∀(a:Act) (w':World) (A5:Option Addr) (n5 c5:Nat) (b5:Bool),a.tmps.size=62→Fr 36 40 a0 a→Chain.At a 5 (.pointer (some ⟨S,0,none⟩))→Chain.At a 36 (.slice A2 m c2)→Chain.At a 39 (.slice (some ⟨w'.heap.size,0,none⟩) 1 1)→G w' (.agg #[.slice A5 n5 c5,.bool b5]) →
   wpAnyH Tryz.prog .any ops (fun e a w=>e=.normal∧Rr a w) (fun _=>True) 2 ([true,true,true,true,false,false]).toArray a (w'.alloc (.cells #[.slice A5 n5 c5,.bool b5] 122)):=by
  intro a w' A5 n5 c5 b5 hz F f5 f36 f39 hg
  obtain ⟨hl,hown⟩:=hG _ _ hg
  have hlz:=hl.size
  refine Ord.append R (k:=4) (bs':=[true,true,true,true,true,false]) (.tmp 36) (.tmp 39) 78 rfl (by kernel_rfl) trivial (by rw [hz]; decide) B 122 i0 (.agg #[.slice none 0 0,.bool false]) 2 32 Tryz.underlying78 hi0 hz0 hz1 hz2 rfl (by decide) (.slice A2 m c2) m vs f36.ev (hown.alloc _) (some ⟨w'.heap.size,0,none⟩) 1 1 [.slice A5 n5 c5,.bool b5] f39.ev (w'.heap.size+1) ⟨rfl,fun _=>⟨w'.heap.size,0,rfl,Nat.lt_succ_self _,fun j u hu=> ?_⟩⟩ (by simp [Value.oneCell']) b1 b2 (by simp; omega) ?_
  ·rw [Nat.zero_add,cell_of_row _ _ _ _ _ (0,0) (heap_alloc_new w' _)]
   simpa using hu
  ·intro A4 c4 W4 ho hgr _
   have h4:W4.heap[S]? = some (.cells #[.slice A2 m c2] 78 (0,0)):=(hgr.block S (by simp; omega) (fun e=>hB S e.symm rfl)).trans ((Below.heap_alloc _ _ _ (by omega)).trans ((hl.block S hSw).trans hbox))
   refine ⟨trivial,fun a5 N=> ?_⟩
   have F5:=F.next N (by omega)
   have g5:=N.keep 5 _ (by decide) f5
   have g40:=N.got
   refine Ord.effect R (k:=5) (bs':=[true,true,true,true,true,true]) rfl (by kernel_rfl) trivial trivial (w1:=W4.setCell ⟨S,0,none⟩ (.slice A4 (m+1) c4)) (fun ty=> ?_) ?_
   ·have q:W4.cell? ⟨S,0,none⟩=some (.slice A2 m c2):=cell_of_row _ _ 0 _ _ (0,0) h4
    have fz:=frozen_of_row W4 S 0 _ _ h4
    have e1:=g5
    have e2:=g40
    unfold Chain.At at e1 e2
    go_simp
   ·exact Ord.finish R (by kernel_rfl) ⟨rfl,h _ _ _ _ _ _ _ _ _ (ha0 ▸ F5) hg ho hgr⟩
 have hlx:∀(a:Act),Chain.At a 3 (.pointer (some ⟨bx,0,none⟩))→∀ty,(execOp a.eval ⟨some 37,.load 3 (.tmp 3),ty, "",#[],none⟩).run Tryz.prog w1=.ok (.value x) w1:=fun a f ty=>by
  have q:w1.cell? ⟨bx,0,none⟩=some x:=cell_of_row _ _ 0 _ _ (0,0) hbx
  have e:=f
  unfold Chain.At at e
  go_simp
 refine Ord.either R (i:=0) (j:=1) (bs1:=[true,false,false,false,false,false]) (bs2:=[false,true,false,false,false,false]) (by kernel_rfl) ?_ ?_
 ·refine Ord.iC R (k:=0) rfl trivial trivial (hld w1 a hbox f5) (by rw [hz]; decide) fun a1 N=> ?_
  have hz1:a1.tmps.size=62:=N.size.trans hz
  have F1:=F0.next N (by omega)
  have e3:=N.keep 3 _ (by decide) f3
  have e5:=N.keep 5 _ (by decide) f5
  have e36:=N.got
  refine Ord.value R (k:=1) (bs':=[true,true,false,false,false,false]) rfl (by kernel_rfl) trivial trivial (hlx a1 e3) (by rw [hz1]; decide) fun a2 N=> ?_
  have hz2:a2.tmps.size=62:=N.size.trans hz1
  have F2:=F1.next N (by omega)
  have g5:=N.keep 5 _ (by decide) e5
  have g36:=N.keep 36 _ (by decide) e36
  have g37:=N.got
  refine Ord.call R (k:=2) (bs':=[true,true,true,false,false,false]) (args:= #[x]) rfl (by kernel_rfl) trivial (by simp [g37.ev]) (by kernel_rfl) C (by rw [hz2]; decide) ?_
  rintro e w' ⟨A5,n5,c5,b5,rfl,hg⟩
  refine ⟨_,rfl,trivial,fun a3 N=> ?_⟩
  have hz3:a3.tmps.size=62:=N.size.trans hz2
  have F3:=F2.next N (by omega)
  have k5:=N.keep 5 _ (by decide) g5
  have k36:=N.keep 36 _ (by decide) g36
  have k38:=N.got
  refine Ord.value R (k:=3) (bs':=[true,true,true,true,false,false]) rfl (by kernel_rfl) trivial trivial (hbs w' a3 _ _ _ _ k38) (by rw [hz3]; decide) fun a4 N=> ?_
  exact tail a4 w' _ _ _ _ (N.size.trans hz3) (F3.next N (by omega)) (N.keep 5 _ (by decide) k5) (N.keep 36 _ (by decide) k36) N.got hg
 refine Ord.iC R (k:=1) rfl trivial trivial (hlx a f3) (by rw [hz]; decide) fun a1 N=> ?_
 have hz1:a1.tmps.size=62:=N.size.trans hz
 have F1:=F0.next N (by omega)
 replace f5:=N.keep 5 _ (by decide) f5
 have f37:=N.got
 clear N
 refine Ord.either R (i:=0) (j:=2) (bs1:=[true,true,false,false,false,false]) (bs2:=[false,true,true,false,false,false]) (by kernel_rfl) ?_ ?_
 ·refine Ord.iC R (k:=0) rfl trivial trivial (hld w1 a1 hbox f5) (by rw [hz1]; decide) fun a2 N=> ?_
  have hz2:a2.tmps.size=62:=N.size.trans hz1
  have F2:=F1.next N (by omega)
  have g5:=N.keep 5 _ (by decide) f5
  have g37:=N.keep 37 _ (by decide) f37
  have g36:=N.got
  refine Ord.call R (k:=2) (bs':=[true,true,true,false,false,false]) (args:= #[x]) rfl (by kernel_rfl) trivial (by simp [g37.ev]) (by kernel_rfl) C (by rw [hz2]; decide) ?_
  rintro e w' ⟨A5,n5,c5,b5,rfl,hg⟩
  refine ⟨_,rfl,trivial,fun a3 N=> ?_⟩
  have hz3:a3.tmps.size=62:=N.size.trans hz2
  have F3:=F2.next N (by omega)
  have k5:=N.keep 5 _ (by decide) g5
  have k36:=N.keep 36 _ (by decide) g36
  have k38:=N.got
  refine Ord.value R (k:=3) (bs':=[true,true,true,true,false,false]) rfl (by kernel_rfl) trivial trivial (hbs w' a3 _ _ _ _ k38) (by rw [hz3]; decide) fun a4 N=> ?_
  exact tail a4 w' _ _ _ _ (N.size.trans hz3) (F3.next N (by omega)) (N.keep 5 _ (by decide) k5) (N.keep 36 _ (by decide) k36) N.got hg
 ·refine Ord.Ec R (k:=2) (args:= #[x]) rfl trivial (by simp [f37.ev]) (by kernel_rfl) C (by rw [hz1]; decide) ?_
  rintro e w' ⟨A5,n5,c5,b5,rfl,hg⟩
  have hb':w'.heap[S]? = some (.cells #[.slice A2 m c2] 78 (0,0)):=((hG _ _ hg).1.block S hSw).trans hbox
  refine ⟨_,rfl,trivial,fun a2 N=> ?_⟩
  have hz2:a2.tmps.size=62:=N.size.trans hz1
  have F2:=F1.next N (by omega)
  have g5:=N.keep 5 _ (by decide) f5
  have g38:=N.got
  refine Ord.either R (i:=0) (j:=3) (bs1:=[true,true,true,false,false,false]) (bs2:=[false,true,true,true,false,false]) (by kernel_rfl) ?_ ?_
  ·refine Ord.iC R (k:=0) rfl trivial trivial (hld w' a2 hb' g5) (by rw [hz2]; decide) fun a3 N=> ?_
   have hz3:a3.tmps.size=62:=N.size.trans hz2
   have F3:=F2.next N (by omega)
   have k5:=N.keep 5 _ (by decide) g5
   have k38:=N.keep 38 _ (by decide) g38
   have k36:=N.got
   refine Ord.value R (k:=3) (bs':=[true,true,true,true,false,false]) rfl (by kernel_rfl) trivial trivial (hbs w' a3 _ _ _ _ k38) (by rw [hz3]; decide) fun a4 N=> ?_
   exact tail a4 w' _ _ _ _ (N.size.trans hz3) (F3.next N (by omega)) (N.keep 5 _ (by decide) k5) (N.keep 36 _ (by decide) k36) N.got hg
  ·refine Ord.iC R (k:=3) rfl trivial trivial (hbs w' a2 _ _ _ _ g38) (by rw [hz2]; decide) fun a3 N=> ?_
   have hz3:a3.tmps.size=62:=N.size.trans hz2
   have F3:=F2.next N (by omega)
   have k5:=N.keep 5 _ (by decide) g5
   have k39:=N.got
   refine Ord.value R (k:=0) (bs':=[true,true,true,true,false,false]) rfl (by kernel_rfl) trivial trivial (hld _ a3 ((Below.heap_alloc _ _ _ (by have:=(hG _ _ hg).1.size; omega)).trans hb') k5) (by rw [hz3]; decide) fun a4 N=> ?_
   exact tail a4 w' _ _ _ _ (N.size.trans hz3) (F3.next N (by omega)) (N.keep 5 _ (by decide) k5) N.got (N.keep 39 _ (by decide) k39) hg
end Ln
end Go.Proofs.YteemnmalikomgaaGreatDoor
namespace Go.Proofs.YteemnmalikomgaaGreatDoor
namespace Ln
open Rw
theorem LV (w:Nat) (rows:List LR) (y:Pl):rows.length≤(vU w rows y).length:=by
 unfold vU
 rw [List.length_modify]
 split<;>simp
theorem Rc (w:Nat) (ys:List Pl):1≤(dW w ys).length:=by
 refine jU (P:=fun ys=>1≤(dW w ys).length) (by simp [dW]) (fun l x ih=> ?_) ys
 rw [iH]
 exact Nat.le_trans ih (LV _ _ _)
theorem V5 {w:Nat} (hw:2≤w) (l:List au) (hl:∀x∈l,tY x):∀(k:Nat) (y:Pl),(aJ w l).2[k]? = some y→y.1.1≤(dW w ((aJ w l).2.take k)).length∧y.1.2+(both y.2).length≤w∧tY y.2∧(y.2=iZ∨y.2∈l):=by
 revert hl
 refine jU (P:=fun l=>(∀x∈l,tY x)→∀(k:Nat) (y:Pl),(aJ w l).2[k]? = some y→y.1.1≤(dW w ((aJ w l).2.take k)).length∧y.1.2+(both y.2).length≤w∧tY y.2∧(y.2=iZ∨y.2∈l)) ?_ ?_ l
 ·intro _ k y h
  simp [aJ] at h
 ·intro l x ih hl k y h
  have hl':∀y∈l,tY y:=fun y hy=>hl y (by simp [hy])
  have hx:=hl x (by simp)
  have hbx:=kW hx
  have hpad:(both iZ).length=1:=by decide
  have hwx:wd x≤2:=by unfold wd; rcases hx with h | h<;>simp [h]
  obtain ⟨e1,e2,e3⟩:=LQ hw l hl'
  have hlen:(dW w (aJ w l).2).length=(gY w l).1.length+1:=by rw [e3]; unfold jm fill; simp
  have hpr:(aJ w l).1.1=(gY w l).1.length:=by rw [e1]
  rw [jH] at h ⊢
  by_cases hk:k<(aJ w l).2.length
  ·have hsplit:∃T,(gJ w (aJ w l) x).2=(aJ w l).2++T:=by unfold gJ; split<;>exact ⟨_,rfl⟩
   obtain ⟨T,hT⟩:=hsplit
   rw [hT,List.getElem?_append_left hk] at h
   rw [hT,List.take_append_of_le_length (by omega)]
   obtain ⟨h1,h2,h3,h4⟩:=ih hl' k y h
   exact ⟨h1,h2,h3,h4.imp id fun h=>by simp [h]⟩
  ·obtain ⟨d,rfl⟩:∃d,k=(aJ w l).2.length+d:=⟨k - (aJ w l).2.length,by omega⟩
   unfold gJ at h ⊢
   split at h
   ·rename_i hc
    rw [if_pos hc]
    by_cases hp:(aJ w l).1.2<w
    ·simp only [if_pos hp] at h ⊢
     rw [List.getElem?_append_right (by omega)] at h
     rw [List.take_append]
     simp only [Nat.add_sub_cancel_left,List.cons_append,List.nil_append] at h ⊢
     rw [List.take_of_length_le (by omega)]
     match d,h with
     | 0,h =>
      simp at h
      subst h
      exact ⟨by simp [hlen,hpr],by simp only [hpad]; omega,.inl rfl,.inl rfl⟩
     | 1,h =>
      simp at h
      subst h
      refine ⟨?_,by simp only [hbx]; omega,hx,.inr (by simp)⟩
      rw [show List.take 1 [((aJ w l).1,iZ),(((aJ w l).1.1+1,0),x)]=[((aJ w l).1,iZ)] from rfl,iH]
      have:=LV w (dW w (aJ w l).2) ((aJ w l).1,iZ)
      simp only
      omega
     | d+2,h=>simp at h
    ·simp only [if_neg hp,List.nil_append] at h ⊢
     rw [List.getElem?_append_right (by omega)] at h
     rw [List.take_append]
     simp only [Nat.add_sub_cancel_left] at h ⊢
     rw [List.take_of_length_le (by omega)]
     match d,h with
     | 0,h =>
      simp at h
      subst h
      exact ⟨by simp [hlen,hpr],by simp only [hbx]; omega,hx,.inr (by simp)⟩
     | d+1,h=>simp at h
   ·rename_i hc
    rw [if_neg hc]
    simp only at h ⊢
    rw [List.getElem?_append_right (by omega)] at h
    rw [List.take_append]
    simp only [Nat.add_sub_cancel_left] at h ⊢
    rw [List.take_of_length_le (by omega)]
    match d,h with
    | 0,h =>
     simp at h
     subst h
     exact ⟨by simp [hlen,hpr],by simp only [hbx]; omega,hx,.inr (by simp)⟩
    | d+1,h=>simp at h
end Ln
end Go.Proofs.YteemnmalikomgaaGreatDoor
namespace Go.Proofs.YteemnmalikomgaaGreatDoor
open Go.ChangeShapes Go.WideShapes Go.ChangeAt Go.RowKit
namespace Ln
open Rw
theorem Uv (A:Option Addr) (n c:Nat) (l:List au) (w:World) (hs:dw w) (hl:∀c∈l,-2147483648≤c.1∧c.1≤2147483647) (hq:Sq w w.heap.size 3 n A (flat l)) (hn:n≤1000000) :
  Calls Tryz.prog 74 #[.slice A n c] w fun e w'=>e=.returned (.bool (gK l))∧Below w.heap.size w w':=by
 have hll:l.length=n:=by have:=hq.len; rw [aX] at this; omega
 have LN:=Lib.hid hll
 have S:=Lib.hid hs
 have Q:=Lib.hid hq
 have HL:=Lib.hid hl
 have I0:=Lib.hid (Below.refl w.heap.size w)
 obtain ⟨B,hB⟩:∃B,gK l=B:=⟨_,rfl⟩
 have E0:=Lib.hid (show gK (l.drop 0)=B from hB)
 rw [hB]
 clear hs hq hl hB hll
 go_enter Tryz.func74,Tryz.ntmps74
 go_wp2
 go_loopw [7] (fun i wr=>∃k:Nat,i=.int .i64 k∧k≤n∧Hid (Below w.heap.size w wr)∧Hid (gK (l.drop k)=B)) (fun i _=>n - (intOf i).toNat)
 case atStart=>exact ⟨0,rfl,Nat.zero_le _,I0,E0⟩
 case round =>
  obtain ⟨k,rfl,hk,I,E⟩:=hrel
  clear I0 E0
  by_cases hlt:k<n
  ·obtain ⟨b,off,rfl,hb,⟨r,m,a⟩,hcc,q0,q1,q2⟩:=(Q.out.below I.out).three hlt
   have hr:=HL.out _ (List.mem_of_getElem? hcc)
   obtain ⟨g,hg⟩:∃g,hasB r m a=g:=⟨_,rfl⟩
   obtain ⟨g2,hg2⟩:∃g2,iK (r,m,a)=g2:=⟨_,rfl⟩
   have SG:=Lib.hid (wJ r m a)
   have MG:=Lib.hid (KR r m a hr.1 hr.2)
   rw [hg] at SG
   rw [hg2] at MG
   have EE:=Lib.hid (show (g && g2 && gK (l.drop (k+1)))=B from by
    have:=E.out
    obtain ⟨h1,h2⟩:=List.getElem?_eq_some_iff.1 hcc
    rw [List.drop_eq_getElem_cons h1,h2] at this
    unfold gK at this
    rw [List.all_cons] at this
    unfold qF at this
    simp only [hg,hg2] at this
    exact this)
   have IZ:=Lib.hid I.out.size
   have b1:Below wr.heap.size wr (wr.alloc (.cells #[.int .i32 r,.int .i64 m,.int .i64 a] 76)):=(Below.refl _ _).alloc (Nat.le_refl _) _
   have C1:=Lib.hid (heap_alloc_new wr (.cells #[.int .i32 r,.int .i64 m,.int .i64 a] 76))
   have I1:=Lib.hid (I.out.trans (b1.mono I.out.size))
   clear hcc hr hg hg2 b1 I
   cases g
   ·have RB:=Lib.hid (show B=false from by have:=EE.out; simpa using this.symm)
    go_wp2_with fail
    refine (SG.out _).mono ?_
    rintro e w2 ⟨rfl,b2⟩
    have I2:=Lib.hid (I1.out.trans (b2.mono I1.out.size))
    clear b2 SG MG q0 q1 q2 C1
    go_wp2_with fail
    go_ret
    exact ⟨aC RB.out.symm,I2.out⟩
   ·go_wp2_with fail
    refine (SG.out _).mono ?_
    rintro e w2 ⟨rfl,b2⟩
    have I2:=Lib.hid (I1.out.trans (b2.mono I1.out.size))
    have c2:=(b2.block wr.heap.size (by simp)).trans C1.out
    have k0:w2.cell? ⟨wr.heap.size,0,none⟩=some (.int .i32 r):=cell_of_row _ _ 0 _ _ (0,0) c2
    have k1:w2.cell? ⟨wr.heap.size,1,none⟩=some (.int .i64 m):=cell_of_row _ _ 1 _ _ (0,0) c2
    have k2:w2.cell? ⟨wr.heap.size,2,none⟩=some (.int .i64 a):=cell_of_row _ _ 2 _ _ (0,0) c2
    clear b2 SG q0 q1 q2 C1 c2
    go_wp2_with fail
    refine (MG.out w2 (S.out.below I2.out S.out.size)).mono ?_
    rintro e w3 ⟨rfl,b3⟩
    have I3:=Lib.hid (I2.out.trans (b3.mono I2.out.size))
    clear b3 MG k0 k1 k2
    cases g2
    ·have RB:=Lib.hid (show B=false from by have:=EE.out; simpa using this.symm)
     go_wp2
     go_ret
     exact ⟨aC RB.out.symm,I3.out⟩
    ·have E2:=Lib.hid (show gK (l.drop (k+1))=B from by have:=EE.out; simpa using this)
     go_wp2
     go_roundw
     case rel=>exact ⟨k+1,by go_num,by omega,I3,E2⟩
     case measure=>simp [intOf]; omega
  ·obtain rfl:k=n:=by omega
   have RB:=Lib.hid (show B=true from by
    have h1:=E.out
    rw [List.drop_eq_nil_of_le (by rw [LN.out]; exact Nat.le_refl _)] at h1
    exact h1.symm)
   go_wp2
   go_ret
   exact ⟨aC RB.out.symm,I.out⟩
end Ln
