import Derived.Test.YteemnmalikomgaaGreatDoorQSwBase0
import Derived.Laws.Cover4
import Derived.Carry
import Derived.ChangeOld
import Derived.Test.YteemnmalikomgaaGreatDoorCards
import Derived.Test.YteemnmalikomgaaGreatDoorTie
import Derived.ClosedOfChecked
set_option maxRecDepth 100000
set_option maxHeartbeats 1600000
namespace Go.Proofs.YteemnmalikomgaaGreatDoor
open Go.ChangeShapes Go.WideShapes Go.ChangeAt Go.RowKit
theorem Jz (b base:Nat) (v:Value) (xs:List Int) (x:Int) (hx0:0≤x) (hx1:x≤255) (h128:x<128) (w:World) (st:St) (h:Rd w b st) (hv:Has w base v xs) (hvb:v.ownBlock≠some b) (hn:xs.length≤1099511627776) (hbase:base≤w.heap.size) :
  Calls Tryz.prog 132 #[.pointer (some ⟨b,0,none⟩),v,.int .u8 x] w fun e w'=>Told base b v (xs++[x]) st w e w':=by
 obtain ⟨i0,hi,hz0,hz1,hz2⟩:=info_parts sK
 obtain ⟨A,c,rfl⟩:=hv.shape
 have HO:w.ownsRow base 21 1 (.slice A xs.length c) xs.length (xs.map (Value.int .i32)):=hv
 have HV:=Lib.hid hvb
 clear hvb hv
 go_enter Tryz.func132,Tryz.ntmps132
 go_wp2_with (at_builtin; refine wpList_append_own_at _ rfl _ _ 23 rfl base 21 i0 (.int .i32 0) 1 4 Tryz.underlying23 hi hz0 hz1 hz2 rfl (by decide) (.slice A xs.length c) xs.length _ rfl (HO.alloc _) ⟨w.heap.size,0,none⟩ 1 1 [.int .i32 x] rfl rfl (iI rfl _ _) (lq _) (uo hn) (uq hn) (by simp; omega) ?_; intro v' w1 hown' hgrow _ hat)
 go_wp2
 go_ret
 exact Gg h hown' HV.out hgrow hat
theorem OP (b base:Nat) (v:Value) (xs:List Int) (x:Int) (hx0:0≤x) (hx1:x≤255) (h128:128≤x) (w:World) (st:St) (h:Rd w b st) (hv:Has w base v xs) (hvb:v.ownBlock≠some b) (hn:xs.length≤1099511627776) (hbase:base≤w.heap.size) (hf:iT x=(0,0,0)) :
  Calls Tryz.prog 132 #[.pointer (some ⟨b,0,none⟩),v,.int .u8 x] w fun e w'=>Told base b v (xs++[65533]) st w e w':=by
 have FW:=y9 x hx0 hx1 w
 rw [hf] at FW
 have FWH:=Lib.hid FW
 obtain ⟨i0,hi,hz0,hz1,hz2⟩:=info_parts sK
 obtain ⟨A,c,rfl⟩:=hv.shape
 have HO:w.ownsRow base 21 1 (.slice A xs.length c) xs.length (xs.map (Value.int .i32)):=hv
 have HV:=Lib.hid hvb
 clear hvb hv FW hf
 go_enter Tryz.func132,Tryz.ntmps132
 go_wp2_with (first
  | (go_at_call 173; refine FWH.out.mono ?_; rintro e w' ⟨rfl,rfl⟩)
  | (at_builtin; refine wpList_append_own_at _ rfl _ _ 23 rfl base 21 i0 (.int .i32 0) 1 4 Tryz.underlying23 hi hz0 hz1 hz2 rfl (by decide) (.slice A xs.length c) xs.length _ rfl (HO.alloc _) ⟨w.heap.size,0,none⟩ 1 1 [.int .i32 65533] rfl rfl (iI rfl _ _) (lq _) (uo hn) (uq hn) (by simp; omega) ?_; intro v' w1 hown' hgrow _ hat))
 go_wp2
 go_ret
 exact Gg h hown' HV.out hgrow hat
theorem OQ (b base:Nat) (v:Value) (xs:List Int) (x:Int) (hx0:0≤x) (hx1:x≤255) (w:World) (h:Rd w b st0) (hv:Has w base v xs) (hvb:v.ownBlock≠some b) (hn:xs.length≤1099511627776) (hbase:base≤w.heap.size) :
  Calls Tryz.prog 132 #[.pointer (some ⟨b,0,none⟩),v,.int .u8 x] w fun e w'=>Told base b v (xs++gW x) (fQ x) w e w':=by
 by_cases h128:x<128
 ·have e1:gW x=[x]:=by simp [gW,h128]
  have e2:fQ x=st0:=by simp [fQ,h128]
  rw [e1,e2]
  exact Jz b base v xs x hx0 hx1 h128 w st0 h hv hvb hn hbase
 ·rcases ig x with ⟨_,e⟩ | ⟨_,_,e⟩ | ⟨_,e⟩ | ⟨_,e⟩ | ⟨_,_,_,e⟩ | ⟨_,e⟩ | ⟨_,_,e⟩ | ⟨_,e⟩
  ·have e1:gW x=[65533]:=by simp [gW,h128,e]
   have e2:fQ x=st0:=by simp [fQ,h128,e]
   rw [e1,e2]
   exact OP b base v xs x hx0 hx1 (by omega) w st0 h hv hvb hn hbase e
  all_goals
   have e1:gW x=[]:=by simp [gW,h128,e]
   rw [e1,List.append_nil]
   exact Md b base v xs x _ _ _ hx0 hx1 (by omega) w st0 h hv hvb e (by simp)
theorem OT (b base:Nat) (v:Value) (xs:List Int) (x:Int) (hx0:0≤x) (hx1:x≤255) (w:World) (st:St) (h:Rd w b st) (hv:Has w base v xs) (hvb:v.ownBlock≠some b) (hn:xs.length≤1099511627776) (hbase:base≤w.heap.size) (hm:st.missing=1) (hs0:0≤st.sign) (hs1:st.sign<131072) :
  Calls Tryz.prog 131 #[.pointer (some ⟨b,0,none⟩),v,.int .u8 x] w fun e w'=>Told base b v (xs++[st.sign*64+x % 64]) st0 w e w':=by
 obtain ⟨i0,hi,hz0,hz1,hz2⟩:=info_parts sK
 obtain ⟨A,c,rfl⟩:=hv.shape
 have c0:w.cell? ⟨b,0,none⟩=some (.int .i32 st.sign):=h.cell 0
 have c1:w.cell? ⟨b,1,none⟩=some (.int .i64 st.waits):=h.cell 1
 have c2:w.cell? ⟨b,2,none⟩=some (.int .i64 1):=by rw [←hm]; exact h.cell 2
 have c3:w.cell? ⟨b,3,none⟩=some (.int .u8 st.low):=h.cell 3
 have c4:w.cell? ⟨b,4,none⟩=some (.int .u8 st.high):=h.cell 4
 have f0:=h.free 0
 have f1:=h.free 1
 have f2:=h.free 2
 have f3:=h.free 3
 have f4:=h.free 4
 have e1:=u8_and63 x hx0 (show x<256 by omega)
 have e2:bits .or .i32 (st.sign*64) (x % 64)=st.sign*64+x % 64:=i32_or6 _ _ (by omega) (by omega) (by omega) (by omega) (by omega)
 have HO:(((((w.setCell ⟨b,0,none⟩ (.int .i32 0)).setCell ⟨b,1,none⟩ (.int .i64 0)).setCell ⟨b,2,none⟩ (.int .i64 0)).setCell ⟨b,3,none⟩ (.int .u8 0)).setCell ⟨b,4,none⟩ (.int .u8 0)).ownsRow base 21 1 (.slice A xs.length c) xs.length (xs.map (Value.int .i32)):=KE st0 hv hvb
 have HV:=Lib.hid hvb
 clear hvb hv hm
 go_enter Tryz.func131,Tryz.ntmps131
 go_wp2_with (at_builtin; refine wpList_append_own_at _ rfl _ _ 23 rfl base 21 i0 (.int .i32 0) 1 4 Tryz.underlying23 hi hz0 hz1 hz2 rfl (by decide) (.slice A xs.length c) xs.length _ rfl (HO.alloc _) ⟨w.heap.size,0,none⟩ 1 1 [.int .i32 (st.sign*64+x % 64)] rfl rfl (iI (wH w b st0) _ _) (lq _) (uo hn) (uq hn) (DV hbase b st0 _) ?_; intro v' w1 hown' hgrow _ hat)
 go_wp2
 go_ret
 exact Gf h pG hown' HV.out hgrow hat
theorem OU {base b:Nat} {v:Value} {xs:List Int} {st':St} {w:World} {e:Ending} {w':World} (h:Told base b v xs st' w e w'):Told base b v xs st' w e w'.drew:=by
 obtain ⟨v',e1,a1,a2,a3,a4⟩:=h
 exact ⟨v',e1,a1,⟨a2.row,a2.ok⟩,⟨a3.os,a3.tape,a3.output,a3.size,a3.block⟩,a4⟩
theorem OV (b base:Nat) (v:Value) (xs:List Int) (x:Int) (hx0:0≤x) (hx1:x≤255) (w:World) (st:St) (h:Rd w b st) (hv:Has w base v xs) (hvb:v.ownBlock≠some b) (hm:2≤st.missing) (hm3:st.missing≤3) (hp:0<st.waits) (hw3:st.waits≤3) (hs0:0≤st.sign) (hs1:st.sign<131072) :
  Calls Tryz.prog 131 #[.pointer (some ⟨b,0,none⟩),v,.int .u8 x] w fun e w'=>Told base b v xs (oF st x) w e w':=by
 have hok:=OM st x h.ok hp hx0
 have T:=Gh (st':=oF st x) h hok hv hvb
 have c0:w.cell? ⟨b,0,none⟩=some (.int .i32 st.sign):=h.cell 0
 have c1:w.cell? ⟨b,1,none⟩=some (.int .i64 st.waits):=h.cell 1
 have c2:w.cell? ⟨b,2,none⟩=some (.int .i64 st.missing):=h.cell 2
 have c3:w.cell? ⟨b,3,none⟩=some (.int .u8 st.low):=h.cell 3
 have c4:w.cell? ⟨b,4,none⟩=some (.int .u8 st.high):=h.cell 4
 have f0:=h.free 0
 have f1:=h.free 1
 have f2:=h.free 2
 have f3:=h.free 3
 have f4:=h.free 4
 have e1:=u8_and63 x hx0 (show x<256 by omega)
 have e2:bits .or .i32 (st.sign*64) (x % 64)=st.sign*64+x % 64:=i32_or6 _ _ (by omega) (by omega) (by omega) (by omega) (by omega)
 have hb:oF st x=⟨st.sign*64+x % 64,st.waits+1,st.missing - 1,128,191⟩:=by
  have h1:¬st.missing=1:=by omega
  simp [oF,h1]
 rw [hb] at T ⊢
 have TH:=Lib.hid T
 clear T hb hok h hv hvb
 go_enter Tryz.func131,Tryz.ntmps131
 go_wp2
 go_region
 all_goals go_wp2
 all_goals go_ret
 all_goals exact OU TH.out
theorem Rv (b base:Nat) (v:Value) (xs:List Int) (x:Int) (hx0:0≤x) (hx1:x≤255) (w:World) (st:St) (h:Rd w b st) (hv:Has w base v xs) (hvb:v.ownBlock≠some b) (hn:xs.length≤1099511627776) (hbase:base≤w.heap.size) (hp:0<st.waits) :
  Calls Tryz.prog 131 #[.pointer (some ⟨b,0,none⟩),v,.int .u8 x] w fun e w'=>Told base b v (xs++qK st x) (oF st x) w e w':=by
 have k1:=h.ok.waits
 have k2:=h.ok.missing
 have k3:=h.ok.pos hp
 have k4:=h.ok.sign
 by_cases hm:st.missing=1
 ·have e1:qK st x=[st.sign*64+x % 64]:=by simp [qK,hm]
  have e2:oF st x=st0:=by simp [oF,hm]
  rw [e1,e2]
  exact OT b base v xs x hx0 hx1 w st h hv hvb hn hbase hm k4.1 (by omega)
 ·have e1:qK st x=[]:=by simp [qK,hm]
  rw [e1,List.append_nil]
  exact OV b base v xs x hx0 hx1 w st h hv hvb (by omega) k2.2 hp k1.2 k4.1 (by omega)
theorem Told.shape {base b:Nat} {v:Value} {xs:List Int} {st':St} {w:World} {e:Ending} {w':World} (h:Told base b v xs st' w e w'):∃v',e=.returned v'∧Has w' base v' xs∧Rd w' b st'∧Kept (some b) v.ownBlock w w'∧(v'.ownBlock=v.ownBlock∨∃k,v'.ownBlock=some k∧w.heap.size≤k):=h
theorem Rx {base b:Nat} {v v1:Value} {xs ys:List Int} {st1 st2:St} {w w1:World} {e:Ending} {w2:World} (hk:Kept (some b) v.ownBlock w w1) (ha:v1.ownBlock=v.ownBlock∨∃k,v1.ownBlock=some k∧w.heap.size≤k) (h2:Told base b v1 ys st2 w1 e w2) (_:Told base b v xs st1 w (.returned v1) w1):Told base b v ys st2 w e w2:=by
 obtain ⟨v2,rfl,a1,a2,a3,a4⟩:=h2
 refine ⟨v2,rfl,a1,a2,⟨a3.os.trans hk.os,a3.tape.trans hk.tape,a3.output.trans hk.output,Nat.le_trans hk.size a3.size,fun k h0 h1 h2=> ?_⟩,?_⟩
 ·rw [a3.block k (Nat.lt_of_lt_of_le h0 hk.size) h1 ?_]
  ·exact hk.block k h0 h1 h2
  ·rcases ha with e | ⟨j,e,hj⟩
   ·rw [e]; exact h2
   ·rw [e]; intro e'; injection e' with e'; omega
 ·rcases a4 with e | ⟨j,e,hj⟩
  ·rcases ha with e' | ⟨j,e',hj⟩
   ·exact .inl (e.trans e')
   ·exact .inr ⟨j,e.trans e',hj⟩
  ·exact .inr ⟨j,e,Nat.le_trans hk.size hj⟩
theorem U5 {b:Nat} {v v1:Value} {w:World} (hvb:v.ownBlock≠some b) (hb:b<w.heap.size) (ha:v1.ownBlock=v.ownBlock∨∃k,v1.ownBlock=some k∧w.heap.size≤k):v1.ownBlock≠some b:=by
 rcases ha with e | ⟨j,e,hj⟩
 ·rw [e]; exact hvb
 ·rw [e]; intro e'; injection e' with e'; omega
theorem U6 (b base:Nat) (v:Value) (xs:List Int) (x:Int) (hx0:0≤x) (hx1:x≤255) (w:World) (st:St) (h:Rd w b st) (hv:Has w base v xs) (hvb:v.ownBlock≠some b) (hn:xs.length≤1099511627776) (hbase:base≤w.heap.size) (hp:0<st.waits) (hlo:st.low≤x) (hhi:x≤st.high) :
  Calls Tryz.prog 86 #[.pointer (some ⟨b,0,none⟩),v,.int .u8 x] w fun e w'=>Told base b v (xs++qK st x) (oF st x) w e w':=by
 have C:=Rv b base v xs x hx0 hx1 w st h hv hvb hn hbase hp
 have CH:=Lib.hid C
 have c1:w.cell? ⟨b,1,none⟩=some (.int .i64 st.waits):=h.cell 1
 have c3:w.cell? ⟨b,3,none⟩=some (.int .u8 st.low):=h.cell 3
 have c4:w.cell? ⟨b,4,none⟩=some (.int .u8 st.high):=h.cell 4
 clear C h hv hvb
 go_enter Tryz.func86,Tryz.ntmps86
 go_wp2_with (go_at_call 131; refine CH.out.mono ?_; rintro e w' ⟨v',rfl,ht⟩)
 go_ret
 exact ⟨v',rfl,ht⟩
theorem Ry (b base:Nat) (v:Value) (xs:List Int) (x:Int) (hx0:0≤x) (hx1:x≤255) (w:World) (st:St) (h:Rd w b st) (hv:Has w base v xs) (hvb:v.ownBlock≠some b) (hn:xs.length+1≤1099511627776) (hbase:base≤w.heap.size) (hp:st.waits=0∨(0<st.waits∧x<st.low)∨(0<st.waits∧st.low≤x∧st.high<x)) :
  Calls Tryz.prog 86 #[.pointer (some ⟨b,0,none⟩),v,.int .u8 x] w fun e w'=>Told base b v (xs++(brk st++gW x)) (fQ x) w e w':=by
 have C:=wI b base v xs w st h hv hvb (by omega) hbase
 have CH:=Lib.hid C
 have D:∀v1 w1,Told base b v (xs++brk st) st0 w (.returned v1) w1→Calls Tryz.prog 132 #[.pointer (some ⟨b,0,none⟩),v1,.int .u8 x] w1 fun e w'=>Told base b v (xs++(brk st++gW x)) (fQ x) w e w':=by
  intro v1 w1 ht
  obtain ⟨v',e,a1,a2,a3,a4⟩:=ht.shape
  injection e with e
  subst e
  have hl:(xs++brk st).length≤1099511627776:=by
   have:(brk st).length≤1:=by unfold brk; split<;>simp
   simp; omega
  refine (OQ b base v1 (xs++brk st) x hx0 hx1 w1 a2 a1 (U5 hvb h.lt a4) hl (Nat.le_trans hbase a3.size)).mono fun e w2 h2=> ?_
  rw [←List.append_assoc]
  exact Rx a3 a4 h2 ht
 have DH:=Lib.hid D
 have c1:w.cell? ⟨b,1,none⟩=some (.int .i64 st.waits):=h.cell 1
 have c3:w.cell? ⟨b,3,none⟩=some (.int .u8 st.low):=h.cell 3
 have c4:w.cell? ⟨b,4,none⟩=some (.int .u8 st.high):=h.cell 4
 clear C D h hv hvb
 rcases hp with hp | ⟨hp,hq⟩ | ⟨hp,hq,hq'⟩
 ·rw [hp] at c1
  have HP:=Lib.hid hp
  clear hp
  go_enter Tryz.func86,Tryz.ntmps86
  go_wp2_with (first
   | (go_at_call 87; refine CH.out.mono ?_; rintro e w1 ⟨v1,rfl,ht⟩)
   | (go_at_call 132; refine (DH.out v1 w1 ⟨v1,rfl,ht⟩).mono ?_; rintro e w2 ⟨v2,rfl,ht2⟩))
  go_ret
  exact ⟨v2,rfl,ht2⟩
 all_goals
  go_enter Tryz.func86,Tryz.ntmps86
  go_wp2_with (first
   | (go_at_call 87; refine CH.out.mono ?_; rintro e w1 ⟨v1,rfl,ht⟩)
   | (go_at_call 132; refine (DH.out v1 w1 ⟨v1,rfl,ht⟩).mono ?_; rintro e w2 ⟨v2,rfl,ht2⟩))
  go_ret
  exact ⟨v2,rfl,ht2⟩
theorem Rz (b base:Nat) (v:Value) (xs:List Int) (x:Int) (hx0:0≤x) (hx1:x≤255) (w:World) (st:St) (h:Rd w b st) (hv:Has w base v xs) (hvb:v.ownBlock≠some b) (hn:xs.length+1≤1099511627776) (hbase:base≤w.heap.size) :
  Calls Tryz.prog 86 #[.pointer (some ⟨b,0,none⟩),v,.int .u8 x] w fun e w'=>Told base b v (xs++kL st x) (jc st x) w e w':=by
 by_cases g:goes st x
 ·have e1:kL st x=qK st x:=by simp [kL,g]
  have e2:jc st x=oF st x:=by simp [jc,g]
  rw [e1,e2]
  exact U6 b base v xs x hx0 hx1 w st h hv hvb (by omega) hbase g.1 g.2.1 g.2.2
 ·have e1:kL st x=brk st++gW x:=by simp [kL,g]
  have e2:jc st x=fQ x:=by simp [jc,g]
  rw [e1,e2]
  have k:=h.ok.waits
  refine Ry b base v xs x hx0 hx1 w st h hv hvb hn hbase ?_
  unfold goes at g
  omega
theorem OY (b:Nat) (w:World) (st:St) (h:Rd w b st) :
  Calls Tryz.prog 122 #[.pointer (some ⟨b,0,none⟩)] w fun e w'=>e=.returned (.int .i64 st.waits)∧w=w':=by
 have c1:w.cell? ⟨b,1,none⟩=some (.int .i64 st.waits):=h.cell 1
 clear h
 go_enter Tryz.func122,Tryz.ntmps122
 go_wp2
 go_ret
 exact ⟨rfl,rfl⟩
theorem Has.lower {w:World} {base base':Nat} {v:Value} {xs:List Int} (h:Has w base v xs) (hb:base'≤base):Has w base' v xs:=by
 refine ⟨h.1,?_⟩
 rcases h.2 with e | ⟨g,cap,cur,e1,e2,r⟩
 ·exact .inl e
 ·exact .inr ⟨g,cap,cur,e1,Nat.le_trans hb e2,r⟩
theorem Has.below {w w':World} {B base:Nat} {v:Value} {xs:List Int} (h:Has w base v xs) (hb:Below B w w') (hv:∀k,v.ownBlock=some k→k<B):Has w' base v xs:=by
 refine ⟨h.1,?_⟩
 rcases h.2 with e | ⟨g,cap,cur,rfl,e2,e3,r⟩
 ·exact .inl e
 ·exact .inr ⟨g,cap,cur,rfl,e2,(hb.block g (hv g rfl)).trans e3,r⟩
theorem Has.ne {w:World} {base b:Nat} {v:Value} {xs:List Int} (h:Has w base v xs) (hb:b<base):v.ownBlock≠some b:=fun e=>by
 have:=(World.ownsRow.lt h b e).1; omega
theorem Has.lt {w:World} {base:Nat} {v:Value} {xs:List Int} (h:Has w base v xs):∀k,v.ownBlock=some k→k<w.heap.size:=fun k e=>(World.ownsRow.lt h k e).2
theorem Has.sq {w:World} {base:Nat} {A:Option Addr} {n c:Nat} {xs:List Int} (h:Has w base (.slice A n c) xs):n=xs.length∧Sq w w.heap.size 1 n A (xs.map (Value.int .i32)):=by
 obtain ⟨A',c',e⟩:=h.shape
 injection e with e1 e2 e3
 subst e1 e2 e3
 exact ⟨rfl,Sq.own h⟩
theorem Kept.below {b r:Option Nat} {w w':World} {B:Nat} (h:Kept b r w w') (hB:B≤w.heap.size) (hb:∀k,b=some k→B≤k) (hr:∀k,r=some k→B≤k):Below B w w' :=
 ⟨h.os,h.tape,h.output,h.size,fun k hk=>h.block k (by omega) (fun e=>by have:=hb k e.symm; omega) (fun e=>by have:=hr k e.symm; omega)⟩
def U7 (l:List Int) (w:World) (e:Ending) (w':World):Prop:=∃v,e=.returned v∧Has w' w.heap.size v l∧Below w.heap.size w w'
def XA (s:ByteArray) (w:World) (k:Nat) (v:Value) (wr:World):Prop:=k≤s.size∧Has wr (w.heap.size+1) v (bW st0 ((aF s).take k))∧Rd wr w.heap.size (dF st0 ((aF s).take k))∧Below w.heap.size w wr
theorem RH (s:ByteArray) (hs:s.size≤274877906944) (w:World) :
  Calls Tryz.prog 49 #[.string s] w fun e w'=>U7 (lg (aF s)) w e w':=by
 go_enter Tryz.func49,Tryz.ntmps49
 go_wp2
 go_loopw [4,8] (fun v i wr=>∃k:Nat,i=.int .i64 k∧XA s w k v wr) (fun _ i _=>s.size - (intOf i).toNat)
 case atStart =>
  refine ⟨0,rfl,Nat.zero_le _,Has.nothing _ _,⟨?_,pG⟩,(Below.refl _ _).alloc (Nat.le_refl _) _⟩
  exact heap_alloc_new w _
 case round =>
  obtain ⟨k,rfl,hat⟩:=hrel
  by_cases hlt:k<s.size
  ·have hx:=lX s (nth (aF s) k) (by rw [gN (by rw [bB]; exact hlt)]; exact List.getElem_mem _)
   have hnx:=jg s k hlt
   rw [hnx] at hx
   have C:=fun hn=>Rz w.heap.size (w.heap.size+1) u4 (bW st0 ((aF s).take k)) _ hx.1 hx.2 wr _ hat.2.2.1 hat.2.1 (hat.2.1.ne (Nat.lt_succ_self _)) hn hat.2.2.1.lt
   have CH:=Lib.hid (C (by
    have:=nE ((aF s).take k) st0
    have:=List.length_take_le k (aF s)
    omega))
   have NX:=Lib.hid hnx
   clear C hx hnx
   go_wp2_with (go_at_call 86; refine CH.out.mono ?_; rintro e w' ⟨v',rfl,ht⟩)
   go_roundw
   case rel =>
    refine ⟨k+1,by go_num,by omega,?_,?_,?_⟩
    ·rw [DU (by rw [bB]; exact hlt),y7,NX.out]; simpa [bW] using ht.1
    ·rw [DU (by rw [bB]; exact hlt),yZ,NX.out]; exact ht.2.1
    ·exact hat.2.2.2.trans (ht.2.2.1.below (Nat.le_of_lt hat.2.2.1.lt) (fun j e=>by injection e with e; omega) (fun j e=>by have:=(World.ownsRow.lt hat.2.1 j e).1; omega))
   case measure=>simp [intOf]; omega
  ·have hk:(aF s).take k=aF s:=Ru _ (by rw [bB]; omega)
   obtain ⟨_,h1,h2,h3⟩:=hat
   rw [hk] at h1 h2
   have C:=fun hn=>wI w.heap.size (w.heap.size+1) u4 (bW st0 (aF s)) wr _ h2 h1 (h1.ne (Nat.lt_succ_self _)) hn h2.lt
   have CH:=Lib.hid (C (by
    have:=nE (aF s) st0
    rw [bB] at this
    omega))
   have HB:=Lib.hid (fun w' (hkp:Kept (some w.heap.size) u4.ownBlock wr w')=>h3.trans (hkp.below (B:=w.heap.size) (Nat.le_of_lt h2.lt) (fun j e=>by injection e with e; omega) (fun j e=>by have:=(World.ownsRow.lt h1 j e).1; omega)))
   clear C hk h1 h2 h3
   go_wp2_with (go_at_call 87; refine CH.out.mono ?_; rintro e w' ⟨v',rfl,ht⟩)
   go_ret
   exact ⟨v',rfl,Has.lower ht.1 (by omega),HB.out _ ht.2.2.1⟩
def Me (a:Int):Bool:=decide (0≤a) && decide (a≤255)
theorem kP (a:Int) (h0:0≤a) (h1:a≤255) (w:World):Calls Tryz.prog 160 #[.int .i64 a] w fun e w'=>e=.returned (.bool true)∧w=w':=by
 go_enter Tryz.func160,Tryz.ntmps160
 go_wp2
 go_ret
 exact ⟨rfl,rfl⟩
theorem Mf (a:Int) (h:a<0∨255<a) (w:World):Calls Tryz.prog 160 #[.int .i64 a] w fun e w'=>e=.returned (.bool false)∧w=w':=by
 rcases h with h | h
 ·go_enter Tryz.func160,Tryz.ntmps160
  go_wp2
  go_ret
  exact ⟨rfl,rfl⟩
 ·have h0:0≤a:=by omega
  have h1:decide (a≤255)=false:=by simp; omega
  go_enter Tryz.func160,Tryz.ntmps160
  go_wp2
  go_ret
  exact ⟨rfl,rfl⟩
def hasB (r n a:Int):Bool:=(n == 1 || n == 2) && !(jM 0 r n a)
theorem wJ (r n a:Int) (w:World):Calls Tryz.prog 108 #[cellV r n a] w fun e w'=>e=.returned (.bool (hasB r n a))∧Below w.heap.size w w':=by
 obtain ⟨B,hB⟩:∃B,hasB r n a=B:=⟨_,rfl⟩
 rw [hB]
 unfold hasB at hB
 obtain ⟨p,hp⟩:∃p,jM 0 r n a=p:=⟨_,rfl⟩
 rw [hp] at hB
 have P:=fun w=>um r n a w
 rw [hp] at P
 have PH:=Lib.hid P
 clear P hp
 cases h1:(n == 1)<;>cases h2:(n == 2)<;>rw [h1,h2] at hB<;>cases p<;>obtain rfl:=hB
 all_goals
  go_enter Tryz.func108,Tryz.ntmps108
  go_wp2_with (go_at_call 126; refine (PH.out _).mono ?_; rintro e w' ⟨rfl,hb⟩)
  go_ret
  first
   | exact ⟨rfl,((Below.refl _ _).alloc (Nat.le_refl _) _).trans (hb.mono (by simp))⟩
   | exact ⟨rfl,(Below.refl _ _).alloc (Nat.le_refl _) _⟩
def flat:List (Int×Int×Int)→List Value
 | []=>[]
 | c::l=>.int .i32 c.1::.int .i64 c.2.1::.int .i64 c.2.2::flat l
theorem aX (l:List (Int×Int×Int)):(flat l).length=l.length*3:=by
 induction l with
 | nil=>rfl
 | cons c l ih=>simp only [flat,List.length_cons,ih]; omega
theorem gL (l m:List (Int×Int×Int)):flat (l++m)=flat l++flat m:=by
 induction l with
 | nil=>rfl
 | cons c l ih=>simp only [List.cons_append,flat,ih]
def cZ (w:World) (base:Nat) (v:Value) (l:List (Int×Int×Int)):Prop:=w.ownsRow base 76 3 v l.length (flat l)
def fC (r a:Int):List (Int×Int×Int):=if Me a then (if eZ r=1 then [(r,1,a)] else if eZ r=2 then [(r,2,a),(0,0,a)] else []) else []
def OZ (l:List (Int×Int×Int)) (w:World) (e:Ending) (w':World):Prop:=∃v,e=.returned v∧cZ w' w.heap.size v l∧Below w.heap.size w w'
theorem KI (w:World) (e:TypeId) (size n:Nat) (cs:Array Value) (hs:cs.size=n*size) (hn:n≤1099511627776):(w.alloc (.cells cs e)).ownsRow w.heap.size e size (.slice (some ⟨w.heap.size,0,none⟩) n n) n cs.toList:=by
 refine ⟨by rw [Array.length_toList,hs],.inr ⟨w.heap.size,n,cs,rfl,Nat.le_refl _,heap_alloc_new w _,Nat.le_refl _,by unfold maxLen; omega,hs,?_⟩⟩
 rw [←hs,←Array.length_toList]; exact List.take_length
theorem RJ (a:Int) (h0:0≤a) (h1:a≤255) (w:World):Calls Tryz.prog 109 #[cellV 0 0 a] w fun e w'=>e=.returned (.bool true)∧Below w.heap.size w w':=by
 go_enter Tryz.func109,Tryz.ntmps109
 go_wp2_with (go_at_call 160; refine (kP a h0 h1 _).mono ?_; rintro e w' ⟨rfl,rfl⟩)
 go_ret
 exact ⟨rfl,(Below.refl _ _).alloc (Nat.le_refl _) _⟩
theorem RQ (r n a:Int) (h0:0≤a) (h1:a≤255) (hr0 : -2147483648≤r) (hr1:r≤2147483647) (hn:eZ r=n) (hn0:n=1∨n=2) (w:World) (hs:dw w):Calls Tryz.prog 109 #[cellV r n a] w fun e w'=>e=.returned (.bool true)∧Below w.heap.size w w':=by
 have F:=fun w hs=>KA r hr0 hr1 w hs
 rw [hn] at F
 have FH:=Lib.hid F
 have hz:(n == 0)=false:=by rcases hn0 with rfl | rfl<;>rfl
 have SA:=hs.below ((Below.refl w.heap.size w).alloc (Nat.le_refl _) (.cells #[.int .i32 r,.int .i64 n,.int .i64 a] 76)) hs.size
 have SH:=Lib.hid SA
 clear F hn hs hn0 SA
 go_enter Tryz.func109,Tryz.ntmps109
 go_wp2_with (go_at_call 160; refine (kP a h0 h1 _).mono ?_; rintro e w' ⟨rfl,rfl⟩)
 go_region_with (go_at_call 123; refine (FH.out _ (by first | exact SH.out | exact dw.drew SH.out | exact dw.drew (dw.drew SH.out))).mono ?_; rintro e w' ⟨rfl,rfl⟩)
 all_goals go_wp2
 all_goals go_ret
 all_goals first
  | exact ⟨rfl,(Below.refl _ _).alloc (Nat.le_refl _) _⟩
  | exact ⟨rfl,((Below.refl _ _).alloc (Nat.le_refl _) _).drew⟩
structure Good (c:Int×Int×Int):Prop where
 sign : -2147483648≤c.1∧c.1≤2147483647
 wide:eZ c.1=c.2.1
 two:c.2.1=1∨c.2.1=2
 attr:0≤c.2.2∧c.2.2≤255
theorem Good.has {c:Int×Int×Int} (h:Good c):hasB c.1 c.2.1 c.2.2=true:=by
 have h0:c.1≠0:=fun e=>by
  have:=h.wide; rw [e] at this
  rcases h.two with k | k<;>rw [k] at this<;>exact absurd this (by decide)
 have hb:(c.1 == 0)=false:=by simpa using h0
 rcases h.two with k | k<;>simp [hasB,jM,hb,k]
theorem Sq.three {w:World} {B n:Nat} {A:Option Addr} {l:List (Int×Int×Int)} (h:Sq w B 3 n A (flat l)) {i:Nat} (hi:i<n) :
  ∃b off,A=some ⟨b,off,none⟩∧b<B∧∃c,l[i]? = some c∧w.cell? ⟨b,off+i*3,none⟩=some (.int .i32 c.1)∧w.cell? ⟨b,off+i*3+1,none⟩=some (.int .i64 c.2.1)∧w.cell? ⟨b,off+i*3+2,none⟩=some (.int .i64 c.2.2):=by
 obtain ⟨b,off,e,hb,hc⟩:=h.spot (by omega)
 have hl:i<l.length:=by have:=h.len; rw [aX] at this; omega
 have key:∀(l:List (Int×Int×Int)) (i:Nat) (hl:i<l.length),(flat l)[i*3]? = some (.int .i32 (l[i]'hl).1)∧(flat l)[i*3+1]? = some (.int .i64 (l[i]'hl).2.1)∧(flat l)[i*3+2]? = some (.int .i64 (l[i]'hl).2.2):=by
  intro l
  induction l with
  | nil=>intro i hl; simp at hl
  | cons c l ih =>
   intro i hl
   cases i with
   | zero=>exact ⟨rfl,rfl,rfl⟩
   | succ i =>
    have:=ih i (by simpa using hl)
    have e:(i+1)*3=i*3+1+1+1:=by omega
    rw [e]
    simpa [flat] using this
 obtain ⟨k0,k1,k2⟩:=key l i hl
 exact ⟨b,off,e,hb,l[i],List.getElem?_eq_getElem hl,hc _ _ k0,hc _ _ k1,hc _ _ k2⟩
theorem take_one {α:Type} {l:List α} {k:Nat} {c:α} (h:l[k]? = some c):l.take (k+1)=l.take k++[c]:=by
 obtain ⟨hk,rfl⟩:=List.getElem?_eq_some_iff.1 h
 exact List.take_succ_eq_append_getElem hk
theorem O0 (A:Option Addr) (n c:Nat) (l:List (Int×Int×Int)) (w:World) (hs:dw w) (hn:n≤1073741824) (hl:∀c∈l,Good c) (hq:Sq w w.heap.size 3 n A (flat l)) :
  Calls Tryz.prog 74 #[.slice A n c] w fun e w'=>e=.returned (.bool true)∧Below w.heap.size w w':=by
 go_enter Tryz.func74,Tryz.ntmps74
 go_wp2
 go_loopw [7] (fun i wr=>∃k:Nat,i=.int .i64 k∧k≤n∧Below w.heap.size w wr) (fun i _=>n - (intOf i).toNat)
 case atStart=>exact ⟨0,rfl,Nat.zero_le _,Below.refl _ _⟩
 case round =>
  obtain ⟨k,rfl,hk,hbelow⟩:=hrel
  have hsz:w.heap.size≤wr.heap.size:=hbelow.size
  by_cases hlt:k<n
  ·obtain ⟨b,off,rfl,hb,⟨r,m,a⟩,hcc,q0,q1,q2⟩:=(hq.below hbelow).three hlt
   have hg:=hl _ (List.mem_of_getElem? hcc)
   have SG:=fun w=>wJ r m a w
   rw [hg.has] at SG
   have MG:=fun w hs=>RQ r m a hg.attr.1 hg.attr.2 hg.sign.1 hg.sign.2 hg.wide hg.two w hs
   have SGH:=Lib.hid SG
   have MGH:=Lib.hid MG
   have BL:=Lib.hid hbelow
   have Q:=Lib.hid hq
   have SPH:=Lib.hid (fun w' (hb:Below w.heap.size w w')=>hs.below hb hs.size)
   clear SG MG hg hcc hbelow hq hl hs
   go_wp2_with (go_at_call 108; refine (SGH.out _).mono ?_; rintro e w2 ⟨rfl,hb2⟩; have k0:w2.cell? ⟨wr.heap.size,0,none⟩=some (.int .i32 r):=(hb2.cell (p:=⟨wr.heap.size,0,none⟩) (by simp)).trans (by simp); have k1:w2.cell? ⟨wr.heap.size,1,none⟩=some (.int .i64 m):=(hb2.cell (p:=⟨wr.heap.size,1,none⟩) (by simp)).trans (by simp); have k2:w2.cell? ⟨wr.heap.size,2,none⟩=some (.int .i64 a):=(hb2.cell (p:=⟨wr.heap.size,2,none⟩) (by simp)).trans (by simp))
   have B2:Below w.heap.size w w2:=(BL.out.alloc hsz _).trans (hb2.mono (by simp; omega))
   refine (MGH.out w2 (SPH.out _ B2)).mono ?_
   rintro e w3 ⟨rfl,hb3⟩
   have B3:=Lib.hid (B2.trans (hb3.mono B2.size))
   clear B2
   go_wp2
   go_roundw
   case rel=>exact ⟨k+1,by go_num,by omega,B3.out⟩
   case measure=>simp [intOf]; omega
  ·clear hq hl hs
   go_wp2
   go_ret
   exact ⟨rfl,hbelow⟩
def Ae (c:Int×Int×Int):Bool:=jM 32 c.1 c.2.1 c.2.2
def gU (l:List (Int×Int×Int)):Nat→Nat
 | 0=>0
 | k+1=>if (l[k]?.elim false Ae) then gU l k else k+1
theorem O8 {l:List (Int×Int×Int)} {k:Nat} {c:Int×Int×Int} (h:l[k]? = some c) (hb:Ae c=true):gU l (k+1)=gU l k:=by simp [gU,h,hb]
theorem RV {l:List (Int×Int×Int)} {k:Nat} {c:Int×Int×Int} (h:l[k]? = some c) (hb:Ae c=false):gU l (k+1)=k+1:=by simp [gU,h,hb]
def eX (l:List (Int×Int×Int)):List (Int×Int×Int):=l.take (gU l l.length)
def Gj (l:List (Int×Int×Int)) (w:World) (e:Ending) (w':World):Prop:=∃v,e=.returned v∧cZ w' w.heap.size v (eX l)∧Below w.heap.size w w'
theorem uw:(Tryz.prog.info? 76).map (fun i=>(i.zero,i.size,i.bytes))=some (some (.agg #[.int .i32 0,.int .i64 0,.int .i64 0]),3,24):=by kernel_rfl
theorem Af (b off j:Nat):(⟨b,off,none⟩:Addr).add j=⟨b,off+j,none⟩:=by unfold Addr.add; split<;>simp_all
theorem DY (l:List (Int×Int×Int)) (k:Nat):flat (l.take k)=(flat l).take (k*3):=by
 induction l generalizing k with
 | nil=>simp [flat]
 | cons c l ih =>
  cases k with
  | zero=>simp [flat]
  | succ k =>
   have e:(k+1)*3=k*3+1+1+1:=by omega
   rw [e]
   simp [flat,ih]
theorem uy (l:List (Int×Int×Int)):∀u∈flat l,u.oneCell'=true:=by
 induction l with
 | nil=>intro u hu; simp [flat] at hu
 | cons c l ih =>
  intro u hu
  simp only [flat,List.mem_cons] at hu
  rcases hu with rfl | rfl | rfl | hu
  ·rfl
  ·rfl
  ·rfl
  ·exact ih u hu
theorem U8 {w w2:World} {B n k b off:Nat} {l:List (Int×Int×Int)} (hq:Sq w B 3 n (some ⟨b,off,none⟩) (flat l)) (hb:Below B w w2) (hk:0<n):∀j u,(flat (l.take k))[j]? = some u→w2.cell? ((⟨b,off,none⟩:Addr).add j)=some u:=by
 intro j u hu
 obtain ⟨b',off',e,hB,hc⟩:=(hq.below hb).spot hk
 injection e with e
 injection e with e1 e2 e3
 subst e1 e2
 rw [Af]
 refine hc j u ?_
 rw [DY,List.getElem?_take] at hu
 split at hu
 ·exact hu
 ·cases hu
theorem UG {n:Nat} (h:n≤1073741824):0+n≤maxLen∧(0+n)*24≤140737488355328:=by unfold maxLen; omega
theorem E9 {l:List (Int×Int×Int)} {k:Nat} (h:k≤l.length):(flat (l.take k)).length=k*3:=by rw [aX,List.length_take]; omega
theorem O9 (A:Option Addr) (n c:Nat) (hc:n≤c) (l:List (Int×Int×Int)) (w:World) (hn:n≤1073741824) (hq:Sq w w.heap.size 3 n A (flat l)) :
  Calls Tryz.prog 107 #[.slice A n c] w fun e w'=>Gj l w e w':=by
 obtain ⟨i0,hi,hz0,hz1,hz2⟩:=info_parts uw
 have hln:l.length=n:=by have:=hq.len; rw [aX] at this; omega
 have LN:=Lib.hid hln
 clear hln
 go_enter Tryz.func107,Tryz.ntmps107
 go_wp2
 go_loopw [3] (fun i wr=>∃k:Nat,i=.int .i64 k∧k≤n∧gU l k=gU l n∧Below w.heap.size w wr) (fun i _=>(intOf i).toNat)
 case atStart=>exact ⟨n,rfl,Nat.le_refl _,rfl,Below.refl _ _⟩
 case round =>
  obtain ⟨k,rfl,hk,ht,hbelow⟩:=hrel
  have hsz:w.heap.size≤wr.heap.size:=hbelow.size
  rcases Nat.eq_zero_or_pos k with rfl | hp
  ·have e0:eX l=[]:=by unfold eX; rw [LN.out,←ht]; simp [gU]
   have E0:=Lib.hid e0
   have BL:=Lib.hid hbelow
   clear hq hbelow ht e0
   rcases A with _ | ⟨b,off,o⟩
   ·go_wp2
    go_ret
    exact ⟨_,rfl,by rw [E0.out]; exact World.ownsRow_nil _ _ _ _,BL.out⟩
   ·go_wp2_with (at_builtin; refine wpList_append_own _ rfl _ _ 68 rfl w.heap.size 76 i0 (.agg #[.int .i32 0,.int .i64 0,.int .i64 0]) 3 24 Tryz.underlying68 hi hz0 hz1 hz2 rfl (by decide) (.slice none 0 0) 0 [] rfl (World.ownsRow_nil _ _ _ _) ⟨b,off,o⟩ 0 c [] rfl rfl (by simp) (by simp) (by decide) (by decide) hsz ?_; intro v' w3 hown hg _)
    go_wp2
    go_ret
    exact ⟨_,rfl,by rw [E0.out]; exact hown,BL.out.grown hg hsz (by simp [Value.ownBlock])⟩
  ·obtain ⟨j,rfl⟩:∃j,k=j+1:=⟨k - 1,by omega⟩
   obtain ⟨b,off,rfl,hb,⟨r,m,a⟩,hcc,q0,q1,q2⟩:=(hq.below hbelow).three (show j<n by omega)
   obtain ⟨B,hB⟩:∃B,jM 32 r m a=B:=⟨_,rfl⟩
   have SG:=fun w=>Gc r m a w
   rw [hB] at SG
   have SGH:=Lib.hid SG
   have HBB:=Lib.hid hB
   have HC:=Lib.hid hcc
   have HT:=Lib.hid ht
   have BL:=Lib.hid hbelow
   have Q:=Lib.hid hq
   clear SG hB hcc ht hbelow hq
   cases B
   ·go_wp2_with (first | (go_at_call 124; refine (SGH.out _).mono ?_; rintro e w2 ⟨rfl,hb2⟩) | (at_builtin; refine wpList_append_own _ rfl _ _ 68 rfl w.heap.size 76 i0 (.agg #[.int .i32 0,.int .i64 0,.int .i64 0]) 3 24 Tryz.underlying68 hi hz0 hz1 hz2 rfl (by decide) (.slice none 0 0) 0 [] rfl (World.ownsRow_nil _ _ _ _) ⟨b,off,none⟩ (j+1) c (flat (l.take (j+1))) rfl (E9 (by have:=LN.out; omega)) (by exact U8 Q.out (BL.out.trans (hb2.mono hsz)) (by omega)) (uy _) (UG (by omega)).1 (UG (by omega)).2 (Nat.le_trans hsz hb2.size) ?_; intro v' w3 hown hg _))
    go_wp2
    go_ret
    have e:eX l=l.take (j+1):=by unfold eX; rw [LN.out,←HT.out,RV HC.out HBB.out]
    have h:(l.take (j+1)).length=0+(j+1):=by rw [List.length_take]; have:=LN.out; omega
    refine ⟨_,rfl,?_,(BL.out.trans (hb2.mono hsz)).grown hg (Nat.le_trans hsz hb2.size) (by simp [Value.ownBlock])⟩
    rw [e]
    unfold cZ
    rw [h]
    exact hown
   ·go_wp2_with (go_at_call 124; refine (SGH.out _).mono ?_; rintro e w2 ⟨rfl,hb2⟩)
    go_roundw
    case rel=>exact ⟨j,by go_num,by omega,(O8 HC.out HBB.out).symm.trans HT.out,BL.out.trans (hb2.mono hsz)⟩
    case measure=>simp [intOf]
def X0:List Int:=[97,65533,20013]
def X6:List (Int×Int×Int):=[(20013,2,3),(0,0,3)]
structure KJ (N gb gl gc:Nat) (w:World):Prop where
 sp:dw w
 rd:Rd w N st0
 b0:w.cell? ⟨gb,0,none⟩=some (.int .i32 233)
 l:∀j u,(X0.map (Value.int .i32))[j]? = some u→w.cell? ⟨gl,j,none⟩=some u
 c:∀j u,(flat X6)[j]? = some u→w.cell? ⟨gc,j,none⟩=some u
 gb:gb<w.heap.size
 gl:gl<w.heap.size
 gc:gc<w.heap.size
theorem KJ.below {N gb gl gc:Nat} {w w':World} (h:KJ N gb gl gc w) (hb:Below w.heap.size w w'):KJ N gb gl gc w' :=
 ⟨h.sp.below hb h.sp.size,⟨(hb.block N h.rd.lt).trans h.rd.row,h.rd.ok⟩,(hb.cell (p:=⟨gb,0,none⟩) h.gb).trans h.b0,fun j u hu=>(hb.cell (p:=⟨gl,j,none⟩) h.gl).trans (h.l j u hu),
  fun j u hu=>(hb.cell (p:=⟨gc,j,none⟩) h.gc).trans (h.c j u hu),Nat.lt_of_lt_of_le h.gb hb.size,Nat.lt_of_lt_of_le h.gl hb.size,Nat.lt_of_lt_of_le h.gc hb.size⟩
theorem KJ.X8 {N gb gl gc:Nat} {w:World} (h:KJ N gb gl gc w):Sq w w.heap.size 3 1 (some ⟨gc,0,none⟩) (flat [(20013,2,3)]):=⟨rfl,fun _=>⟨gc,0,rfl,h.gc,fun j u hu=>by
 rw [Nat.zero_add]
 refine h.c j u ?_
 match j,hu with
 | 0,hu=>exact hu
 | 1,hu=>exact hu
 | 2,hu=>exact hu
 | j+3,hu=>simp [flat] at hu⟩⟩
theorem Mg:eZ 20013=2:=by decide
theorem add_zero (p:Addr):p.add 0=p:=by unfold Addr.add; split<;>simp_all
structure BB (w0:World) (gb gl gc:Nat) (w:World):Prop where
 beg:KJ w0.heap.size gb gl gc w
 old:Below w0.heap.size w0 w
namespace BB
variable {w0:World} {gb gl gc:Nat} {w w':World}
theorem step (h:BB w0 gb gl gc w) (hb:Below w.heap.size w w'):BB w0 gb gl gc w':=⟨h.beg.below hb,h.old.trans (hb.mono h.old.size)⟩
theorem waits (h:BB w0 gb gl gc w):Calls Tryz.prog 122 #[.pointer (some ⟨w0.heap.size,0,none⟩)] w fun e w'=>e=.returned (.int .i64 0)∧w=w':=OY _ _ st0 h.beg.rd
theorem may (h:BB w0 gb gl gc w):Calls Tryz.prog 109 #[cellV 0 0 3] w fun e w'=>e=.returned (.bool true)∧BB w0 gb gl gc w':=(RJ 3 (by omega) (by omega) w).mono fun _ _ ⟨e,b⟩=>⟨e,h.step b⟩
theorem line (h:BB w0 gb gl gc w) (c:Nat):Calls Tryz.prog 74 #[.slice (some ⟨gc,0,none⟩) 1 c] w fun e w'=>e=.returned (.bool true)∧BB w0 gb gl gc w':=by
 have k:=O0 (some ⟨gc,0,none⟩) 1 c [(20013,2,3)] w h.beg.sp (by omega) (by intro x hx; simp at hx; subst hx; exact ⟨by simp,Mg,.inr rfl,by simp⟩) h.beg.X8
 exact k.mono fun _ _ ⟨e,b⟩=>⟨e,h.step b⟩
end BB
theorem laidOut:laidOutB Tryz.prog=true:=by kernel_rfl
theorem iV:Tryz.prog.cellsOf 21=1:=by kernel_rfl
section
variable {H:Type} {enc:TypeId×Value→H} {W W':World}
theorem wf_i64 {x:Int} (h:(Lit.int .i64 x).wf=true) : -9223372036854775808≤x∧x≤9223372036854775807:=by
 simpa [Lit.wf,IntKind.min,IntKind.max,IntKind.signed,IntKind.bits] using h
theorem Fa (hb:Below W.heap.size W W'):∀ {ts:List TypeId} {vs:List Value} {ds:List (DataW H)} {ps:List MemPlace},(ts.all fun t=>Tryz.prog.readableRec t && decide (t<Tryz.prog.types.size))=true →
  DataW.TrodAll enc Tryz.prog W 0 (fun _=>true) true ts vs ds ps→DataW.TrodAll enc Tryz.prog W' 0 (fun b=>decide (b<W.heap.size)) true ts vs ds ps:=by
 intro ts
 induction ts with
 | nil =>
  intro vs ds ps _ h
  obtain ⟨rfl,rfl,rfl⟩:=trodAll_nil h
  exact trodAll_mk0
 | cons t ts ih =>
  intro vs ds ps ht h
  have hlt:=DataW.TrodAll.lt h
  simp only [List.all_cons,Bool.and_eq_true,decide_eq_true_eq] at ht
  obtain ⟨v,vs',d,ds',p,q,rfl,rfl,rfl,h0,hr⟩:=trodAll_cons h
  exact trodAll_cons_mk (Below.trod laidOut ht.1.1 ht.1.2 h0 hb (fun x hx=>hlt x (List.mem_append_left _ hx))) (ih ht.2 hr)
theorem close {s:ChangeSpec} {f:Func} {args:Array Value} {ds gs:List (DataW H)} {before:List MemPlace} (hv:s.vars=[])
  (hW:DataW.Whole enc Tryz.prog f.params.toList s.vars false W args.toList ds gs before) (hfn:(s.fn H (ds++[])).results=[.lit (.bool true)]∧(s.fn H (ds++[])).args=ds∧(s.fn H (ds++[])).vars=[]) (hres:f.resultTypes = #[4])
  (hts:(f.params.toList.all fun t=>Tryz.prog.readableRec t && decide (t<Tryz.prog.types.size))=true) (hb:Below W.heap.size W W') :
  s.post enc Tryz.prog f false true false false W args (.bool true) W':=by
 have hW':=hW
 obtain ⟨p,q,hA,hV,rfl,_,_⟩:=hW
 rw [hv] at hV
 obtain ⟨rfl,rfl⟩:=trodVars_none hV
 obtain ⟨h1,h2,h3⟩:=hfn
 refine ⟨ds,[],p++[],[],p,[],hW',?_,?_,?_,hb.frame _,fun h=>by cases h⟩
 ·rw [h1,hres]
  exact trodAll_cons_mk (shut_bool Tryz.underlying4 _) trodAll_mk0
 ·rw [h2]
  exact Fa hb hts hA
 ·rw [h3,hv]
  rfl
end
section
variable {H:Type} {enc:TypeId×Value→H} {W W':World}
end
theorem U9:ownKnob Tryz.prog.godebug=none:=by kernel_rfl
def spanCells:Array Value:= #[.int .i32 (-2147483648),.int .i32 31,.int .i64 0,.int .i32 127,.int .i32 159,.int .i64 0,.int .i32 768,.int .i32 879,.int .i64 0,.int .i32 4352,.int .i32 4447,.int .i64 2,.int .i32 8203,.int .i32 8207,.int .i64 0,.int .i32 11904,.int .i32 12350,.int .i64 2,.int .i32 12353,.int .i32 13311,.int .i64 2,.int .i32 13312,.int .i32 19903,.int .i64 2,.int .i32 19968,.int .i32 40959,.int .i64 2,.int .i32 40960,.int .i32 42191,.int .i64 2,.int .i32 44032,.int .i32 55203,.int .i64 2,.int .i32 55296,.int .i32 57343,.int .i64 0,.int .i32 63744,.int .i32 64255,.int .i64 2,.int .i32 65024,.int .i32 65039,.int .i64 0,.int .i32 65072,.int .i32 65135,.int .i64 2,.int .i32 65280,.int .i32 65376,.int .i64 2,.int .i32 65504,.int .i32 65510,.int .i64 2,.int .i32 127744,.int .i32 128591,.int .i64 2,.int .i32 129280,.int .i32 129535,.int .i64 2,.int .i32 131072,.int .i32 262141,.int .i64 2,.int .i32 1114112,.int .i32 2147483647,.int .i64 0]
noncomputable def wK (os:Os):World :=
 {World.holding Tryz.prog os ⟨#[],#[],[]⟩ with heap:=(World.holding Tryz.prog os ⟨#[],#[],[]⟩).heap.modify 0 fun
   | .cells _ t frozen=>.cells spanCells t frozen
   | o=>o }
namespace Sum
theorem Wi {a b:Bool} (h1:a=true) (h2:b=true):(a && b)=true:=by rw [h1,h2]; rfl
theorem tables:laidOutB Tryz.checked.prog=true∧mapsRowed Tryz.checked.prog=true∧Tryz.checked.prog.plainKeys=true :=
 Go.ClosedOfChecked.closed_of_checked Tryz.checked (by kernel_rfl) (by kernel_rfl) (by kernel_rfl)
theorem mayEnter:Tryz.checked.prog.mayEnter=true:=by kernel_rfl
theorem lifts:(Rows.findAllRow.lifted == Tryz.checked.prog.liftsFinal)=true:=by kernel_rfl
theorem make:(Tryz.checked.prog.make == some Rows.findAllRow.make)=true:=by kernel_rfl
end Sum
