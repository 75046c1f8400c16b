import Derived.Test.YteemnmalikomgaaGreatDoorQSwLine1
set_option maxRecDepth 100000
set_option maxHeartbeats 12800000
namespace Go.Proofs.YteemnmalikomgaaGreatDoor
open Go.ChangeShapes Go.WideShapes Go.ChangeAt Go.RowKit
namespace Ln
open Rw
attribute [local go_sem] Oper.semAt_some
theorem Cn {w:Nat} (hw:2≤w) (l:List au) (hl:∀x∈l,tY x):(aJ w l).1.2≤w∧(aJ w l).1.1≤l.length∧(aJ w l).2.length≤2*l.length:=by
 revert hl
 refine jU (P:=fun l=>(∀x∈l,tY x)→(aJ w l).1.2≤w∧(aJ w l).1.1≤l.length∧(aJ w l).2.length≤2*l.length) ?_ ?_ l
 ·exact fun _=>⟨Nat.zero_le _,Nat.zero_le _,Nat.zero_le _⟩
 ·intro l x ih hl
  obtain ⟨h1,h2,h3⟩:=ih (fun y hy=>hl y (by simp [hy]))
  have hx:=hl x (by simp)
  have hb2:wd x≤2:=by unfold wd; rcases hx with h | h<;>simp [h]
  rw [jH]
  unfold gJ
  rw [List.length_append,List.length_singleton]
  split
  ·refine ⟨by simp only; omega,by simp only; omega,?_⟩
   simp only [List.length_append,List.length_singleton]
   split<;>simp<;>omega
  ·refine ⟨by simp only; omega,by simp only; omega,?_⟩
   simp only [List.length_append,List.length_singleton]
   omega
theorem OC (w:Nat) (a:List au):∀b:List au,∃t,(aJ w (a++b)).2=(aJ w a).2++t:=by
 intro b
 refine jU (P:=fun b=>∃t,(aJ w (a++b)).2=(aJ w a).2++t) ⟨[],by simp⟩ ?_ b
 rintro b x ⟨t,ht⟩
 rw [←List.append_assoc,jH]
 unfold gJ
 split
 ·exact ⟨t++((if (aJ w (a++b)).1.2<w then [((aJ w (a++b)).1,iZ)] else [])++[(((aJ w (a++b)).1.1+1,0),x)]),by simp only; rw [ht,List.append_assoc]⟩
 ·exact ⟨t++[((aJ w (a++b)).1,x)],by simp only; rw [ht,List.append_assoc]⟩
theorem OD {w:Nat} {l:List au} {i:Nat} {x:au} (h:l[i]? = some x) (k:Nat) (y:Pl) (hy:(gJ w (aJ w (l.take i)) x).2[k]? = some y):(aJ w l).2[k]? = some y:=by
 obtain ⟨t,e⟩:=OC w (l.take (i+1)) (l.drop (i+1))
 rw [List.take_append_drop,take_one h,jH] at e
 rw [e,List.getElem?_append_left (List.getElem?_eq_some_iff.1 hy).1]
 exact hy
structure jY (S Bl Bw:Nat) (A:Option Addr) (n c wv:Nat) (l:List au) (W:World):Prop where
 bl:W.heap[Bl]? = some (.cells #[.slice A n c] 68 (0,0))
 bw:W.heap[Bw]? = some (.cells #[.int .i64 (wv:Int)] 3 (0,0))
 sq:Sq W S 3 n A (flat l)
 big:S≤W.heap.size
def U3 (W:World) (j:Nat):Prop:=∃cs ty,W.heap[j]? = some (.cells cs ty (0,0))∧(ty=128∨ty=76∧cs.size=3)
def bT (S Bl Bw:Nat) (X:Nat→Prop) (W W':World):Prop:=W.heap.size≤W'.heap.size∧∀j,j<S∨j=Bl∨j=Bw∨U3 W j∧¬X j→W'.heap[j]? = W.heap[j]?
theorem bT.trans {S Bl Bw:Nat} {X:Nat→Prop} {A B C:World} (h:bT S Bl Bw X A B) (k:bT S Bl Bw X B C):bT S Bl Bw X A C :=
 ⟨Nat.le_trans h.1 k.1,fun j hj=>(k.2 j (by
  rcases hj with hj | hj | hj | ⟨⟨cs,ty,hj,ht⟩,hx⟩
  ·exact .inl hj
  ·exact .inr (.inl hj)
  ·exact .inr (.inr (.inl hj))
  ·exact .inr (.inr (.inr ⟨⟨cs,ty,(h.2 j (.inr (.inr (.inr ⟨⟨cs,ty,hj,ht⟩,hx⟩)))).trans hj,ht⟩,hx⟩)))).trans (h.2 j hj)⟩
theorem bT.laid {S Bl Bw:Nat} {X:Nat→Prop} {W W':World} (h:Laid W W') (hS:S≤W.heap.size) (h1:Bl<W.heap.size) (h2:Bw<W.heap.size):bT S Bl Bw X W W' :=
 ⟨h.size,fun j hj=>h.block j (by
  rcases hj with hj | rfl | rfl | ⟨⟨cs,ty,hj,_⟩,_⟩
  ·omega
  ·exact h1
  ·exact h2
  ·exact (Array.getElem?_eq_some_iff.1 hj).1)⟩
theorem bT.put {S Bl Bw l:Nat} {X:Nat→Prop} {W:World} {o:Obj} (hS:S≤l) (h1:Bl<l) (h2:Bw<l) (ho:W.heap[l]? = some o) (hc:o.isCells=false) (o':Obj):bT S Bl Bw X W (W.putObj l o') :=
 ⟨by simp [World.putObj],fun j hj=>World.putObj_heap_other (fun e=>by
  rcases hj with hj | hj | hj | ⟨⟨cs,ty,hj,_⟩,_⟩
  ·omega
  ·omega
  ·omega
  ·rw [e,ho] at hj
   cases hj
   cases hc)⟩
namespace jY
variable {S Bl Bw n c wv:Nat} {X:Nat→Prop} {A:Option Addr} {l:List au} {W W':World}
theorem kept (h:jY S Bl Bw A n c wv l W) (hk:bT S Bl Bw X W W'):jY S Bl Bw A n c wv l W' :=
 ⟨(hk.2 Bl (.inr (.inl rfl))).trans h.bl,(hk.2 Bw (.inr (.inr (.inl rfl)))).trans h.bw,h.sq.carry (fun p hp=>by unfold World.cell?; rw [hk.2 p.block (.inl hp)]),Nat.le_trans h.big hk.1⟩
theorem laid (h:jY S Bl Bw A n c wv l W) (hb:Laid W W'):jY S Bl Bw A n c wv l W':=h.kept (X:=fun _=>False) (bT.laid hb h.big (Array.getElem?_eq_some_iff.1 h.bl).1 (Array.getElem?_eq_some_iff.1 h.bw).1)
end jY
def Jq (L:List Pl) (k:Nat) (x:Array Value) (_:World):Prop:=∃y:Pl,L[k]? = some y∧x = #[.agg #[.int .i64 (y.1.1:Int),.int .i64 (y.1.2:Int)],cellV y.2.1 y.2.2.1 y.2.2.2]
structure Fr (lo hi:Nat) (a0 a:Act):Prop where
 size:a.tmps.size=a0.tmps.size
 defers:a.defers=a0.defers
 keep:∀t,t<lo∨hi<t→a.tmps[t]? = a0.tmps[t]?
theorem Fr.refl (lo hi:Nat) (a:Act):Fr lo hi a a:=⟨rfl,rfl,fun _ _=>rfl⟩
theorem Fr.next {lo hi:Nat} {a0 a a':Act} {d:Nat} {v:Value} (F:Fr lo hi a0 a) (N:Chain.Next a a' d v) (h:lo≤d∧d≤hi):Fr lo hi a0 a' :=
 ⟨N.size.trans F.size,N.defers.trans F.defers,fun t ht=>by
  rw [←F.keep t ht]
  cases e:a.tmps[t]? with
  | none=>rw [Array.getElem?_eq_none_iff] at e ⊢; have:=N.size; omega
  | some u=>exact N.keep t u (by omega) e⟩
theorem Fr.at {lo hi:Nat} {a0 a:Act} {t:Nat} {v:Value} (F:Fr lo hi a0 a) (h:Chain.At a0 t v) (ht:t<lo∨hi<t):Chain.At a t v:=(F.keep t ht).trans h
theorem Fr.out {lo hi:Nat} {a0 a:Act} (F:Fr lo hi a0 a) (hlo:lo≤hi) (hhi:hi<a0.tmps.size):∀(l:List Value),l.length=hi+1 - lo→(∀j v,l[j]? = some v→Chain.At a (lo+j) v) →
  a={ tmps:=(a0.tmps.toList.take lo++(l++a0.tmps.toList.drop (hi+1))).toArray,defers:=a0.defers }:=by
 intro l hl hv
 obtain ⟨ta,da⟩:=a
 have hd:da=a0.defers:=F.defers
 subst hd
 congr 1
 refine Array.ext_getElem? fun t=> ?_
 refine Eq.trans ?_ (List.getElem?_toArray (i:=t)).symm
 have hz:ta.size=a0.tmps.size:=F.size
 have hn:a0.tmps.toList.length=a0.tmps.size:=Array.length_toList
 have ht:(a0.tmps.toList.take lo).length=lo:=by rw [List.length_take]; omega
 by_cases h1:t<lo
 ·rw [List.getElem?_append_left (by omega),List.getElem?_take,if_pos h1,Array.getElem?_toList]
  exact F.keep t (.inl h1)
 ·rw [List.getElem?_append_right (by omega),ht]
  by_cases h2:t≤hi
  ·rw [List.getElem?_append_left (by omega)]
   obtain ⟨v,hv'⟩:∃v,l[t - lo]? = some v:=⟨_,List.getElem?_eq_getElem (by omega)⟩
   rw [hv']
   have:=hv (t - lo) v hv'
   rw [show lo+(t - lo)=t by omega] at this
   exact this
  ·rw [List.getElem?_append_right (by omega),List.getElem?_drop,Array.getElem?_toList,show hi+1+(t - lo - l.length)=t by omega]
   exact F.keep t (.inr (by omega))
def Xv:List Ord.Line:=[
 (some 20,.fieldAddr 128 (.tmp 4) 1,none,[]),
 (some 21,.load 3 (.tmp 20),none,[0]),
 (some 22,.load 3 (.tmp 2),none,[]),
 (some 23,.binOp .lss 3 (.tmp 21) (.tmp 22) 3,none,[1,2]),
 (some 24,.move (.tmp 23),none,[3]),
 (some 25,.move (.tmp 0),some (4,true),[4]),
 (some 26,.load 128 (.tmp 4),some (4,true),[4]),
 (some 27,.call { callee:=.value (.func 112),args:= #[],argTypes:= #[] },some (4,true),[4,4]),
 (some 28,.call { callee:=.value (.tmp 25),args:= #[.tmp 26,.tmp 27],argTypes:= #[128,76] },some (4,true),[5,6,7,7,4]),
 (some 29,.unOp .not 4 (.tmp 28),some (4,true),[8,4]),
 (some 30,.pick (.tmp 24) (.tmp 29) (.const (.bool false)),none,[4,9])]
theorem Yi {ops:Array Oper} {Q:Exit→Act→World→Prop} (R:Ord.eT ops Xv) (hQ:∀c a w d v,Q (.panic c) (Act.put a (some d) v) w→Q (.panic c) a w) {P' Bw l:Nat} {r c wv:Nat} {w1:World} {Post:Bool→World→Prop}
  (hP:w1.heap[P']? = some (.cells #[.int .i64 (r:Int),.int .i64 (c:Int)] 128 (0,0))) (hB:w1.heap[Bw]? = some (.cells #[.int .i64 (wv:Int)] 3 (0,0))) (hlt:c<wv)
  (hy:∀w',Laid w1 w'→YieldAt Fence.wide 1 Tryz.prog l #[.agg #[.int .i64 (r:Int),.int .i64 (c:Int)],cellV 0 1 0] w' fun e w2=>∃bb,e=.returned (.bool bb)∧Post bb w2)
  (a0:Act) (hz:a0.tmps.size=47) (e0:Chain.At a0 0 (.func (.yield l) #[] #[])) (e2:Chain.At a0 2 (.pointer (some ⟨Bw,0,none⟩))) (e4:Chain.At a0 4 (.pointer (some ⟨P',0,none⟩)))
  (h:∀a w2 bb,Post bb w2→Fr 20 30 a0 a→(∀j v,[Value.pointer (some ⟨P',1,none⟩),.int .i64 (c:Int),.int .i64 (wv:Int),.bool true,.bool true,.func (.yield l) #[] #[],.agg #[.int .i64 (r:Int),.int .i64 (c:Int)],cellV 0 1 0,.bool bb,.bool (!bb),.bool (!bb)][j]? = some v→Chain.At a (20+j) v)→Q .normal a w2) :
  Ord.jJ Tryz.prog ops Q 2 11 (List.replicate 11 false) a0 w1:=by
 have hPl:=(Array.getElem?_eq_some_iff.1 hP).1
 have hBl:=(Array.getElem?_eq_some_iff.1 hB).1
 have hcw:decide ((c:Int)<(wv:Int))=true:=by simp; omega
 have ld1:∀(a:Act),Chain.At a 20 (.pointer (some ⟨P',1,none⟩))→∀ty,(execOp a.eval ⟨some 21,.load 3 (.tmp 20),ty, "",#[],none⟩).run Tryz.prog w1=.ok (.value (.int .i64 (c:Int))) w1:=fun a f ty=>by
  have q:w1.cell? ⟨P',1,none⟩=some (.int .i64 (c:Int)):=cell_of_row _ _ 1 _ _ (0,0) hP
  have e:=f
  unfold Chain.At at e
  go_simp
 have ld2:∀(a:Act),Chain.At a 2 (.pointer (some ⟨Bw,0,none⟩))→∀ty,(execOp a.eval ⟨some 22,.load 3 (.tmp 2),ty, "",#[],none⟩).run Tryz.prog w1=.ok (.value (.int .i64 (wv:Int))) w1:=fun a f ty=>by
  have q:w1.cell? ⟨Bw,0,none⟩=some (.int .i64 (wv:Int)):=cell_of_row _ _ 0 _ _ (0,0) hB
  have e:=f
  unfold Chain.At at e
  go_simp
 have ld6:∀(a:Act) (w':World),w'.heap[P']? = some (.cells #[.int .i64 (r:Int),.int .i64 (c:Int)] 128 (0,0))→Chain.At a 4 (.pointer (some ⟨P',0,none⟩))→∀ty,(execOp a.eval ⟨some 26,.load 128 (.tmp 4),ty, "",#[],none⟩).run Tryz.prog w'=.ok (.value (.agg #[.int .i64 (r:Int),.int .i64 (c:Int)])) w':=fun a w' hp f ty=>by
  have q:w'.cell? ⟨P',0,none⟩=some (.int .i64 (r:Int)):=cell_of_row _ _ 0 _ _ (0,0) hp
  have q1:w'.cell? ⟨P',1,none⟩=some (.int .i64 (c:Int)):=cell_of_row _ _ 1 _ _ (0,0) hp
  have e:=f
  unfold Chain.At at e
  go_simp
 have hnot:∀(a:Act) (w':World) (bb:Bool),Chain.At a 28 (.bool bb)→∀ty,(execOp a.eval ⟨some 29,.unOp .not 4 (.tmp 28),ty, "",#[],none⟩).run Tryz.prog w'=.ok (.value (.bool (!bb))) w':=fun a w' bb f ty=>by
  have e:=f
  unfold Chain.At at e
  go_simp
 have hlss:∀(a:Act) (w':World),Chain.At a 21 (.int .i64 (c:Int))→Chain.At a 22 (.int .i64 (wv:Int))→∀ty,(execOp a.eval ⟨some 23,.binOp .lss 3 (.tmp 21) (.tmp 22) 3,ty, "",#[],none⟩).run Tryz.prog w'=.ok (.value (.bool true)) w':=fun a w' f1 f2 ty=>by
  have e1:=f1
  have e2:=f2
  unfold Chain.At at e1 e2
  go_simp
 have late:∀(a:Act) (w':World),Fr 20 30 a0 a→Laid w1 w'→Chain.At a 20 (.pointer (some ⟨P',1,none⟩))→Chain.At a 21 (.int .i64 (c:Int))→Chain.At a 22 (.int .i64 (wv:Int))→Chain.At a 23 (.bool true)→Chain.At a 24 (.bool true)→Chain.At a 25 (.func (.yield l) #[] #[])→Chain.At a 26 (.agg #[.int .i64 (r:Int),.int .i64 (c:Int)])→Chain.At a 27 (cellV 0 1 0) →
   Ord.jJ Tryz.prog ops Q 2 3 [true,true,true,true,true,true,true,true,false,false,false] a w':=by
  intro a w' F hl f20 f21 f22 f23 f24 f25 f26 f27
  have za:a.tmps.size=47:=F.size.trans hz
  refine Ord.dZ R (by kernel_rfl) (Ord.JM (k:=8) (bs':=[true,true,true,true,true,true,true,true,true,false,false]) R rfl (R.opened (j:=4) rfl f24) f25 (args:= #[.agg #[.int .i64 (r:Int),.int .i64 (c:Int)],cellV 0 1 0]) (by simp [f26.ev,f27.ev]) (hy w' hl) (by rw [za]; decide) ?_)
  rintro e w2 ⟨bb,rfl,hp⟩
  refine ⟨_,rfl,fun a8 N=> ?_⟩
  have F8:=F.next N (by omega)
  have z8:a8.tmps.size=47:=F8.size.trans hz
  have g24:=N.keep 24 _ (by decide) f24
  have g28:=N.got
  refine Ord.dZ R (by kernel_rfl) (Ord.bM (k:=9) (v:=.bool (!bb)) (bs':=[true,true,true,true,true,true,true,true,true,true,false]) R rfl (R.opened (j:=4) rfl g24) (hnot a8 w2 bb g28) (by rw [z8]; decide) fun a9 N9=> ?_)
  have F9:=F8.next N9 (by omega)
  have z9:a9.tmps.size=47:=F9.size.trans hz
  have k24:=N9.keep 24 _ (by decide) g24
  have k29:=N9.got
  refine Ord.dZ R (by kernel_rfl) (Ord.bM (k:=10) (v:=.bool (!bb)) (bs':=[true,true,true,true,true,true,true,true,true,true,true]) R rfl trivial (fun ty=>Ord.JK k24.ev k29.ev) (by rw [z9]; decide) fun a10 N10=> ?_)
  have F10:=F9.next N10 (by omega)
  refine Ord.KU R (by kernel_rfl) (h a10 w2 bb hp F10 ?_)
  have up:∀t v,t<28→Chain.At a t v→Chain.At a10 t v:=fun t v ht hv=>N10.keep t _ (by omega) (N9.keep t _ (by omega) (N.keep t _ (by omega) hv))
  intro j v hj
  match j,hj with
  | 0,hj=>injection hj with hj; subst hj; exact up _ _ (by omega) f20
  | 1,hj=>injection hj with hj; subst hj; exact up _ _ (by omega) f21
  | 2,hj=>injection hj with hj; subst hj; exact up _ _ (by omega) f22
  | 3,hj=>injection hj with hj; subst hj; exact up _ _ (by omega) f23
  | 4,hj=>injection hj with hj; subst hj; exact up _ _ (by omega) f24
  | 5,hj=>injection hj with hj; subst hj; exact up _ _ (by omega) f25
  | 6,hj=>injection hj with hj; subst hj; exact up _ _ (by omega) f26
  | 7,hj=>injection hj with hj; subst hj; exact up _ _ (by omega) f27
  | 8,hj=>injection hj with hj; subst hj; exact N10.keep _ _ (by decide) (N9.keep _ _ (by decide) g28)
  | 9,hj=>injection hj with hj; subst hj; exact N10.keep _ _ (by decide) k29
  | 10,hj=>injection hj with hj; subst hj; exact N10.got
  | j+11,hj=>simp at hj
 have mid:∀(a:Act),Fr 20 30 a0 a→Chain.At a 20 (.pointer (some ⟨P',1,none⟩))→Chain.At a 21 (.int .i64 (c:Int))→Chain.At a 22 (.int .i64 (wv:Int)) →
   Ord.jJ Tryz.prog ops Q 2 8 [true,true,true,false,false,false,false,false,false,false,false] a w1:=by
  intro a F f20 f21 f22
  have za:a.tmps.size=47:=F.size.trans hz
  refine Ord.dZ R (by kernel_rfl) (Ord.bM (k:=3) (v:=.bool true) (bs':=[true,true,true,true,false,false,false,false,false,false,false]) R rfl trivial (hlss a w1 f21 f22) (by rw [za]; decide) fun a3 N3=> ?_)
  have F3:=F.next N3 (by omega)
  have z3:a3.tmps.size=47:=F3.size.trans hz
  refine Ord.dZ R (by kernel_rfl) (Ord.bM (k:=4) (v:=.bool true) (bs':=[true,true,true,true,true,false,false,false,false,false,false]) R rfl trivial (fun ty=>Chain.j6 N3.got.ev) (by rw [z3]; decide) fun a4 N4=> ?_)
  have F4:=F3.next N4 (by omega)
  have z4:a4.tmps.size=47:=F4.size.trans hz
  refine Ord.MO R (k:=5) (v:=.func (.yield l) #[] #[]) (bs':=[true,true,true,true,true,true,false,false,false,false,false]) rfl (by kernel_rfl) hQ (R.opened (j:=4) rfl N4.got) (fun w ty=>Chain.j6 (F4.at e0 (by omega)).ev) (by rw [z4]; decide) fun a5 N5=> ?_
  have F5:=F4.next N5 (by omega)
  have z5:a5.tmps.size=47:=F5.size.trans hz
  have up:∀t v,t<23→Chain.At a t v→Chain.At a5 t v:=fun t v ht hv=>N5.keep t _ (by omega) (N4.keep t _ (by omega) (N3.keep t _ (by omega) hv))
  have g20:=up _ _ (by omega) f20
  have g21:=up _ _ (by omega) f21
  have g22:=up _ _ (by omega) f22
  have g23:=N5.keep 23 _ (by decide) (N4.keep 23 _ (by decide) N3.got)
  have g24:=N5.keep 24 _ (by decide) N4.got
  have g25:=N5.got
  refine Ord.CJ R (i:=6) (j:=7) (bs1:=[true,true,true,true,true,true,true,false,false,false,false]) (bs2:=[true,true,true,true,true,true,false,true,false,false,false]) (by kernel_rfl) ?_ ?_
  ·refine Ord.bM (k:=6) R rfl (R.opened (j:=4) rfl g24) (ld6 a5 w1 hP (F5.at e4 (by omega))) (by rw [z5]; decide) fun a6 N6=> ?_
   have F6:=F5.next N6 (by omega)
   have z6:a6.tmps.size=47:=F6.size.trans hz
   refine Ord.dZ R (by kernel_rfl) (Ord.Aw (k:=7) (bs':=[true,true,true,true,true,true,true,true,false,false,false]) R rfl (R.opened (j:=4) rfl (N6.keep 24 _ (by decide) g24)) (args:= #[]) (by simp) (by kernel_rfl) (zy w1) (by rw [z6]; decide) ?_)
   rintro e w' ⟨rfl,hb⟩
   refine ⟨_,rfl,fun a7 N7=> ?_⟩
   have k:∀t v,t<26→Chain.At a5 t v→Chain.At a7 t v:=fun t v ht hv=>N7.keep t _ (by omega) (N6.keep t _ (by omega) hv)
   exact late a7 w' (F6.next N7 (by omega)) hb (k _ _ (by omega) g20) (k _ _ (by omega) g21) (k _ _ (by omega) g22) (k _ _ (by omega) g23) (k _ _ (by omega) g24) (k _ _ (by omega) g25) (N7.keep _ _ (by decide) N6.got) N7.got
  ·refine Ord.Aw (k:=7) R rfl (R.opened (j:=4) rfl g24) (args:= #[]) (by simp) (by kernel_rfl) (zy w1) (by rw [z5]; decide) ?_
   rintro e w' ⟨rfl,hb⟩
   refine ⟨_,rfl,fun a6 N6=> ?_⟩
   have F6:=F5.next N6 (by omega)
   have z6:a6.tmps.size=47:=F6.size.trans hz
   refine Ord.dZ R (by kernel_rfl) (Ord.bM (k:=6) (bs':=[true,true,true,true,true,true,true,true,false,false,false]) R rfl (R.opened (j:=4) rfl (N6.keep 24 _ (by decide) g24)) (ld6 a6 w' ((hb.block P' hPl).trans hP) (F6.at e4 (by omega))) (by rw [z6]; decide) fun a7 N7=> ?_)
   have k:∀t v,t<26→Chain.At a5 t v→Chain.At a7 t v:=fun t v ht hv=>N7.keep t _ (by omega) (N6.keep t _ (by omega) hv)
   exact late a7 w' (F6.next N7 (by omega)) hb (k _ _ (by omega) g20) (k _ _ (by omega) g21) (k _ _ (by omega) g22) (k _ _ (by omega) g23) (k _ _ (by omega) g24) (k _ _ (by omega) g25) N7.got (N7.keep _ _ (by decide) N6.got)
 refine Ord.MO R (k:=0) (v:=.pointer (some ⟨P',1,none⟩)) (bs':=[true,false,false,false,false,false,false,false,false,false,false]) rfl (by kernel_rfl) hQ trivial (fun w ty=>by have e:=e4; clear hz; unfold Chain.At at e; go_simp) (by rw [hz]; decide) fun a1 N1=> ?_
 have F1:=(Fr.refl 20 30 a0).next N1 (by omega)
 have z1:a1.tmps.size=47:=F1.size.trans hz
 refine Ord.CJ R (i:=1) (j:=2) (bs1:=[true,true,false,false,false,false,false,false,false,false,false]) (bs2:=[true,false,true,false,false,false,false,false,false,false,false]) (by kernel_rfl) ?_ ?_
 ·refine Ord.bM (k:=1) R rfl trivial (ld1 a1 N1.got) (by rw [z1]; decide) fun a2 N2=> ?_
  have F2:=F1.next N2 (by omega)
  have z2:a2.tmps.size=47:=F2.size.trans hz
  refine Ord.dZ R (by kernel_rfl) (Ord.bM (k:=2) (bs':=[true,true,true,false,false,false,false,false,false,false,false]) R rfl trivial (ld2 a2 (F2.at e2 (by omega))) (by rw [z2]; decide) fun a3 N3=> ?_)
  exact mid a3 (F2.next N3 (by omega)) (N3.keep _ _ (by decide) (N2.keep _ _ (by decide) N1.got)) (N3.keep _ _ (by decide) N2.got) N3.got
 ·refine Ord.bM (k:=2) R rfl trivial (ld2 a1 (F1.at e2 (by omega))) (by rw [z1]; decide) fun a2 N2=> ?_
  have F2:=F1.next N2 (by omega)
  have z2:a2.tmps.size=47:=F2.size.trans hz
  refine Ord.dZ R (by kernel_rfl) (Ord.bM (k:=1) (bs':=[true,true,true,false,false,false,false,false,false,false,false]) R rfl trivial (ld1 a2 (N2.keep _ _ (by decide) N1.got)) (by rw [z2]; decide) fun a3 N3=> ?_)
  exact mid a3 (F2.next N3 (by omega)) (N3.keep _ _ (by decide) (N2.keep _ _ (by decide) N1.got)) N3.got (N3.keep _ _ (by decide) N2.got)
theorem XT {ops:Array Oper} {Q:Exit→Act→World→Prop} (R:Ord.eT ops Xv) (hQ:∀c a w d v,Q (.panic c) (Act.put a (some d) v) w→Q (.panic c) a w) {P' Bw:Nat} {r c wv:Nat} {w1:World}
  (hP:w1.heap[P']? = some (.cells #[.int .i64 (r:Int),.int .i64 (c:Int)] 128 (0,0))) (hB:w1.heap[Bw]? = some (.cells #[.int .i64 (wv:Int)] 3 (0,0))) (hlt:¬c<wv)
  (a0:Act) (hz:a0.tmps.size=47) (e2:Chain.At a0 2 (.pointer (some ⟨Bw,0,none⟩))) (e4:Chain.At a0 4 (.pointer (some ⟨P',0,none⟩)))
  (h:∀a,Fr 20 30 a0 a→(∀j v,[Value.pointer (some ⟨P',1,none⟩),.int .i64 (c:Int),.int .i64 (wv:Int),.bool false,.bool false,undef,undef,undef,undef,undef,.bool false][j]? = some v→Chain.At a (20+j) v)→Q .normal a w1) :
  Ord.jJ Tryz.prog ops Q 2 11 (List.replicate 11 false) a0 w1:=by
 have hcw:decide ((c:Int)<(wv:Int))=false:=by simp; omega
 have ld1:∀(a:Act),Chain.At a 20 (.pointer (some ⟨P',1,none⟩))→∀ty,(execOp a.eval ⟨some 21,.load 3 (.tmp 20),ty, "",#[],none⟩).run Tryz.prog w1=.ok (.value (.int .i64 (c:Int))) w1:=fun a f ty=>by
  have q:w1.cell? ⟨P',1,none⟩=some (.int .i64 (c:Int)):=cell_of_row _ _ 1 _ _ (0,0) hP
  have e:=f
  unfold Chain.At at e
  go_simp
 have ld2:∀(a:Act),Chain.At a 2 (.pointer (some ⟨Bw,0,none⟩))→∀ty,(execOp a.eval ⟨some 22,.load 3 (.tmp 2),ty, "",#[],none⟩).run Tryz.prog w1=.ok (.value (.int .i64 (wv:Int))) w1:=fun a f ty=>by
  have q:w1.cell? ⟨Bw,0,none⟩=some (.int .i64 (wv:Int)):=cell_of_row _ _ 0 _ _ (0,0) hB
  have e:=f
  unfold Chain.At at e
  go_simp
 have hlss:∀(a:Act) (w':World),Chain.At a 21 (.int .i64 (c:Int))→Chain.At a 22 (.int .i64 (wv:Int))→∀ty,(execOp a.eval ⟨some 23,.binOp .lss 3 (.tmp 21) (.tmp 22) 3,ty, "",#[],none⟩).run Tryz.prog w'=.ok (.value (.bool false)) w':=fun a w' f1 f2 ty=>by
  have e1:=f1
  have e2:=f2
  unfold Chain.At at e1 e2
  go_simp
 have mid:∀(a:Act),Fr 20 30 a0 a→Chain.At a 20 (.pointer (some ⟨P',1,none⟩))→Chain.At a 21 (.int .i64 (c:Int))→Chain.At a 22 (.int .i64 (wv:Int)) →
   Ord.jJ Tryz.prog ops Q 2 8 [true,true,true,false,false,false,false,false,false,false,false] a w1:=by
  intro a F f20 f21 f22
  have za:a.tmps.size=47:=F.size.trans hz
  refine Ord.dZ R (by kernel_rfl) (Ord.bM (k:=3) (v:=.bool false) (bs':=[true,true,true,true,false,false,false,false,false,false,false]) R rfl trivial (hlss a w1 f21 f22) (by rw [za]; decide) fun a3 N3=> ?_)
  have F3:=F.next N3 (by omega)
  have z3:a3.tmps.size=47:=F3.size.trans hz
  refine Ord.dZ R (by kernel_rfl) (Ord.bM (k:=4) (v:=.bool false) (bs':=[true,true,true,true,true,false,false,false,false,false,false]) R rfl trivial (fun ty=>Chain.j6 N3.got.ev) (by rw [z3]; decide) fun a4 N4=> ?_)
  have F4:=F3.next N4 (by omega)
  have z4:a4.tmps.size=47:=F4.size.trans hz
  have sh:∀a,Chain.At a 24 (.bool false)→Ord.Shut ops a (some (4,true)):=fun a ha=>R.shut (j:=4) rfl ha (Ord.Ws rfl)
  refine Ord.Ay R (k:=5) (bs':=[true,true,true,true,true,true,false,false,false,false,false]) rfl (by kernel_rfl) hQ (sh _ N4.got) (by rw [z4]; decide) fun a5 N5=> ?_
  have F5:=F4.next N5 (by omega)
  have z5:a5.tmps.size=47:=F5.size.trans hz
  have g5:=N5.keep 24 _ (by decide) N4.got
  refine Ord.Ay R (k:=6) (bs':=[true,true,true,true,true,true,true,false,false,false,false]) rfl (by kernel_rfl) hQ (sh _ g5) (by rw [z5]; decide) fun a6 N6=> ?_
  have F6:=F5.next N6 (by omega)
  have z6:a6.tmps.size=47:=F6.size.trans hz
  have g6:=N6.keep 24 _ (by decide) g5
  refine Ord.dZ R (by kernel_rfl) (Ord.uL (k:=7) (bs':=[true,true,true,true,true,true,true,true,false,false,false]) R rfl (sh _ g6) (by rw [z6]; decide) fun a7 N7=> ?_)
  have F7:=F6.next N7 (by omega)
  have z7:a7.tmps.size=47:=F7.size.trans hz
  have g7:=N7.keep 24 _ (by decide) g6
  refine Ord.dZ R (by kernel_rfl) (Ord.uL (k:=8) (bs':=[true,true,true,true,true,true,true,true,true,false,false]) R rfl (sh _ g7) (by rw [z7]; decide) fun a8 N8=> ?_)
  have F8:=F7.next N8 (by omega)
  have z8:a8.tmps.size=47:=F8.size.trans hz
  have g8:=N8.keep 24 _ (by decide) g7
  refine Ord.dZ R (by kernel_rfl) (Ord.uL (k:=9) (bs':=[true,true,true,true,true,true,true,true,true,true,false]) R rfl (sh _ g8) (by rw [z8]; decide) fun a9 N9=> ?_)
  have F9:=F8.next N9 (by omega)
  have z9:a9.tmps.size=47:=F9.size.trans hz
  have g9:=N9.keep 24 _ (by decide) g8
  refine Ord.dZ R (by kernel_rfl) (Ord.bM (k:=10) (v:=.bool false) (bs':=[true,true,true,true,true,true,true,true,true,true,true]) R rfl trivial (fun ty=>Ord.MJ g9.ev rfl) (by rw [z9]; decide) fun a10 N10=> ?_)
  refine Ord.KU R (by kernel_rfl) (h a10 (F9.next N10 (by omega)) ?_)
  have up4:∀t v,t<25→Chain.At a4 t v→Chain.At a10 t v:=fun t v ht hv=>N10.keep t _ (by omega) (N9.keep t _ (by omega) (N8.keep t _ (by omega) (N7.keep t _ (by omega) (N6.keep t _ (by omega) (N5.keep t _ (by omega) hv)))))
  have up:∀t v,t<23→Chain.At a t v→Chain.At a10 t v:=fun t v ht hv=>up4 t v (by omega) (N4.keep t _ (by omega) (N3.keep t _ (by omega) hv))
  intro j v hj
  match j,hj with
  | 0,hj=>injection hj with hj; subst hj; exact up _ _ (by omega) f20
  | 1,hj=>injection hj with hj; subst hj; exact up _ _ (by omega) f21
  | 2,hj=>injection hj with hj; subst hj; exact up _ _ (by omega) f22
  | 3,hj=>injection hj with hj; subst hj; exact up4 _ _ (by omega) (N4.keep _ _ (by decide) N3.got)
  | 4,hj=>injection hj with hj; subst hj; exact up4 _ _ (by omega) N4.got
  | 5,hj=>injection hj with hj; subst hj; exact N10.keep _ _ (by decide) (N9.keep _ _ (by decide) (N8.keep _ _ (by decide) (N7.keep _ _ (by decide) (N6.keep _ _ (by decide) N5.got))))
  | 6,hj=>injection hj with hj; subst hj; exact N10.keep _ _ (by decide) (N9.keep _ _ (by decide) (N8.keep _ _ (by decide) (N7.keep _ _ (by decide) N6.got)))
  | 7,hj=>injection hj with hj; subst hj; exact N10.keep _ _ (by decide) (N9.keep _ _ (by decide) (N8.keep _ _ (by decide) N7.got))
  | 8,hj=>injection hj with hj; subst hj; exact N10.keep _ _ (by decide) (N9.keep _ _ (by decide) N8.got)
  | 9,hj=>injection hj with hj; subst hj; exact N10.keep _ _ (by decide) N9.got
  | 10,hj=>injection hj with hj; subst hj; exact N10.got
  | j+11,hj=>simp at hj
 refine Ord.MO R (k:=0) (v:=.pointer (some ⟨P',1,none⟩)) (bs':=[true,false,false,false,false,false,false,false,false,false,false]) rfl (by kernel_rfl) hQ trivial (fun w ty=>by have e:=e4; clear hz; unfold Chain.At at e; go_simp) (by rw [hz]; decide) fun a1 N1=> ?_
 have F1:=(Fr.refl 20 30 a0).next N1 (by omega)
 have z1:a1.tmps.size=47:=F1.size.trans hz
 refine Ord.CJ R (i:=1) (j:=2) (bs1:=[true,true,false,false,false,false,false,false,false,false,false]) (bs2:=[true,false,true,false,false,false,false,false,false,false,false]) (by kernel_rfl) ?_ ?_
 ·refine Ord.bM (k:=1) R rfl trivial (ld1 a1 N1.got) (by rw [z1]; decide) fun a2 N2=> ?_
  have F2:=F1.next N2 (by omega)
  have z2:a2.tmps.size=47:=F2.size.trans hz
  refine Ord.dZ R (by kernel_rfl) (Ord.bM (k:=2) (bs':=[true,true,true,false,false,false,false,false,false,false,false]) R rfl trivial (ld2 a2 (F2.at e2 (by omega))) (by rw [z2]; decide) fun a3 N3=> ?_)
  exact mid a3 (F2.next N3 (by omega)) (N3.keep _ _ (by decide) (N2.keep _ _ (by decide) N1.got)) (N3.keep _ _ (by decide) N2.got) N3.got
 ·refine Ord.bM (k:=2) R rfl trivial (ld2 a1 (F1.at e2 (by omega))) (by rw [z1]; decide) fun a2 N2=> ?_
  have F2:=F1.next N2 (by omega)
  have z2:a2.tmps.size=47:=F2.size.trans hz
  refine Ord.dZ R (by kernel_rfl) (Ord.bM (k:=1) (bs':=[true,true,true,false,false,false,false,false,false,false,false]) R rfl trivial (ld1 a2 (N2.keep _ _ (by decide) N1.got)) (by rw [z2]; decide) fun a3 N3=> ?_)
  exact mid a3 (F2.next N3 (by omega)) (N3.keep _ _ (by decide) (N2.keep _ _ (by decide) N1.got)) N3.got (N3.keep _ _ (by decide) N2.got)
structure Rl (X:Nat→Prop) (A B:World):Prop where
 os:B.os=A.os
 tape:B.tape=A.tape
 output:B.output=A.output
 size:A.heap.size≤B.heap.size
 block:∀j,j<A.heap.size→(∀cs,A.heap[j]? = some (.cells cs 128 (0,0))→X j)→B.heap[j]? = A.heap[j]?
theorem Rl.laid {X:Nat→Prop} {A B:World} (h:Laid A B):Rl X A B:=⟨h.os,h.tape,h.output,h.size,fun j hj _=>h.block j hj⟩
theorem Rl.other {X:Nat→Prop} (A B:World) (j:Nat) (o:Obj) (h:Rl X A B) (ho:A.heap[j]? = some o) (hc:o.isCells=false):B.heap[j]? = some o :=
 (h.block j (Array.getElem?_eq_some_iff.1 ho).1 (fun cs e=>by rw [ho] at e; cases e; cases hc)).trans ho
theorem Rl.set {X:Nat→Prop} {W:World} {P':Nat} (h:∃cs,W.heap[P']? = some (.cells cs 128 (0,0))) (hx:¬X P') (k:Nat) (u:Value):Rl X W (W.setCell ⟨P',k,none⟩ u) :=
 ⟨rfl,rfl,rfl,by simp,fun j _ hj=>Below.heap_setCell _ _ _ _ (fun e=>by
  obtain ⟨cs,h⟩:=h
  have e':j=P':=e
  subst e'
  exact hx (hj cs h))⟩
theorem jY.set {S Bl Bw n c wv:Nat} {A:Option Addr} {l:List au} {W:World} {P':Nat} (h:jY S Bl Bw A n c wv l W) (h1:Bl<P') (h2:Bw<P') (h3:S≤P') (k:Nat) (u:Value):jY S Bl Bw A n c wv l (W.setCell ⟨P',k,none⟩ u) :=
 ⟨(Below.heap_setCell _ _ _ _ (by show Bl≠P'; omega)).trans h.bl,(Below.heap_setCell _ _ _ _ (by show Bw≠P'; omega)).trans h.bw,h.sq.setCell (p:=⟨P',k,none⟩) h3 u,by simp; exact h.big⟩
def gV (W:World) (P':Nat) (rc:Nat×Nat):Prop:=W.heap[P']? = some (.cells #[.int .i64 (rc.1:Int),.int .i64 (rc.2:Int)] 128 (0,0))
theorem gV.own {W:World} {P':Nat} {rc:Nat×Nat} (h:gV W P' rc):U3 W P':=⟨_,_,h,.inl rfl⟩
theorem gV.laid {W W':World} {P':Nat} {rc:Nat×Nat} (h:gV W P' rc) (hb:Laid W W'):gV W' P' rc:=(hb.block _ (Array.getElem?_eq_some_iff.1 h).1).trans h
theorem Jr {S Bl Bw:Nat} {X:Nat→Prop} {A:Option Addr} {n c wv:Nat} {l:List au} {Kp:World→World→Prop} {w:World} (h:jY S Bl Bw A n c wv l w) (hl12:∀x∈l,tY x) (hw2:2≤wv) (hw3:wv≤300) (hX:∀j,X j→j<w.heap.size)
  (hKp:∀A B,Kp A B→bT S Bl Bw X A B) (hn:n≤1000000) :
  PE (Rl X) Tryz.prog 111 #[.pointer (some ⟨Bl,0,none⟩),.pointer (some ⟨Bw,0,none⟩)] (aJ wv l).2.length (Jq (aJ wv l).2) Kp w:=by
 intro y J Jx W hL hJ hJx hY h0
 obtain ⟨N,hN⟩:∃N,(aJ wv l).2.length=N:=⟨_,rfl⟩
 obtain ⟨P',hP'⟩:∃P',W.heap.size=P':=⟨_,rfl⟩
 have XP:=Lib.hid (show ∀j,P'≤j→¬X j from fun j hj hx=>by have:=hX j hx; have:=hL.size; omega)
 have PB:=Lib.hid (show Bl<P'∧Bw<P'∧S≤P' from by
  have h1:=(Array.getElem?_eq_some_iff.1 (h.laid hL).bl).1
  have h2:=(Array.getElem?_eq_some_iff.1 (h.laid hL).bw).1
  have h3:=(h.laid hL).big
  omega)
 have YH:=Lib.hid hY
 have JH:=Lib.hid hJ
 have KH:=Lib.hid hKp
 have NH:=Lib.hid hN
 have W12H:=Lib.hid hl12
 have hll:l.length=n:=by have:=h.sq.len; rw [aX] at this; omega
 have LN:=Lib.hid hll
 rw [hN] at YH ⊢
 have b0:Laid W (W.alloc (.cells #[.int .i64 0,.int .i64 0] 128)):=(Below.refl _ _).alloc (Nat.le_refl _) _
 have LS1:=Lib.hid ((h.laid hL).laid b0)
 have PA1:=Lib.hid (show gV (W.alloc (.cells #[.int .i64 0,.int .i64 0] 128)) P' (0,0) from by rw [←hP']; exact heap_alloc_new W _)
 have JJ1:=Lib.hid (hJ 0 _ _ h0 (Rl.laid b0))
 have HP:=Lib.hid hP'
 have c1:(W.alloc (.cells #[.int .i64 0,.int .i64 0] 128)).cell? ⟨Bl,0,none⟩=some (.slice A n c):=cell_of_row _ _ 0 _ _ (0,0) LS1.out.bl
 clear hY hJ hJx hKp hN h hL h0 hX hl12 hll b0 hP'
 refine callsIn_of_wp Tryz.func111 rfl trivial ?_ rfl
 simp only [Tryz.ntmps111,List.size_toArray,List.length_cons,List.length_nil,Nat.reduceAdd,Nat.reduceSub,Array.replicate_succ,Array.replicate_zero,List.push_toArray,List.append_toArray,List.nil_append,List.cons_append]
 gi_wp2
 rw [HP.out]
 gi_loopw [9] (fun t wr=>∃i:Nat,t=.int .i64 i∧i≤n∧Hid (jY S Bl Bw A n c wv l wr)∧Hid (gV wr P' (aJ wv (l.take i)).1)∧Hid (J (aJ wv (l.take i)).2.length wr)) (fun t _=>n - (intOf t).toNat)
 case atStart=>exact ⟨0,rfl,Nat.zero_le _,LS1,PA1,JJ1⟩
 case round =>
  obtain ⟨i,rfl,hi,LS,PA,JJ⟩:=hrel
  clear LS1 PA1 JJ1 c1
  by_cases hlt:i<n
  ·obtain ⟨b,off,rfl,hb,⟨r0,m,a⟩,hcc,q0,q1,q2⟩:=LS.out.sq.three hlt
   have HC:=Lib.hid hcc
   have hx12:=W12H.out _ (List.mem_of_getElem? hcc)
   have hbd:=Cn (w:=wv) hw2 (l.take i) (fun x hx=>W12H.out x (List.mem_of_mem_take hx))
   have hti:(l.take i).length≤i:=by rw [List.length_take]; omega
   obtain ⟨⟨⟨r,cc⟩,out⟩,hs⟩:∃s,aJ wv (l.take i)=s:=⟨_,rfl⟩
   rw [hs] at PA JJ hbd
   obtain ⟨mw,rfl,hm1,hm2⟩:∃mw:Nat,m=(mw:Int)∧1≤mw∧mw≤2:=by
    rcases hx12 with h | h
    ·exact ⟨1,h,by omega,by omega⟩
    ·exact ⟨2,h,by omega,by omega⟩
   have HMW:=Lib.hid (show wd (r0,(mw:Int),a)=mw from Int.toNat_natCast mw)
   have hb1:cc≤wv:=hbd.1
   have hb2:r≤i:=Nat.le_trans hbd.2.1 hti
   have NXT:=Lib.hid (show aJ wv (l.take (i+1))=gJ wv ((r,cc),out) (r0,(mw:Int),a) from by rw [take_one hcc,jH,hs])
   have GET:=Lib.hid (fun k z hz=>OD (w:=wv) (k:=k) (y:=z) HC.out (by rw [hs]; exact hz))
   have bb:Laid wr (wr.alloc (.cells #[.int .i32 r0,.int .i64 (mw:Int),.int .i64 a] 76)):=(Below.refl _ _).alloc (Nat.le_refl _) _
   have LS3:=Lib.hid (LS.out.laid bb)
   have PA3:=Lib.hid (PA.out.laid bb)
   have J3:=Lib.hid (JH.out _ _ _ JJ.out (Rl.laid bb))
   have PAW:=PA
   have GC:=Lib.hid (show P'≤wr.heap.size from by have:=(Array.getElem?_eq_some_iff.1 PA.out).1; omega)
   clear hcc hbd hti hs hx12 bb LS PA JJ
   have k1:(wr.alloc (.cells #[.int .i32 r0,.int .i64 (mw:Int),.int .i64 a] 76)).cell? ⟨P',1,none⟩=some (.int .i64 (cc:Int)):=cell_of_row _ _ 1 _ _ (0,0) PA3.out
   have kw:(wr.alloc (.cells #[.int .i32 r0,.int .i64 (mw:Int),.int .i64 a] 76)).cell? ⟨Bw,0,none⟩=some (.int .i64 (wv:Int)):=cell_of_row _ _ 0 _ _ (0,0) LS3.out.bw
   have k0:(wr.alloc (.cells #[.int .i32 r0,.int .i64 (mw:Int),.int .i64 a] 76)).cell? ⟨P',0,none⟩=some (.int .i64 (r:Int)):=cell_of_row _ _ 0 _ _ (0,0) PA3.out
   have m1:(wr.alloc (.cells #[.int .i32 r0,.int .i64 (mw:Int),.int .i64 a] 76)).cell? ⟨wr.heap.size,1,none⟩=some (.int .i64 (mw:Int)):=cell_of_row _ _ 1 _ _ (0,0) (heap_alloc_new wr _)
   by_cases hgt:wv<cc+mw
   ·have hgt':(wv:Int)<(cc:Int)+(mw:Int):=by omega
    have GC2:=Lib.hid (show P'<wr.heap.size from (Array.getElem?_eq_some_iff.1 PAW.out).1)
    have CB3:=Lib.hid (heap_alloc_new wr (.cells #[.int .i32 r0,.int .i64 (mw:Int),.int .i64 a] 76))
    by_cases hpd:cc<wv
    ·have PST:=Lib.hid (show gJ wv ((r,cc),out) (r0,(mw:Int),a)=((r+1,mw),out++[((r,cc),iZ),((r+1,0),(r0,(mw:Int),a))]) from by unfold gJ; simp only [HMW.out]; rw [if_pos hgt,if_pos hpd]; rfl)
     have TP:=Lib.hid (show (aJ wv l).2[out.length]? = some ((r,cc),iZ) from GET.out _ _ (by rw [PST.out]; simp))
     have KP:=Lib.hid (show out.length<N from by rw [←NH.out]; exact (List.getElem?_eq_some_iff.1 TP.out).1)
     gi_wp2_with fail
     refine Ord.PD (n:=11) (by kernel_rfl) (by kernel_rfl) ?_
     refine Yi (P':=P') (Bw:=Bw) (l:=y) (r:=r) (c:=cc) (wv:=wv) (w1:=World.drew (wr.alloc (.cells #[.int .i32 r0,.int .i64 (mw:Int),.int .i64 a] 76))) (Post:=fun bb w2=>(bb=true∧J (out.length+1) w2∧∃w',Laid (wr.alloc (.cells #[.int .i32 r0,.int .i64 (mw:Int),.int .i64 a] 76)) w'∧Kp w' w2)∨(bb=false∧Jx (out.length+1) w2)) ⟨by kernel_rfl,by kernel_rfl⟩ (fun _ _ _ _ _ h=>h) PA3.out LS3.out.bw hpd ?_ _ ?_ ?_ ?_ ?_ ?_
     ·intro w' hb
      have hb':Laid (wr.alloc (.cells #[.int .i32 r0,.int .i64 (mw:Int),.int .i64 a] 76)) w':=⟨hb.os,hb.tape,hb.output,hb.size,hb.block⟩
      obtain ⟨fn,tmps,assign,body,hy,hR⟩:=YH.out _ #[.agg #[.int .i64 (r:Int),.int .i64 (cc:Int)],cellV 0 1 0] w' KP.out (JH.out _ _ _ J3.out (Rl.laid hb')) ⟨_,TP.out,rfl⟩
      refine ⟨fn,tmps,assign,body,hy,hR.mono ?_⟩
      rintro e w2 (⟨rfl,h1,h2⟩ | ⟨rfl,h1⟩)
      ·exact ⟨true,rfl,.inl ⟨rfl,h1,w',hb',h2⟩⟩
      ·exact ⟨false,rfl,.inr ⟨rfl,h1⟩⟩
     ·rfl
     ·rfl
     ·rfl
     ·rfl
     ·rintro a2 W5 bb hpost F hv
      have ea:=F.out (by omega) (by simp) _ rfl hv
      rw [ea]
      clear ea F hv a2 k1 kw k0 m1
      simp only [List.take_succ_cons,List.take_zero,List.drop_succ_cons,List.drop_zero,List.cons_append,List.nil_append]
      rcases hpost with ⟨rfl,hJ5,w',hb',hk5⟩ | ⟨rfl,hJx5⟩
      ·simp only [Bool.not_true]
       have KK:=KH.out _ _ hk5
       have LSA:=Lib.hid ((LS3.out.laid hb').kept KK)
       have PAA:=Lib.hid (show gV W5 P' (r,cc) from (KK.2 P' (.inr (.inr (.inr ⟨(PA3.out.laid hb').own,XP.out P' (Nat.le_refl _)⟩)))).trans (PA3.out.laid hb'))
       have hcb:=(hb'.block wr.heap.size (by simp)).trans CB3.out
       have CBA:=Lib.hid (show W5.heap[wr.heap.size]? = some (.cells #[.int .i32 r0,.int .i64 (mw:Int),.int .i64 a] 76 (0,0)) from (KK.2 wr.heap.size (.inr (.inr (.inr ⟨⟨_,_,hcb,.inr ⟨rfl,rfl⟩⟩,XP.out _ GC.out⟩)))).trans hcb)
       have JA:=Lib.hid hJ5
       clear hJ5 hk5 hb' KK hcb LS3 PA3 J3 CB3
       have k0:W5.cell? ⟨P',0,none⟩=some (.int .i64 (r:Int)):=cell_of_row _ _ 0 _ _ (0,0) PAA.out
       have k1:W5.cell? ⟨P',1,none⟩=some (.int .i64 (cc:Int)):=cell_of_row _ _ 1 _ _ (0,0) PAA.out
       have f0:=frozen_of_row W5 P' 0 _ _ PAA.out
       have f1:=frozen_of_row W5 P' 1 _ _ PAA.out
       have h6:=heap_setCell_same _ P' 1 _ _ (.int .i64 0) (heap_setCell_same W5 P' 0 _ _ (.int .i64 ((r:Int)+1)) PAA.out)
       have PA6:=Lib.hid (show gV ((W5.setCell ⟨P',0,none⟩ (.int .i64 ((r:Int)+1))).setCell ⟨P',1,none⟩ (.int .i64 0)) P' (r+1,0) from by simpa [gV] using h6)
       have LS6:=Lib.hid ((LSA.out.set PB.out.1 PB.out.2.1 PB.out.2.2 0 (.int .i64 ((r:Int)+1))).set PB.out.1 PB.out.2.1 PB.out.2.2 1 (.int .i64 0))
       have CB6:=Lib.hid (show ((W5.setCell ⟨P',0,none⟩ (.int .i64 ((r:Int)+1))).setCell ⟨P',1,none⟩ (.int .i64 0)).heap[wr.heap.size]? = some (.cells #[.int .i32 r0,.int .i64 (mw:Int),.int .i64 a] 76 (0,0)) from (Below.heap_setCell _ _ _ _ (by have:=GC2.out; show wr.heap.size≠P'; omega)).trans ((Below.heap_setCell _ _ _ _ (by have:=GC2.out; show wr.heap.size≠P'; omega)).trans CBA.out))
       have J6:=Lib.hid (JH.out _ _ _ (JH.out _ _ _ JA.out (Rl.set (X:=X) (W:=W5) (P':=P') ⟨_,PAA.out⟩ (XP.out P' (Nat.le_refl _)) 0 (.int .i64 ((r:Int)+1)))) (Rl.set (X:=X) (P':=P') ⟨_,heap_setCell_same W5 P' 0 _ _ (.int .i64 ((r:Int)+1)) PAA.out⟩ (XP.out P' (Nat.le_refl _)) 1 (.int .i64 0)))
       have TG:=Lib.hid (show (aJ wv l).2[out.length+1]? = some ((r+1,0),(r0,(mw:Int),a)) from GET.out _ _ (by
        rw [PST.out]
        simp))
       have KL:=Lib.hid (show out.length+1<N from by rw [←NH.out]; exact (List.getElem?_eq_some_iff.1 TG.out).1)
       have FT:=Lib.hid (show ∀W,Jq (aJ wv l).2 (out.length+1) #[.agg #[.int .i64 ((r:Int)+1),.int .i64 0],cellV r0 (mw:Int) a] W from fun W=>⟨_,TG.out,by simp⟩)
       obtain ⟨fn,tmps,assign,body,hy,hR⟩:=YH.out _ _ _ KL.out J6.out (FT.out _)
       have RR:=Lib.hid hR
       have g0:((W5.setCell ⟨P',0,none⟩ (.int .i64 ((r:Int)+1))).setCell ⟨P',1,none⟩ (.int .i64 0)).cell? ⟨P',0,none⟩=some (.int .i64 ((r:Int)+1)):=by have:=cell_of_row _ P' 0 _ _ (0,0) PA6.out; simpa using this
       have g1:((W5.setCell ⟨P',0,none⟩ (.int .i64 ((r:Int)+1))).setCell ⟨P',1,none⟩ (.int .i64 0)).cell? ⟨P',1,none⟩=some (.int .i64 0):=by have:=cell_of_row _ P' 1 _ _ (0,0) PA6.out; simpa using this
       have n0:((W5.setCell ⟨P',0,none⟩ (.int .i64 ((r:Int)+1))).setCell ⟨P',1,none⟩ (.int .i64 0)).cell? ⟨wr.heap.size,0,none⟩=some (.int .i32 r0):=cell_of_row _ _ 0 _ _ (0,0) CB6.out
       have n1:((W5.setCell ⟨P',0,none⟩ (.int .i64 ((r:Int)+1))).setCell ⟨P',1,none⟩ (.int .i64 0)).cell? ⟨wr.heap.size,1,none⟩=some (.int .i64 (mw:Int)):=cell_of_row _ _ 1 _ _ (0,0) CB6.out
       have n2:((W5.setCell ⟨P',0,none⟩ (.int .i64 ((r:Int)+1))).setCell ⟨P',1,none⟩ (.int .i64 0)).cell? ⟨wr.heap.size,2,none⟩=some (.int .i64 a):=cell_of_row _ _ 2 _ _ (0,0) CB6.out
       have LSY:=LS6
       have PAY:=PA6
       have CBY:=CB6
       clear hR h6
       gi_wp2_with fail
       clear k0 k1 f0 f1 g0 g1 n0 n1 n2 LSA PAA CBA JA LS6 PA6 CB6 J6
       refine RR.out.mono ?_
       rintro e W5 (⟨rfl,hJ5,hk5⟩ | ⟨rfl,hJx5⟩)
       ·have KK:=KH.out _ _ hk5
        have LS5:=Lib.hid (LSY.out.kept KK)
        have PA5:=Lib.hid (show gV W5 P' (r+1,0) from (KK.2 P' (.inr (.inr (.inr ⟨PAY.out.own,XP.out P' (Nat.le_refl _)⟩)))).trans PAY.out)
        have CB5:=Lib.hid (show W5.heap[wr.heap.size]? = some (.cells #[.int .i32 r0,.int .i64 (mw:Int),.int .i64 a] 76 (0,0)) from (KK.2 wr.heap.size (.inr (.inr (.inr ⟨⟨_,_,CBY.out,.inr ⟨rfl,rfl⟩⟩,XP.out _ GC.out⟩)))).trans CBY.out)
        have J5:=Lib.hid hJ5
        have k1:W5.cell? ⟨P',1,none⟩=some (.int .i64 (0:Int)):=cell_of_row _ _ 1 _ _ (0,0) PA5.out
        have f1:=frozen_of_row W5 P' 1 _ _ PA5.out
        have m1:W5.cell? ⟨wr.heap.size,1,none⟩=some (.int .i64 (mw:Int)):=cell_of_row _ _ 1 _ _ (0,0) CB5.out
        clear hJ5 hk5 hy RR LSY PAY CBY FT KK
        gi_wp2
        go_roundw
        case rel =>
         refine ⟨i+1,by go_num,by omega,Lib.hid ?_,Lib.hid ?_,Lib.hid ?_⟩
         ·exact LS5.out.set PB.out.1 PB.out.2.1 PB.out.2.2 _ _
         ·rw [NXT.out]
          have h1:=heap_setCell_same W5 P' 1 _ _ (.int .i64 (((0:Nat):Int)+(mw:Int))) PA5.out
          rw [show ((0:Nat):Int)+(mw:Int)=((0+mw:Nat):Int) by omega] at h1
          rw [PST.out]
          simpa [gV] using h1
         ·rw [NXT.out]
          have h1:=JH.out _ _ _ J5.out (Rl.set (X:=X) (W:=W5) (P':=P') ⟨_,PA5.out⟩ (XP.out P' (Nat.le_refl _)) 1 (.int .i64 (((0:Nat):Int)+(mw:Int))))
          rw [PST.out]
          simpa using h1
        case measure=>simp [intOf]; omega
       ·have DX:=Lib.hid hJx5
        clear hJx5 hy RR LSY PAY CBY FT
        gi_wp2
        refine bodyPost_ret (results_none rfl _ _ _) rfl ?_
        exact ⟨⟨_,rfl⟩,.inr ⟨_,KL.out,DX.out⟩⟩
      ·simp only [Bool.not_false]
       have DX:=Lib.hid hJx5
       clear hJx5 LS3 PA3 J3 CB3
       gi_wp2
       refine bodyPost_ret (results_none rfl _ _ _) rfl ?_
       exact ⟨⟨_,rfl⟩,.inr ⟨_,KP.out,DX.out⟩⟩
    ·have PST:=Lib.hid (show gJ wv ((r,cc),out) (r0,(mw:Int),a)=((r+1,mw),out++[((r+1,0),(r0,(mw:Int),a))]) from by unfold gJ; simp only [HMW.out]; rw [if_pos hgt,if_neg hpd]; rfl)
     have hpd':¬(cc:Int)<(wv:Int):=by omega
     gi_wp2_with fail
     refine Ord.PD (n:=11) (by kernel_rfl) (by kernel_rfl) ?_
     refine XT (P':=P') (Bw:=Bw) (r:=r) (c:=cc) (wv:=wv) (w1:=World.drew (wr.alloc (.cells #[.int .i32 r0,.int .i64 (mw:Int),.int .i64 a] 76))) ⟨by kernel_rfl,by kernel_rfl⟩ (fun _ _ _ _ _ h=>h) PA3.out LS3.out.bw hpd _ ?_ ?_ ?_ ?_
     ·rfl
     ·rfl
     ·rfl
     ·rintro a2 F hv
      have ea:=F.out (by omega) (by simp) _ rfl hv
      rw [ea]
      clear ea F hv a2 k1 kw k0 m1
      simp only [List.take_succ_cons,List.take_zero,List.drop_succ_cons,List.drop_zero,List.cons_append,List.nil_append]
      have bd:Laid (wr.alloc (.cells #[.int .i32 r0,.int .i64 (mw:Int),.int .i64 a] 76)) (World.drew (wr.alloc (.cells #[.int .i32 r0,.int .i64 (mw:Int),.int .i64 a] 76))):=(Below.refl _ _).drew
      have LSA:=Lib.hid (LS3.out.laid bd)
      have PAA:=Lib.hid (PA3.out.laid bd)
      have CBA:=Lib.hid ((bd.block wr.heap.size (by simp)).trans CB3.out)
      have JA:=Lib.hid (JH.out _ _ _ J3.out (Rl.laid bd))
      clear bd LS3 PA3 J3 CB3
      generalize World.drew (wr.alloc (.cells #[.int .i32 r0,.int .i64 (mw:Int),.int .i64 a] 76))=W5 at LSA PAA CBA JA ⊢
      have k0:W5.cell? ⟨P',0,none⟩=some (.int .i64 (r:Int)):=cell_of_row _ _ 0 _ _ (0,0) PAA.out
      have k1:W5.cell? ⟨P',1,none⟩=some (.int .i64 (cc:Int)):=cell_of_row _ _ 1 _ _ (0,0) PAA.out
      have f0:=frozen_of_row W5 P' 0 _ _ PAA.out
      have f1:=frozen_of_row W5 P' 1 _ _ PAA.out
      have h6:=heap_setCell_same _ P' 1 _ _ (.int .i64 0) (heap_setCell_same W5 P' 0 _ _ (.int .i64 ((r:Int)+1)) PAA.out)
      have PA6:=Lib.hid (show gV ((W5.setCell ⟨P',0,none⟩ (.int .i64 ((r:Int)+1))).setCell ⟨P',1,none⟩ (.int .i64 0)) P' (r+1,0) from by simpa [gV] using h6)
      have LS6:=Lib.hid ((LSA.out.set PB.out.1 PB.out.2.1 PB.out.2.2 0 (.int .i64 ((r:Int)+1))).set PB.out.1 PB.out.2.1 PB.out.2.2 1 (.int .i64 0))
      have CB6:=Lib.hid (show ((W5.setCell ⟨P',0,none⟩ (.int .i64 ((r:Int)+1))).setCell ⟨P',1,none⟩ (.int .i64 0)).heap[wr.heap.size]? = some (.cells #[.int .i32 r0,.int .i64 (mw:Int),.int .i64 a] 76 (0,0)) from (Below.heap_setCell _ _ _ _ (by have:=GC2.out; show wr.heap.size≠P'; omega)).trans ((Below.heap_setCell _ _ _ _ (by have:=GC2.out; show wr.heap.size≠P'; omega)).trans CBA.out))
      have J6:=Lib.hid (JH.out _ _ _ (JH.out _ _ _ JA.out (Rl.set (X:=X) (W:=W5) (P':=P') ⟨_,PAA.out⟩ (XP.out P' (Nat.le_refl _)) 0 (.int .i64 ((r:Int)+1)))) (Rl.set (X:=X) (P':=P') ⟨_,heap_setCell_same W5 P' 0 _ _ (.int .i64 ((r:Int)+1)) PAA.out⟩ (XP.out P' (Nat.le_refl _)) 1 (.int .i64 0)))
      have TG:=Lib.hid (show (aJ wv l).2[out.length]? = some ((r+1,0),(r0,(mw:Int),a)) from GET.out _ _ (by
       rw [PST.out]
       simp))
      have KL:=Lib.hid (show out.length<N from by rw [←NH.out]; exact (List.getElem?_eq_some_iff.1 TG.out).1)
      have FT:=Lib.hid (show ∀W,Jq (aJ wv l).2 (out.length) #[.agg #[.int .i64 ((r:Int)+1),.int .i64 0],cellV r0 (mw:Int) a] W from fun W=>⟨_,TG.out,by simp⟩)
      obtain ⟨fn,tmps,assign,body,hy,hR⟩:=YH.out _ _ _ KL.out J6.out (FT.out _)
      have RR:=Lib.hid hR
      have g0:((W5.setCell ⟨P',0,none⟩ (.int .i64 ((r:Int)+1))).setCell ⟨P',1,none⟩ (.int .i64 0)).cell? ⟨P',0,none⟩=some (.int .i64 ((r:Int)+1)):=by have:=cell_of_row _ P' 0 _ _ (0,0) PA6.out; simpa using this
      have g1:((W5.setCell ⟨P',0,none⟩ (.int .i64 ((r:Int)+1))).setCell ⟨P',1,none⟩ (.int .i64 0)).cell? ⟨P',1,none⟩=some (.int .i64 0):=by have:=cell_of_row _ P' 1 _ _ (0,0) PA6.out; simpa using this
      have n0:((W5.setCell ⟨P',0,none⟩ (.int .i64 ((r:Int)+1))).setCell ⟨P',1,none⟩ (.int .i64 0)).cell? ⟨wr.heap.size,0,none⟩=some (.int .i32 r0):=cell_of_row _ _ 0 _ _ (0,0) CB6.out
      have n1:((W5.setCell ⟨P',0,none⟩ (.int .i64 ((r:Int)+1))).setCell ⟨P',1,none⟩ (.int .i64 0)).cell? ⟨wr.heap.size,1,none⟩=some (.int .i64 (mw:Int)):=cell_of_row _ _ 1 _ _ (0,0) CB6.out
      have n2:((W5.setCell ⟨P',0,none⟩ (.int .i64 ((r:Int)+1))).setCell ⟨P',1,none⟩ (.int .i64 0)).cell? ⟨wr.heap.size,2,none⟩=some (.int .i64 a):=cell_of_row _ _ 2 _ _ (0,0) CB6.out
      have LSY:=LS6
      have PAY:=PA6
      have CBY:=CB6
      clear hR h6
      gi_wp2_with fail
      clear k0 k1 f0 f1 g0 g1 n0 n1 n2 LSA PAA CBA JA LS6 PA6 CB6 J6
      refine RR.out.mono ?_
      rintro e W5 (⟨rfl,hJ5,hk5⟩ | ⟨rfl,hJx5⟩)
      ·have KK:=KH.out _ _ hk5
       have LS5:=Lib.hid (LSY.out.kept KK)
       have PA5:=Lib.hid (show gV W5 P' (r+1,0) from (KK.2 P' (.inr (.inr (.inr ⟨PAY.out.own,XP.out P' (Nat.le_refl _)⟩)))).trans PAY.out)
       have CB5:=Lib.hid (show W5.heap[wr.heap.size]? = some (.cells #[.int .i32 r0,.int .i64 (mw:Int),.int .i64 a] 76 (0,0)) from (KK.2 wr.heap.size (.inr (.inr (.inr ⟨⟨_,_,CBY.out,.inr ⟨rfl,rfl⟩⟩,XP.out _ GC.out⟩)))).trans CBY.out)
       have J5:=Lib.hid hJ5
       have k1:W5.cell? ⟨P',1,none⟩=some (.int .i64 (0:Int)):=cell_of_row _ _ 1 _ _ (0,0) PA5.out
       have f1:=frozen_of_row W5 P' 1 _ _ PA5.out
       have m1:W5.cell? ⟨wr.heap.size,1,none⟩=some (.int .i64 (mw:Int)):=cell_of_row _ _ 1 _ _ (0,0) CB5.out
       clear hJ5 hk5 hy RR LSY PAY CBY FT KK
       gi_wp2
       go_roundw
       case rel =>
        refine ⟨i+1,by go_num,by omega,Lib.hid ?_,Lib.hid ?_,Lib.hid ?_⟩
        ·exact LS5.out.set PB.out.1 PB.out.2.1 PB.out.2.2 _ _
        ·rw [NXT.out]
         have h1:=heap_setCell_same W5 P' 1 _ _ (.int .i64 (((0:Nat):Int)+(mw:Int))) PA5.out
         rw [show ((0:Nat):Int)+(mw:Int)=((0+mw:Nat):Int) by omega] at h1
         rw [PST.out]
         simpa [gV] using h1
        ·rw [NXT.out]
         have h1:=JH.out _ _ _ J5.out (Rl.set (X:=X) (W:=W5) (P':=P') ⟨_,PA5.out⟩ (XP.out P' (Nat.le_refl _)) 1 (.int .i64 (((0:Nat):Int)+(mw:Int))))
         rw [PST.out]
         simpa using h1
       case measure=>simp [intOf]; omega
      ·have DX:=Lib.hid hJx5
       clear hJx5 hy RR LSY PAY CBY FT
       gi_wp2
       refine bodyPost_ret (results_none rfl _ _ _) rfl ?_
       exact ⟨⟨_,rfl⟩,.inr ⟨_,KL.out,DX.out⟩⟩
   ·have hgt':¬(wv:Int)<(cc:Int)+(mw:Int):=by omega
    have TG:=Lib.hid (show (aJ wv l).2[out.length]? = some ((r,cc),(r0,(mw:Int),a)) from GET.out _ _ (by
     unfold gJ
     rw [if_neg (by rw [HMW.out]; simpa using hgt)]
     simp))
    have KL:=Lib.hid (show out.length<N from by rw [←NH.out]; exact (List.getElem?_eq_some_iff.1 TG.out).1)
    have FT:=Lib.hid (show ∀W,Jq (aJ wv l).2 out.length #[.agg #[.int .i64 (r:Int),.int .i64 (cc:Int)],cellV r0 (mw:Int) a] W from fun W=>⟨_,TG.out,rfl⟩)
    obtain ⟨fn,tmps,assign,body,hy,hR⟩:=YH.out _ _ _ KL.out J3.out (FT.out _)
    have RR:=Lib.hid hR
    clear hR J3
    have LSY:=LS3
    have PAY:=PA3
    have CBY:=Lib.hid (heap_alloc_new wr (.cells #[.int .i32 r0,.int .i64 (mw:Int),.int .i64 a] 76))
    gi_wp2_with fail
    clear k1 kw k0 m1
    refine RR.out.mono ?_
    rintro e W5 (⟨rfl,hJ5,hk5⟩ | ⟨rfl,hJx5⟩)
    ·have KK:=KH.out _ _ hk5
     have LS5:=Lib.hid (LSY.out.kept KK)
     have PA5:=Lib.hid (show gV W5 P' (r,cc) from (KK.2 P' (.inr (.inr (.inr ⟨PAY.out.own,XP.out P' (Nat.le_refl _)⟩)))).trans PAY.out)
     have CB5:=Lib.hid (show W5.heap[wr.heap.size]? = some (.cells #[.int .i32 r0,.int .i64 (mw:Int),.int .i64 a] 76 (0,0)) from (KK.2 wr.heap.size (.inr (.inr (.inr ⟨⟨_,_,CBY.out,.inr ⟨rfl,rfl⟩⟩,XP.out _ GC.out⟩)))).trans CBY.out)
     have J5:=Lib.hid hJ5
     have k1:W5.cell? ⟨P',1,none⟩=some (.int .i64 (cc:Int)):=cell_of_row _ _ 1 _ _ (0,0) PA5.out
     have f1:=frozen_of_row W5 P' 1 _ _ PA5.out
     have m1:W5.cell? ⟨wr.heap.size,1,none⟩=some (.int .i64 (mw:Int)):=cell_of_row _ _ 1 _ _ (0,0) CB5.out
     clear hJ5 hk5 hy RR LSY PAY CBY FT KK
     gi_wp2
     go_roundw
     case rel =>
      refine ⟨i+1,by go_num,by omega,Lib.hid ?_,Lib.hid ?_,Lib.hid ?_⟩
      ·exact LS5.out.set PB.out.1 PB.out.2.1 PB.out.2.2 _ _
      ·rw [NXT.out]
       have h1:=heap_setCell_same W5 P' 1 _ _ (.int .i64 (((cc:Nat):Int)+(mw:Int))) PA5.out
       rw [show ((cc:Nat):Int)+(mw:Int)=((cc+mw:Nat):Int) by omega] at h1
       rw [show gJ wv ((r,cc),out) (r0,(mw:Int),a)=((r,cc+mw),out++[((r,cc),(r0,(mw:Int),a))]) from by unfold gJ; simp only [HMW.out]; rw [if_neg hgt]]
       simpa [gV] using h1
      ·rw [NXT.out]
       have h1:=JH.out _ _ _ J5.out (Rl.set (X:=X) (W:=W5) (P':=P') ⟨_,PA5.out⟩ (XP.out P' (Nat.le_refl _)) 1 (.int .i64 (((cc:Nat):Int)+(mw:Int))))
       rw [show gJ wv ((r,cc),out) (r0,(mw:Int),a)=((r,cc+mw),out++[((r,cc),(r0,(mw:Int),a))]) from by unfold gJ; simp only [HMW.out]; rw [if_neg hgt]]
       simpa using h1
     case measure=>simp [intOf]; omega
    ·have DX:=Lib.hid hJx5
     clear hJx5 hy RR LSY PAY CBY FT
     gi_wp2
     refine bodyPost_ret (results_none rfl _ _ _) rfl ?_
     exact ⟨⟨_,rfl⟩,.inr ⟨_,KL.out,DX.out⟩⟩
  ·obtain rfl:i=n:=by omega
   have DN:=Lib.hid (show J N wr from by have:=JJ.out; rwa [List.take_of_length_le (by rw [LN.out]; exact Nat.le_refl _),NH.out] at this)
   gi_wp2
   go_end0
   exact ⟨⟨_,rfl⟩,.inl DN.out⟩
end Ln
