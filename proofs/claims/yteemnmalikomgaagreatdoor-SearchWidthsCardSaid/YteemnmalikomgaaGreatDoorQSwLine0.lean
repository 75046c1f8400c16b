import Derived.Test.YteemnmalikomgaaGreatDoorQSwBase0
import Derived.RangeFuncNested
import Derived.RangeFuncLeaves
namespace Go.Proofs.YteemnmalikomgaaGreatDoor
open Go.RowKit
section
variable {P:Program}
abbrev Laid (A B:World):Prop:=Below A.heap.size A B
def bP (P:Program) (g:Nat) (lb:Array Value) (N:Nat) (Fit:Nat→Array Value→World→Prop) (Kp:World→World→Prop) (w:World):Prop :=
 ∀(l:Nat) (J Jx:Nat→World→Prop) (W:World),Laid w W→(∀k A B,J k A→Laid A B→J k B)→(∀k A B,Jx k A→Laid A B→Jx k B) →
  (∀k x W1,k<N→J k W1→Fit k x W1→YieldAt Fence.wide 1 P l x W1 fun e W'=>(e=.returned (.bool true)∧J (k+1) W'∧Kp W1 W')∨(e=.returned (.bool false)∧Jx (k+1) W')) →
  J 0 W→CallsIn Fence.wide 2 P g (#[.func (.yield l) #[] #[]]++lb) W fun e W'=>(∃v,e=.returned v)∧(J N W'∨∃k,k<N∧Jx (k+1) W')
def G8 (B:Nat) (Kp:World→World→Prop) (I:Nat→World→Prop) (Ix:Code→Nat→World→Prop) (k:Nat) (W:World):Exit→Act→World→Prop
 | .normal,_,W'=>KeepsFrom B W W'∧Kp W W'∧I k W'
 | .ret,_,W'=>KeepsFrom B W W'∧Ix .ret k W'
 | .exit id,_,W'=>KeepsFrom B W W'∧Ix (.exit id) k W'
 | .goto t,_,W'=>KeepsFrom B W W'∧Ix (.goto t) k W'
 | .panic _,_,_=>False
 | .outgrown,_,_=>False
def FQ (B:Nat) (p:World→Prop):Prop:=∀(W:World) (l:Nat) (o o':Obj),B≤l→W.heap[l]? = some o→o.isCells=false→p W→p (W.putObj l o')
def U1 (p:World→Prop):Prop:=∀A B,p A→Laid A B→p B
theorem Cx {g:Operand} {ps:Array Tmp} {assign body:Code} {Q:Exit→Act→World→Prop} {a:Act} {w:World} {gf:Nat} {lb:Array Value} {N:Nat} {Fit:Nat→Array Value→World→Prop} {Kp:World→World→Prop}
  (hg:a.eval g=.func (.func gf) #[] lb) (eg:∀args w,(callFunc gf args).run P w=.ok (.enter gf args) w) (hT:bP P gf lb N Fit Kp w)
  (hKt:∀ {A B C:World},Kp A B→Kp B C→Kp A C) (hKa:∀A B:World,w.heap.size≤A.heap.size→Laid A B→Kp A B) (hKb:∀(W:World) (l:Nat) (o o':Obj),w.heap.size≤l→W.heap[l]? = some o→o.isCells=false→Kp W (W.putObj l o'))
  (hps:∀k x W,Fit k x W→x.size=ps.size) (I:Nat→World→Prop) (Ix:Code→Nat→World→Prop)
  (hI:∀k,U1 (I k)) (hI':∀k,FQ w.heap.size (I k)) (hIx:∀c k,U1 (Ix c k)) (hIx':∀c k,FQ w.heap.size (Ix c k)) (h0:I 0 w)
  (hround:∀(l k:Nat) (x:Array Value) (W:World),k<N→w.heap.size≤l→(∃o:Obj,W.heap[l]? = some o∧o.isCells=false)→I k W→Fit k x W →
   assign.wpIn (Fence.wide.inRound l) 1 P (Exit.then (fun a₁ W₁=>Laid W W₁∧∀o:Obj,body.wpIn (Fence.wide.inRound l) 1 P (G8 w.heap.size Kp I Ix (k+1) (W₁.putObj l o)) a₁ (W₁.putObj l o)) (fun _ _ _=>False))
    {tmps:=(ps.zip x).foldl (fun t (p,v)=>t.setIfInBounds p v) a.tmps,defers:=[] } W)
  (hdone:∀(D:Nat) (W:World),w.heap.size≤D→I N W→W.heap[D]? = some (.deferred (some []))→Q .normal { a with defers:={ target:=.collected D,args:= #[] }::a.defers } W)
  (hstop:∀(D k:Nat) (c:Code) (W:World),w.heap.size≤D→k<N→Ix c (k+1) W→W.heap[D]? = some (.deferred (some []))→c.wp P Q { a with defers:={ target:=.collected D,args:= #[] }::a.defers } W) :
  (Code.rangeFunc g ps assign body).wp P Q a w:=by
 refine (wpIn_wide (n:=3)).1 (wpIn_rangeFunc fun fn hfn=> ?_)
 obtain ⟨S,hS⟩:∃S,w.heap.size=S:=⟨_,rfl⟩
 obtain ⟨rc,hrc⟩:∃rc:LoopState→Option Code→Loop,rc=fun st pe=>{ state:=st,pending:=pe,fn,tmps:=a.tmps,params:=ps,assign,body,defers:=w.heap.size }:=⟨_,rfl⟩
 have hwith:∀(st st':LoopState) (pe pe':Option Code),({ rc st pe with state:=st',pending:=pe' }:Loop)=rc st' pe':=fun _ _ _ _=>by rw [hrc]
 have hbegin:({ rc .ready none with state:=.busy }:Loop)=rc .busy none:=by rw [hrc]
 have hstate:∀st pe,(rc st pe).state=st∧(rc st pe).pending=pe:=fun _ _=>by rw [hrc]; exact ⟨rfl,rfl⟩
 have hend:∀st pe,({ rc st pe with state:=.exhausted }:Loop)=rc .exhausted pe:=fun _ _=>by rw [hrc]
 let At (st:LoopState) (pe:Option Code) (W:World):Prop:=W.heap[S+1]? = some (.loop (rc st pe))∧W.heap[S]? = some (.deferred (some []))
 have hAtG:∀ {st pe A B},At st pe A→Laid A B→At st pe B:=fun h hb =>
  ⟨(hb.block _ (Array.getElem?_eq_some_iff.1 h.1).1).trans h.1,(hb.block _ (Array.getElem?_eq_some_iff.1 h.2).1).trans h.2⟩
 have hPut:∀ {st pe W} (st':LoopState) (pe':Option Code),At st pe W→At st' pe' (W.putObj (S+1) (.loop (rc st' pe'))):=fun st' pe' h =>
  ⟨World.putObj_heap_same (Array.getElem?_eq_some_iff.1 h.1).1,(World.putObj_heap_other (by omega)).trans h.2⟩
 have hAtK:∀ {st pe A B},At st pe A→KeepsFrom S A B→At st pe B:=fun h hk=>⟨hk.same _ _ (by omega) h.1 rfl,hk.same _ _ (Nat.le_refl _) h.2 rfl⟩
 obtain ⟨W1,hW1⟩:∃W1,(w.alloc (.deferred (some []))).alloc (.loop (rc .ready none))=W1:=⟨_,rfl⟩
 have hL:Laid w W1:=by rw [←hW1]; exact ((Below.refl _ w).alloc (Nat.le_refl _) _).alloc (by simp) _
 have h1:At .ready none W1:=by
  constructor
  ·rw [←hW1,←hS]
   have:=World.alloc_heap_new (w.alloc (.deferred (some []))) (.loop (rc .ready none))
   rwa [World.size_alloc] at this
  ·rw [←hW1,←hS]
   exact (Below.heap_alloc _ _ _ (by simp)).trans (World.alloc_heap_new w _)
 refine ⟨w.heap.size+1,[{ target:=.collected w.heap.size,args:= #[] }],W1,{ target:=.fn (.func gf) lb,args:= #[.func (.yield (w.heap.size+1)) #[] #[]] },W1,gf,#[.func (.yield (w.heap.size+1)) #[] #[]]++lb,W1,
  by rw [←hW1,hrc]; exact run_enterLoop_outer _ _ _ _ _,by simp only [resolve,hg]; simp [go_sem],fun f' hf'=>trivial,by simp [invoke,go_sem,eg],(fun _=>by decide),?_⟩
 rw [hS] at hKa hKb hI' hIx' hround hdone hstop ⊢
 have big:∀ {st pe W},At st pe W→S≤W.heap.size:=fun h=>by have:=(Array.getElem?_eq_some_iff.1 h.2).1; omega
 refine (hT (S+1) (fun k W=>I k W∧At .ready none W) (fun k W=>∃c,Ix c k W∧At .done (some c) W) W1 hL
  (fun k A B h hb=>⟨hI k A B h.1 hb,hAtG h.2 hb⟩) (fun k A B h hb=>by obtain ⟨c,h1,h2⟩:=h; exact ⟨c,hIx c k A B h1 hb,hAtG h2 hb⟩) ?_ ⟨hI 0 _ _ h0 hL,h1⟩).mono ?_
 ·rintro k x W hk ⟨hi,hat⟩ hf
  have hy:=run_yield (P:=P) (args:=x) hat.1 (by rw [hrc]; exact hps k x W hf)
  rw [hrc] at hy
  refine ⟨fn,_,assign,body,hy,roundIn_of_wpIn hfn (wpIn_mono (hround _ k x W hk (by omega) ⟨_,hat.1,rfl⟩ hi hf) ?_)⟩
  rintro e a₁ W2 hp
  cases e with
  | normal=> ?_
  | ret=>exact hp.elim
  | exit id=>exact hp.elim
  | goto t=>exact hp.elim
  | panic _=>exact hp.elim
  | outgrown=>exact hp.elim
  obtain ⟨hL2,hbody⟩:=hp
  have hat2:=hAtG hat hL2
  refine ⟨_,run_beginRound hat2.1 (hstate _ _).1,?_⟩
  rw [hbegin]
  have hat3:At .busy none (W2.putObj (S+1) (.loop (rc .busy none))):=hPut .busy none hat2
  have hK3:Kp W (W2.putObj (S+1) (.loop (rc .busy none))):=hKt (hKa _ _ (big hat) hL2) (hKb _ _ _ _ (by omega) hat2.1 rfl)
  refine wpIn_mono (hbody (.loop (rc .busy none))) ?_
  have fin:∀(jump:Option Code) (W3:World),KeepsFrom S (W2.putObj (S+1) (.loop (rc .busy none))) W3 →
    At .busy none W3∧(Instr.endRound (S+1) jump).run P W3=.ok (.bool jump.isNone) (W3.putObj (S+1) (.loop (rc (if jump.isNone then .ready else .done) jump))):=fun jump W3 hk3=>by
   have h3:=hAtK hat3 hk3
   have:=run_endRound (P:=P) jump h3.1
   rw [hwith] at this
   exact ⟨h3,this⟩
  rintro e a3 W3 hp
  cases e with
  | normal =>
   obtain ⟨hk3,hkp,hi3⟩:=hp
   obtain ⟨h3,hr⟩:=fin none W3 hk3
   exact ⟨_,_,hr,.inl ⟨rfl,⟨hI' _ _ _ _ _ (by omega) h3.1 rfl hi3,hPut .ready none h3⟩,hKt (hKt hK3 hkp) (hKb _ _ _ _ (by omega) h3.1 rfl)⟩⟩
  | ret =>
   obtain ⟨hk3,hi3⟩:=hp
   obtain ⟨h3,hr⟩:=fin (some .ret) W3 hk3
   exact ⟨_,_,hr,.inr ⟨rfl,.ret,hIx' _ _ _ _ _ _ (by omega) h3.1 rfl hi3,hPut .done _ h3⟩⟩
  | exit id =>
   obtain ⟨hk3,hi3⟩:=hp
   obtain ⟨h3,hr⟩:=fin (some (.exit id)) W3 hk3
   exact ⟨_,_,hr,.inr ⟨rfl,.exit id,hIx' _ _ _ _ _ _ (by omega) h3.1 rfl hi3,hPut .done _ h3⟩⟩
  | goto t =>
   obtain ⟨hk3,hi3⟩:=hp
   obtain ⟨h3,hr⟩:=fin (some (.goto t)) W3 hk3
   exact ⟨_,_,hr,.inr ⟨rfl,.goto t,hIx' _ _ _ _ _ _ (by omega) h3.1 rfl hi3,hPut .done _ h3⟩⟩
  | panic _=>exact hp.elim
  | outgrown=>exact hp.elim
 ·have leave:∀ {st pe W2},At st pe W2→st≠.busy→(Instr.endLoop (S+1)).run P W2=.ok pe (W2.putObj (S+1) (.loop (rc .exhausted pe)))∧(W2.putObj (S+1) (.loop (rc .exhausted pe))).heap[S]? = some (.deferred (some [])):=fun {st pe W2} h hb=>by
   have:=run_endLoop (P:=P) h.1 (by rw [(hstate _ _).1]; exact hb)
   rw [hend,(hstate _ _).2] at this
   exact ⟨this,(World.putObj_heap_other (by omega)).trans h.2⟩
  rintro e W2 ⟨⟨v,rfl⟩,⟨hi,hat⟩ | ⟨k,hk,c,hi,hat⟩⟩
  ·obtain ⟨hr,hd⟩:=leave hat (by simp)
   exact ⟨none,_,hr,hdone S _ (Nat.le_refl _) (hI' _ _ _ _ _ (by omega) hat.1 rfl hi) hd⟩
  ·obtain ⟨hr,hd⟩:=leave hat (by simp)
   exact ⟨some c,_,hr,wpIn_wide.2 (hstop S k c _ (Nat.le_refl _) hk (hIx' _ _ _ _ _ _ (by omega) hat.1 rfl hi) hd)⟩
end
