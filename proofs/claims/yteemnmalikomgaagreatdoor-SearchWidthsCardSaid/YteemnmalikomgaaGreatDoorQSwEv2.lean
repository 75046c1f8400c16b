import Derived.Test.YteemnmalikomgaaGreatDoorQSwEv1
import Derived.Laws.StructEq
import Derived.Laws.Slices
import Derived.Laws.Small
import Derived.Laws.Tables
import Derived.Great.BuildSlice
namespace Go.Proofs.YteemnmalikomgaaGreatDoor.Ev
section
variable {σ:Val} {D:Nat→Prop}
theorem lG {v:Value} {a:A} (h:sD v=some a):a.den σ=v∧a.ok D∧a.one=true:=by
 unfold sD at h
 split at h<;>first
  | (injection h with h; subst h; simp [A.den,A.ok,A.one,Val.ex])
  | cases h
theorem lH:∀ {l:List Value} {r:List A},qc l=some r→A.aj σ r=l∧A.oks D r∧dU r=true
 | [],r,h=>by simp [qc] at h; subst h; simp [A.aj,A.oks,dU]
 | v::l,r,h=>by
  simp only [qc] at h
  cases hv:sD v with
  | none=>rw [hv] at h; cases h
  | some a =>
   rw [hv] at h
   cases hl:qc l with
   | none=>rw [hl] at h; cases h
   | some s =>
    rw [hl] at h
    injection h with h
    subst h
    obtain ⟨h1,h2,h3⟩:=lG (σ:=σ) (D:=D) hv
    obtain ⟨h4,h5,h6⟩:=lH hl
    exact ⟨by simp [A.aj,h1,h4],⟨h2,h5⟩,by simp [dU,h3,h6]⟩
theorem IJ {v:Value} {a:A} (h:Tp v=some a):a.den σ=v∧a.ok D:=by
 unfold Tp at h
 split at h
 ·rename_i l
  cases hl:qc l with
  | none=>rw [hl] at h; cases h
  | some s =>
   rw [hl] at h
   injection h with h
   subst h
   obtain ⟨h1,h2,_⟩:=lH (σ:=σ) (D:=D) hl
   exact ⟨by simp [A.den,h1],h2⟩
 ·rename_i l
  cases hl:qc l with
  | none=>rw [hl] at h; cases h
  | some s =>
   rw [hl] at h
   injection h with h
   subst h
   obtain ⟨h1,h2,_⟩:=lH (σ:=σ) (D:=D) hl
   exact ⟨by simp [A.den,h1],h2⟩
 ·obtain ⟨h1,h2,_⟩:=lG (σ:=σ) (D:=D) h
  exact ⟨h1,h2⟩
end
structure WO (P:Program) (t:TypeId) (ti:TI):Prop where
 ex:∃i,P.info? t=some i∧i.size=ti.size∧i.bytes=ti.bytes∧∀z,ti.zero=some z→∃v,i.zero=some v∧(∀σ,A.aj σ z=v.cells.toList)∧(∀D,A.oks D z)∧dU z=true
 d:P.underlying t=some ti.d
 eq:ti.eq=eqType P t
theorem Vv {P:Program} {t:TypeId} {ti:TI} (h:Nr P t=some ti):WO P t ti:=by
 unfold Nr at h
 split at h
 ·cases h
 ·rename_i i hi
  split at h
  ·cases h
  ·rename_i d hd
   injection h with h
   subst h
   refine ⟨⟨i,hi,rfl,rfl,fun z hz=> ?_⟩,hd,rfl⟩
   simp only at hz
   cases hv:i.zero with
   | none=>rw [hv] at hz; cases hz
   | some v =>
    rw [hv] at hz
    simp only [Option.bind_some] at hz
    split at hz
    ·exact ⟨_,rfl,fun σ=>by rw [(lH (σ:=σ) (D:=fun _=>True) hz).1]; rfl,fun D=>(lH (σ:=⟨fun _=>True,id,id,id⟩) (D:=D) hz).2.1,(lH (σ:=⟨fun _=>True,id,id,id⟩) (D:=fun _=>True) hz).2.2⟩
    ·rename_i hne
     cases ha:sD v with
     | none=>rw [ha] at hz; cases hz
     | some a =>
      rw [ha] at hz
      injection hz with hz
      subst hz
      refine ⟨v,rfl,fun σ=> ?_,fun D=>⟨(lG (σ:=⟨fun _=>True,id,id,id⟩) (D:=D) ha).2.1,trivial⟩,by simp [dU,(lG (σ:=⟨fun _=>True,id,id,id⟩) (D:=fun _=>True) ha).2.2]⟩
      simp only [A.aj,(lG (σ:=σ) (D:=fun _=>True) ha).1]
      cases v<;>first | rfl | (rename_i cs; exact absurd rfl (hne cs.toList))
theorem IK (P:Program):∀(n k:Nat) (t:Tr (Option TI)) (j:Nat),(Ik P n k t).get j=if k≤j∧j<k+n then some (Nr P j) else t.get j
 | 0,k,t,j=>by simp [Ik]; omega
 | n+1,k,t,j=>by
  simp only [Ik,IK P n (k+1),Tr.get_put]
  by_cases h1:j=k
  ·subst h1
   rw [if_neg (by omega),if_pos rfl,if_pos (by omega)]
  ·by_cases h2:k≤j∧j<k+(n+1)
   ·rw [if_pos (by omega),if_pos h2]
   ·rw [if_neg (by omega),if_neg h1,if_neg h2]
theorem dP {P:Program} {t:TypeId} {ti:TI} (h:(ah P).t t=some ti):WO P t ti:=by
 simp only [ah,Tab.t,IK] at h
 by_cases hb:0≤t∧t<0+P.types.size
 ·rw [if_pos hb] at h; exact Vv h
 ·rw [if_neg hb] at h; cases h
theorem Yd {P:Program} {f:FuncId} {x:FI} (h:(ah P).fn.get f=some x):P.funcs[f]? = some x.fn∧x.ok = !(x.fn.name == "runtime.NumGoroutine"):=by
 simp only [ah,Tr.Da] at h
 split at h
 ·simp only [Nat.sub_zero,List.getElem?_map,Option.map_eq_some_iff,Array.getElem?_toList] at h
  obtain ⟨y,hy,rfl⟩:=h
  exact ⟨hy,rfl⟩
 ·cases h
def dR (P:Program) (σ:Val) (env:Tr A) (ρ:Operand→Value):Prop:=∀x a,aZ (ah P) env x=some a→ρ x=a.den σ∧a.ok σ.dom
theorem gI.tH {P:Program} {σ:Val} {env:Tr A} {n:Nat} {a:Act} {h:H} {w:World} (e:gI σ env n a.tmps) (r:Rel P.globals.size σ h w):dR P σ env a.eval:=by
 intro x v hx
 cases x with
 | tmp t =>
  obtain ⟨h1,h2⟩:=e.get t v hx
  exact ⟨by simp [Act.eval,h1],h2⟩
 | const c=>exact ⟨(IJ (σ:=σ) (D:=σ.dom) hx).1.symm,(IJ (σ:=σ) hx).2⟩
 | global g =>
  have hx' : @Bool.rec (fun _=>Option A) none (some (.p (some (g,0)))) (Nat.blt g P.globals.size)=some v:=hx
  cases hb:Nat.blt g P.globals.size with
  | false=>rw [hb] at hx'; cases hx'
  | true =>
   rw [hb] at hx'
   injection hx' with hx'
   subst hx'
   have hlt:g<P.globals.size:=by simpa [Nat.blt_eq] using hb
   obtain ⟨h1,h2,h3⟩:=r.g g hlt
   exact ⟨by simp [Act.eval,A.den,Val.ad,h2,h3],h1⟩
 | func f =>
  have hx':some (A.fn f [] [])=some v:=hx
  injection hx' with hx'
  subst hx'
  exact ⟨by simp [Act.eval,A.den,A.aj],by simp [A.ok,A.oks]⟩
section
variable {P:Program} {σ:Val} {env:Tr A} {ρ:Operand→Value}
theorem tJ (he:dR P σ env ρ):∀ {xs:List Operand} {l:List A},mW (ah P) env xs=some l→xs.map ρ=A.aj σ l∧A.oks σ.dom l
 | [],l,h=>by simp [mW] at h; subst h; simp [A.aj,A.oks]
 | x::xs,l,h=>by
  simp only [mW] at h
  cases hx:aZ (ah P) env x with
  | none=>rw [hx] at h; cases h
  | some a =>
   rw [hx] at h
   cases hl:mW (ah P) env xs with
   | none=>rw [hl] at h; cases h
   | some r =>
    rw [hl] at h
    injection h with h
    subst h
    obtain ⟨h1,h2⟩:=he x a hx
    obtain ⟨h3,h4⟩:=tJ he hl
    exact ⟨by simp [A.aj,h1,h3],h2,h4⟩
theorem vL (he:dR P σ env ρ):∀ {xs:List (Nat×Operand)} {l:List (Nat×A)},parts (ah P) env xs=some l→(xs.map fun (i,x)=>(i,ρ x))=l.map (fun p=>(p.1,p.2.den σ))∧∀p∈l,p.2.ok σ.dom
 | [],l,h=>by simp [parts] at h; subst h; simp
 | (i,x)::xs,l,h=>by
  simp only [parts] at h
  cases hx:aZ (ah P) env x with
  | none=>rw [hx] at h; cases h
  | some a =>
   rw [hx] at h
   cases hl:parts (ah P) env xs with
   | none=>rw [hl] at h; cases h
   | some r =>
    rw [hl] at h
    injection h with h
    subst h
    obtain ⟨h1,h2⟩:=he x a hx
    obtain ⟨h3,h4⟩:=vL he hl
    refine ⟨by simp [h1,h3],fun p hp=> ?_⟩
    rcases List.mem_cons.1 hp with rfl | hp
    ·exact h2
    ·exact h4 p hp
end
def bP (P:Program) (σ:Val) (s:Sem Value) (a:A):Prop:=(∀w,s.run P w=.ok (a.den σ) w)∧a.ok σ.dom
theorem Dj {P:Program} {α:Type}:∀ {n:Nat} {s:Sem α} {a:α},Ey n s=some a→∀w,s.run P w=.ok a w
 | 0,s,a,h,_=>by simp [Ey] at h
 | n+1,s,a,h,w=>by
  cases s<;>simp only [Ey] at h<;>first
   | (injection h with h; subst h; rfl)
   | exact Dj h w
   | cases h
theorem iQ (k:IntKind) (n:Int):yL k n=k.wrap n:=by
 cases n with
 | ofNat m =>
  show cond (Nat.blt m (lim k)) (Int.ofNat m) (k.wrap (Int.ofNat m))=_
  cases hb:Nat.blt m (lim k) with
  | false=>rfl
  | true =>
   have hlt:m<lim k:=by simpa [Nat.blt_eq] using hb
   rw [cond_true]
   symm
   clear hb
   cases k<;>simp only [lim] at hlt<;>simp [IntKind.wrap,IntKind.bits,IntKind.signed]<;>omega
 | negSucc m =>
  show cond (and (yK k) (Nat.blt m (lim k))) (Int.negSucc m) (k.wrap (Int.negSucc m))=_
  cases hb:(and (yK k) (Nat.blt m (lim k))) with
  | false=>rfl
  | true =>
   rw [Bool.and_eq_true,Nat.blt_eq] at hb
   obtain ⟨h1,hlt⟩:=hb
   rw [cond_true]
   symm
   have e:Int.negSucc m = -(m:Int) - 1:=by omega
   rw [e]
   have wr:∀(k:IntKind) (n:Int),k.wrap n=if k.signed=true∧n % (2 ^ k.bits:Int)≥(2 ^ (k.bits - 1):Int) then n % (2 ^ k.bits:Int) - (2 ^ k.bits:Int) else n % (2 ^ k.bits:Int):=fun k n=>by
    unfold IntKind.wrap
    simp only [Bool.and_eq_true,decide_eq_true_eq]
   rw [wr]
   cases k<;>simp only [yK,Bool.false_eq_true] at h1<;>simp only [lim] at hlt
   ·rw [if_pos ⟨rfl,by show _≥(2 ^ 7:Int); simp only [IntKind.bits]; omega⟩]; simp only [IntKind.bits]; omega
   ·rw [if_pos ⟨rfl,by show _≥(2 ^ 15:Int); simp only [IntKind.bits]; omega⟩]; simp only [IntKind.bits]; omega
   ·rw [if_pos ⟨rfl,by show _≥(2 ^ 31:Int); simp only [IntKind.bits]; omega⟩]; simp only [IntKind.bits]; omega
   ·rw [if_pos ⟨rfl,by show _≥(2 ^ 63:Int); simp only [IntKind.bits]; omega⟩]; simp only [IntKind.bits]; omega
theorem tK (a b:Int):Bf a b=decide (a<b):=by
 match a,b with
 | .ofNat a,.ofNat b=>show Nat.blt a b=decide ((a:Int)<(b:Int)); rw [Bool.eq_iff_iff,Nat.blt_eq,decide_eq_true_iff]; omega
 | .negSucc a,.ofNat b=>show true=decide (Int.negSucc a<(b:Int)); symm; rw [decide_eq_true_iff]; omega
 | .ofNat a,.negSucc b=>show false=decide ((a:Int)<Int.negSucc b); symm; rw [decide_eq_false_iff_not]; omega
 | .negSucc a,.negSucc b=>show Nat.blt b a=decide (Int.negSucc a<Int.negSucc b); rw [Bool.eq_iff_iff,Nat.blt_eq,decide_eq_true_iff]; omega
theorem Qv (a b:Int):UK a b=(a == b):=by
 cases a<;>cases b<;>simp only [UK]
 ·rw [Bool.eq_iff_iff]; simp [Nat.beq_eq]; omega
 ·symm; rw [beq_eq_false_iff_ne]; intro h; cases h
 ·symm; rw [beq_eq_false_iff_ne]; intro h; cases h
 ·rw [Bool.eq_iff_iff]; simp [Nat.beq_eq]
theorem Kh {k l:IntKind} (h:Nat.beq (lim k) (lim l)=true):k=l:=by
 rw [Nat.beq_eq] at h
 revert h
 cases k<;>cases l<;>first | exact fun _=>rfl | exact fun h=>absurd h (by decide)
theorem Vw {P:Program} {σ:Val} {op:BinOp} {t:TypeId} {k l:IntKind} {a b:Int} {r:A} (h:Ns op t k a l b=some r):bP P σ (binOp op t (.int k a) (.int l b)) r:=by
 have slow:∀ {r:A},(match Ey 3 (binOp op t (.int k a) (.int l b)) with | some v=>sD v | none=>none)=some r→bP P σ (binOp op t (.int k a) (.int l b)) r:=by
  intro r hr
  cases hc:Ey 3 (binOp op t (.int k a) (.int l b)) with
  | none=>rw [hc] at hr; cases hr
  | some v =>
   rw [hc] at hr
   obtain ⟨h1,h2,_⟩:=lG (σ:=σ) (D:=σ.dom) hr
   exact ⟨fun w=>by rw [Dj hc w,h1],h2⟩
 by_cases hs:op=.shl∨op=.shr
 ·rcases hs with rfl | rfl<;>exact slow h
 ·have hk:k=l:=by
   cases hb:Nat.beq (lim k) (lim l) with
   | true=>exact Kh hb
   | false=>cases op<;>simp [Ns,hb] at h hs
  subst hk
  have hb:Nat.beq (lim k) (lim k)=true:=by simp
  have fin:∀ {v:Value} {r:A},(∀w,(binOp op t (.int k a) (.int k b)).run P w=.ok v w)→r.den σ=v→r.ok σ.dom→bP P σ (binOp op t (.int k a) (.int k b)) r :=
   fun h1 h2 h3=>⟨fun w=>by rw [h2]; exact h1 w,h3⟩
  cases op<;>simp only [Ns,hb,cond_true] at h
  case shl=>exact absurd (.inl rfl) hs
  case shr=>exact absurd (.inr rfl) hs
  case add=>injection h with h; subst h; exact fin (v:=.int k (k.wrap (a+b))) (fun w=>by simp [binOp,Op.intArith]) (by rw [A.den,iQ]; rfl) (by simp [A.ok])
  case sub=>injection h with h; subst h; exact fin (v:=.int k (k.wrap (a - b))) (fun w=>by simp [binOp,Op.intArith]) (by rw [A.den,iQ]; rfl) (by simp [A.ok])
  case mul=>injection h with h; subst h; exact fin (v:=.int k (k.wrap (a*b))) (fun w=>by simp [binOp,Op.intArith]) (by rw [A.den,iQ]; rfl) (by simp [A.ok])
  case eql=>injection h with h; subst h; exact fin (v:=.bool (a == b)) (fun w=>by simp [binOp,Op.intCmp]) (by rw [A.den,Qv]) (by simp [A.ok])
  case neq=>injection h with h; subst h; exact fin (v:=.bool (a != b)) (fun w=>by simp [binOp,Op.intCmp]) (by rw [A.den,Qv]; rfl) (by simp [A.ok])
  case lss=>injection h with h; subst h; exact fin (v:=.bool (a<b)) (fun w=>by simp [binOp,Op.intCmp]) (by rw [A.den,tK]) (by simp [A.ok])
  case gtr=>injection h with h; subst h; exact fin (v:=.bool (a > b)) (fun w=>by simp [binOp,Op.intCmp]) (by rw [A.den,tK]) (by simp [A.ok])
  case leq =>
   injection h with h; subst h
   exact fin (v:=.bool (a≤b)) (fun w=>by simp [binOp,Op.intCmp]) (by rw [A.den,tK,←decide_not]; congr 1; rw [decide_eq_decide]; omega) (by simp [A.ok])
  case geq =>
   injection h with h; subst h
   exact fin (v:=.bool (a≥b)) (fun w=>by simp [binOp,Op.intCmp]) (by rw [A.den,tK,←decide_not]; congr 1; rw [decide_eq_decide]; omega) (by simp [A.ok])
  case quo =>
   split at h
   ·rename_i x y
    injection h with h; subst h
    refine fin (v:=.int k (k.wrap ((Int.ofNat x).tdiv (Int.ofNat (y+1))))) (fun w=> ?_) (by rw [A.den,iQ]; rfl) (by simp [A.ok])
    have:¬(Int.ofNat (y+1)=0):=by intro h; cases h
    simp only [binOp,Op.intDiv,if_neg this,ne_eq,not_true,if_false]
    rfl
   ·exact slow h
  all_goals exact slow h
end Go.Proofs.YteemnmalikomgaaGreatDoor.Ev
namespace Go.Proofs.YteemnmalikomgaaGreatDoor.Ev
section
variable {P:Program} {σ:Val}
theorem xO:∀(a b:List UInt8),Bc a b=(a == b)
 | [],[]=>rfl
 | [],_::_=>rfl
 | _::_,[]=>rfl
 | a::l,b::r=>by
  simp only [Bc,xO l r]
  rw [Bool.eq_iff_iff]
  simp [Nat.beq_eq,UInt8.toNat_inj]
theorem toList_eq (a:List UInt8):(⟨⟨a⟩⟩:ByteArray).toList=a:=by
 rw [ByteArray.toList_eq]
theorem some_inj {α:Type} {a b:α} (h:some a=some b):a=b:=by injection h
theorem Vx {op:BinOp} {t:TypeId} {a b:List UInt8} {r:A} (h:Tq op a b=some r):bP P σ (binOp op t (.string ⟨⟨a⟩⟩) (.string ⟨⟨b⟩⟩)) r:=by
 cases op
 case eql=>obtain rfl:=some_inj h; exact ⟨fun w=>by simp [binOp,Op.stringOp,A.den,xO],by simp [A.ok]⟩
 case neq=>obtain rfl:=some_inj h; exact ⟨fun w=>by simp [binOp,Op.stringOp,A.den,xO],by simp [A.ok]⟩
 case add =>
  have h':cond (Nat.ble (Nat.add a.length b.length) 1000000) (some (A.s (a++b))) none=some r:=h
  cases hb:Nat.ble (Nat.add a.length b.length) 1000000 with
  | false=>rw [hb] at h'; cases h'
  | true =>
   rw [hb] at h'
   obtain rfl:=some_inj h'
   have hle:a.length+b.length≤1000000:=by simpa [Nat.ble_eq] using hb
   refine ⟨fun w=> ?_,by simp [A.ok]⟩
   have e:((⟨⟨a⟩⟩:ByteArray)++(⟨⟨b⟩⟩:ByteArray))=(⟨⟨a++b⟩⟩:ByteArray):=by
    apply ByteArray.ext; simp
   have hn:¬(((a.length+b.length:Nat):Int) > IntKind.i64.max):=by simp [IntKind.max,IntKind.bits,IntKind.signed]; omega
   simp only [binOp,Op.stringOp,A.den]
   show Sem.run P (if (((a.length+b.length:Nat):Int) > IntKind.i64.max) then _ else _) w=_
   rw [if_neg hn,e]; rfl
 all_goals exact absurd h (by simp [Tq])
theorem Lg {op:BinOp} {x:Bool} {r:A} (h:jK op x=some r):(op=.eql∧r=.b x)∨(op=.neq∧r=.b (!x)):=by
 cases op
 case eql=>exact .inl ⟨rfl,(some_inj h).symm⟩
 case neq=>exact .inr ⟨rfl,(some_inj h).symm⟩
 all_goals exact absurd h (by simp [jK])
theorem IL {op:BinOp} {t:TypeId} {a b:Value} {x:Bool} {r:A} (h:jK op x=some r) (he:∀w,(binOp .eql t a b).run P w=.ok (.bool x) w) (hn:∀w,(binOp .neq t a b).run P w=.ok (.bool (!x)) w):bP P σ (binOp op t a b) r:=by
 rcases Lg h with ⟨rfl,rfl⟩ | ⟨rfl,rfl⟩
 ·exact ⟨fun w=>by rw [he w]; rfl,by simp [A.ok]⟩
 ·exact ⟨fun w=>by rw [hn w]; rfl,by simp [A.ok]⟩
theorem zV {op:BinOp} {t:TypeId} {a b:Value} {x:Bool} {r:A} (h:jK op x=some r) (he:∀w,(Op.equal t a b).run P w=.ok x w)
  (e1:binOp .eql t a b=(do pure (.bool (←Op.equal t a b)))) (e2:binOp .neq t a b=(do pure (.bool (!(←Op.equal t a b))))):bP P σ (binOp op t a b) r :=
 IL h (fun w=>by rw [e1]; simp [he w]) (fun w=>by rw [e2]; simp [he w])
theorem Vy {op:BinOp} {t:TypeId} {a b:Bool} {r:A} (hd:Df ((ah P).t t)=true) (h:jK op (a == b)=some r):bP P σ (binOp op t (.bool a) (.bool b)) r:=by
 cases ht:(ah P).t t with
 | none=>rw [ht] at hd; cases hd
 | some ti =>
  rw [ht] at hd
  have hu:P.underlying t=some .bool:=by
   rw [(dP ht).d]
   obtain ⟨d,s,by_,z,e⟩:=ti
   cases d<;>first | rfl | cases hd
  exact IL h (fun w=>run_eql_bool w t a b hu) (fun w=>run_neq_bool w t a b hu)
theorem IQ {op:BinOp} {x y:Option (Nat×Nat)} {r:A} (h:yM op x y=some r):∃b,jK op b=some r∧((x=none∧b=y.isNone)∨((∃z,x=some z)∧y=none∧b=false)):=by
 cases x with
 | none=>cases y with
  | none=>exact ⟨true,h,.inl ⟨rfl,rfl⟩⟩
  | some z=>exact ⟨false,h,.inl ⟨rfl,rfl⟩⟩
 | some z=>cases y with
  | none=>exact ⟨false,h,.inr ⟨⟨z,rfl⟩,rfl,rfl⟩⟩
  | some u=>exact absurd h (by simp [yM])
theorem Dk (d:Nat) {t e:TypeId} (y:Option Addr) (hu:P.underlying t=some (.pointer e)) (w:World):(Op.equalIn (d+1) t (.pointer none) (.pointer y)).run P w=.ok y.isNone w:=by
 simp [Op.equalIn,run_underlying hu]
theorem Lh (d:Nat) {t e:TypeId} (x:Addr) (hu:P.underlying t=some (.pointer e)) (w:World):(Op.equalIn (d+1) t (.pointer (some x)) (.pointer none)).run P w=.ok false w:=by
 simp [Op.equalIn,run_underlying hu]
theorem WQ (d:Nat) {t e:TypeId} (y:Option Addr) (n a m b:Nat) (hu:P.underlying t=some (.slice e)) (w:World):(Op.equalIn (d+1) t (.slice none n a) (.slice y m b)).run P w=.ok y.isNone w:=by
 simp [Op.equalIn,run_underlying hu]
theorem WR (d:Nat) {t e:TypeId} (x:Addr) (n a m b:Nat) (hu:P.underlying t=some (.slice e)) (w:World):(Op.equalIn (d+1) t (.slice (some x) n a) (.slice none m b)).run P w=.ok false w:=by
 simp [Op.equalIn,run_underlying hu]
theorem WS (d:Nat) {t:TypeId} {p q:Array TypeId} {v:Bool} (hu:P.underlying t=some (.func p q v)) (w:World):(Op.equalIn (d+1) t .nilFunc .nilFunc).run P w=.ok true w:=by
 simp [Op.equalIn,run_underlying hu]
theorem WU (d:Nat) {t:TypeId} {p q:Array TypeId} {v:Bool} (f:Fn) (a c:Array Value) (hu:P.underlying t=some (.func p q v)) (w:World):(Op.equalIn (d+1) t (.func f a c) .nilFunc).run P w=.ok false w:=by
 simp [Op.equalIn,run_underlying hu]
theorem WV {op:BinOp} {t:TypeId} {x y:Option (Nat×Nat)} {r:A} (hd:Il ((ah P).t t)=true) (h:yM op x y=some r):bP P σ (binOp op t (.pointer (x.map σ.ad)) (.pointer (y.map σ.ad))) r:=by
 cases ht:(ah P).t t with
 | none=>rw [ht] at hd; cases hd
 | some ti =>
  rw [ht] at hd
  obtain ⟨e,hu⟩:∃e,P.underlying t=some (.pointer e):=by
   rw [(dP ht).d]
   obtain ⟨d,s,by_,z,e⟩:=ti
   cases d<;>first | exact ⟨_,rfl⟩ | cases hd
  obtain ⟨b,h1,h2⟩:=IQ h
  refine zV h1 (fun w=> ?_) ?_ ?_
  ·rcases h2 with ⟨rfl,rfl⟩ | ⟨⟨z,rfl⟩,rfl,rfl⟩
   ·have:=Dk 9999 (y.map σ.ad) hu w
    rw [Option.isNone_map] at this
    exact this
   ·exact Lh 9999 _ hu w
  ·rcases h2 with ⟨rfl,rfl⟩ | ⟨⟨z,rfl⟩,rfl,rfl⟩<;>first | (cases y<;>rfl) | rfl
  ·rcases h2 with ⟨rfl,rfl⟩ | ⟨⟨z,rfl⟩,rfl,rfl⟩<;>first | (cases y<;>rfl) | rfl
theorem XJ {op:BinOp} {t:TypeId} {x y:Option (Nat×Nat)} {n m a b:Nat} {r:A} (hd:Nt ((ah P).t t)=true) (h:yM op x y=some r):bP P σ (binOp op t (.slice (x.map σ.ad) n a) (.slice (y.map σ.ad) m b)) r:=by
 cases ht:(ah P).t t with
 | none=>rw [ht] at hd; cases hd
 | some ti =>
  rw [ht] at hd
  obtain ⟨e,hu⟩:∃e,P.underlying t=some (.slice e):=by
   rw [(dP ht).d]
   obtain ⟨d,s,by_,z,e⟩:=ti
   cases d<;>first | exact ⟨_,rfl⟩ | cases hd
  obtain ⟨c,h1,h2⟩:=IQ h
  refine zV h1 (fun w=> ?_) ?_ ?_
  ·rcases h2 with ⟨rfl,rfl⟩ | ⟨⟨z,rfl⟩,rfl,rfl⟩
   ·have:=WQ 9999 (y.map σ.ad) n a m b hu w
    rw [Option.isNone_map] at this
    exact this
   ·exact WR 9999 _ _ _ _ _ hu w
  ·rfl
  ·rfl
theorem NR {op:BinOp} {t:TypeId} {x:Value} {b:Bool} {r:A} (hx:(∃f a c,x=.func f a c)∧b=false∨x=.nilFunc∧b=true) (hd:vk ((ah P).t t)=true) (h:jK op b=some r):bP P σ (binOp op t x .nilFunc) r:=by
 cases ht:(ah P).t t with
 | none=>rw [ht] at hd; cases hd
 | some ti =>
  rw [ht] at hd
  obtain ⟨p,q,v,hu⟩:∃p q v,P.underlying t=some (.func p q v):=by
   rw [(dP ht).d]
   obtain ⟨d,s,by_,z,e⟩:=ti
   cases d<;>first | exact ⟨_,_,_,rfl⟩ | cases hd
  refine zV h (fun w=> ?_) ?_ ?_
  ·rcases hx with ⟨⟨f,a,c,rfl⟩,rfl⟩ | ⟨rfl,rfl⟩
   ·exact WU 9999 f a c hu w
   ·exact WS 9999 hu w
  ·rcases hx with ⟨⟨f,a,c,rfl⟩,rfl⟩ | ⟨rfl,rfl⟩<;>rfl
  ·rcases hx with ⟨⟨f,a,c,rfl⟩,rfl⟩ | ⟨rfl,rfl⟩<;>rfl
theorem Qw (k l:IntKind) (a b:Int):Lb k a l b=(a == b):=by
 cases a<;>cases b<;>simp only [Lb]
 ·rw [Bool.eq_iff_iff]; simp [Nat.beq_eq]; omega
 ·symm; rw [beq_eq_false_iff_ne]; intro h; cases h
 ·symm; rw [beq_eq_false_iff_ne]; intro h; cases h
 ·rw [Bool.eq_iff_iff]; simp [Nat.beq_eq]
theorem WY {n d:Nat} {t:TypeId} {a b:A} {x:Bool} (hk:oP (P.underlying t)=n) (h:eq1 n a b=some x) (w:World):(Op.equalIn (d+1) t (a.den σ) (b.den σ)).run P w=.ok x w:=by
 cases a<;>try (revert h; simp [eq1]; done)
 ·rename_i u
  cases b<;>try (revert h; simp [eq1]; done)
  rename_i v
  have h':cond (Nat.beq n 1) (some (u == v)) none=some x:=h
  cases hb:Nat.beq n 1 with
  | false=>rw [hb] at h'; cases h'
  | true =>
   rw [hb] at h'
   obtain rfl:=some_inj h'
   have hn:n=1:=Nat.eq_of_beq_eq_true hb
   have hu:P.underlying t=some .bool:=by
    rw [hn] at hk
    revert hk
    unfold oP
    split<;>intro hk<;>first | assumption | (exact absurd hk (by decide))
   simp only [A.den]
   exact run_equalIn_bool w d t u v hu
 ·rename_i k u
  cases b<;>try (revert h; simp [eq1]; done)
  rename_i l v
  have h':cond (and (Nat.beq n 2) (decide (k=l))) (some (Lb k u l v)) none=some x:=h
  cases hb:(and (Nat.beq n 2) (decide (k=l))) with
  | false=>rw [hb] at h'; cases h'
  | true =>
   rw [hb] at h'
   obtain rfl:=some_inj h'
   rw [Bool.and_eq_true,decide_eq_true_iff] at hb
   have hn:n=2:=Nat.eq_of_beq_eq_true hb.1
   obtain rfl:=hb.2
   obtain ⟨k',hu⟩:∃k',P.underlying t=some (.int k'):=by
    rw [hn] at hk
    revert hk
    unfold oP
    split<;>intro hk<;>first | exact ⟨_,by assumption⟩ | (exact absurd hk (by decide))
   simp only [A.den,Qw]
   exact run_equalIn_int w d t k k' u v hu
 ·rename_i u
  cases b<;>try (revert h; simp [eq1]; done)
  rename_i v
  have h':cond (Nat.beq n 3) (some (Bc u v)) none=some x:=h
  cases hb:Nat.beq n 3 with
  | false=>rw [hb] at h'; cases h'
  | true =>
   rw [hb] at h'
   obtain rfl:=some_inj h'
   have hn:n=3:=Nat.eq_of_beq_eq_true hb
   have hu:P.underlying t=some .string:=by
    rw [hn] at hk
    revert hk
    unfold oP
    split<;>intro hk<;>first | assumption | (exact absurd hk (by decide))
   simp only [A.den,xO]
   have:=run_equalIn_string w d t ⟨⟨u⟩⟩ ⟨⟨v⟩⟩ hu
   rw [toList_eq,toList_eq] at this
   exact this
theorem Bt {t:TypeId} {n:Nat} (hk:oP (P.underlying t)=n+1) (w:World):(isAgg t).run P w=.ok false w:=by
 unfold isAgg
 revert hk
 unfold oP
 split<;>intro hk<;>first
  | (rename_i hu; simp [run_underlying hu])
  | (exact absurd hk (by simp))
theorem zm {d:Nat}:∀ {fs:List Field} {k:Nat} {ks:List Nat} {a b:List A} {x:Bool} (xs ys:Array Value),Dc P fs k=some ks→Bd ks a b=some x →
  xs.toList.drop k=A.aj σ a→ys.toList.drop k=A.aj σ b→∀w,(Op.eqFields (d+1) xs ys fs).run P w=.ok x w
 | [],k,ks,a,b,x,xs,ys,hg,hc,hx,hy,w=>by
  obtain rfl:=some_inj hg
  cases a<;>cases b<;>try (revert hc; simp [Bd]; done)
  obtain rfl:=some_inj hc
  simp [Op.eqFields]
 | f::fs,k,ks,a,b,x,xs,ys,hg,hc,hx,hy,w=>by
  have hg':cond (and (and (f.name != "_") (Nat.beq f.offset k)) ((P.info? f.type).elim false fun i=>Nat.beq i.size 1)) (match oP (P.underlying f.type) with | 0=>none | n+1=>(match Dc P fs (k+1) with | some r=>some ((n+1)::r) | none=>none)) none=some ks:=hg
  cases hb:(and (and (f.name != "_") (Nat.beq f.offset k)) ((P.info? f.type).elim false fun i=>Nat.beq i.size 1)) with
  | false=>rw [hb] at hg'; cases hg'
  | true =>
   rw [hb,cond_true] at hg'
   rw [Bool.and_eq_true,Bool.and_eq_true] at hb
   obtain ⟨⟨hname,hoff⟩,_⟩:=hb
   have hoff:f.offset=k:=Nat.eq_of_beq_eq_true hoff
   cases hk:oP (P.underlying f.type) with
   | zero=>rw [hk] at hg'; cases hg'
   | succ n =>
    rw [hk] at hg'
    cases hr:Dc P fs (k+1) with
    | none=>rw [hr] at hg'; cases hg'
    | some r =>
     rw [hr] at hg'
     obtain rfl:=some_inj hg'
     cases a with
     | nil=>cases b<;>exact absurd hc (by simp [Bd])
     | cons u a =>
      cases b with
      | nil=>exact absurd hc (by simp [Bd])
      | cons v b =>
       have hxk:xs[k]? = some (u.den σ):=by
        have:=congrArg (fun l=>l[0]?) hx
        simpa [A.aj,List.getElem?_drop] using this
       have hyk:ys[k]? = some (v.den σ):=by
        have:=congrArg (fun l=>l[0]?) hy
        simpa [A.aj,List.getElem?_drop] using this
       have hx1:xs.toList.drop (k+1)=A.aj σ a:=by
        have:=congrArg List.tail hx
        simpa [A.aj] using this
       have hy1:ys.toList.drop (k+1)=A.aj σ b:=by
        have:=congrArg List.tail hy
        simpa [A.aj] using this
       have hc':(match eq1 (n+1) u v with | some true=>Bd r a b | some false=>some false | none=>none)=some x:=hc
       have p1:∀w,(part f.type xs f.offset).run P w=.ok (u.den σ) w:=fun w=>by
        unfold part; rw [hoff]; simp [Bt hk,hxk]
       have p2:∀w,(part f.type ys f.offset).run P w=.ok (v.den σ) w:=fun w=>by
        unfold part; rw [hoff]; simp [Bt hk,hyk]
       have hname:f.name≠ "_" := by simpa using hname
       cases he:eq1 (n+1) u v with
       | none=>rw [he] at hc'; cases hc'
       | some y =>
        rw [he] at hc'
        have p3:∀w,(Op.equalIn (d+1) f.type (u.den σ) (v.den σ)).run P w=.ok y w:=fun w=>WY hk he w
        simp only [Op.eqFields,if_pos hname,Sem.run_bind,p1,p2,p3,Result.andThen_ok]
        cases y with
        | true=>simp only [Bool.not_true,Bool.false_eq_true,if_false]; exact zm xs ys hr hc' hx1 hy1 w
        | false=>obtain rfl:=some_inj hc'; simp
theorem Qx {op:BinOp} {t:TypeId} {a b:List A} {r:A} (h:Tt (ah P) op t a b=some r):bP P σ (binOp op t (.agg ⟨A.aj σ a⟩) (.agg ⟨A.aj σ b⟩)) r∧P.eqGuardType P.depth t=false:=by
 unfold Tt at h
 split at h
 ·cases h
 ·rename_i ti ht
  split at h
  ·cases h
  ·rename_i n ns hn
   split at h
   ·rename_i x hx
    have hq:=(dP ht).eq
    rw [hn] at hq
    unfold eqType at hq
    split at hq
    ·rename_i fs hu
     cases hb:(and (not (P.stoodInHeld t)) (not (P.eqGuardType P.depth t))) with
     | false=>rw [hb] at hq; cases hq
     | true =>
      rw [hb,cond_true] at hq
      rw [Bool.and_eq_true,Bool.not_eq_true',Bool.not_eq_true'] at hb
      cases hg:Dc P fs.toList 0 with
      | none=>rw [hg] at hq; cases hq
      | some ks =>
       rw [hg] at hq
       simp only [Option.getD_some] at hq
       subst hq
       have hf:P.fieldsOf t=fs:=by unfold Program.fieldsOf; rw [hu]
       have run:∀w,(Op.equalIn 10000 t (.agg ⟨A.aj σ a⟩) (.agg ⟨A.aj σ b⟩)).run P w=.ok x w:=fun w=>by
        rw [run_equalIn_struct w 9999 t _ _ (by rw [hf]; exact hu) hb.1,hf]
        exact zm (d:=9998) _ _ hg hx rfl rfl w
       exact ⟨IL h (fun w=>by rw [run_eql_struct,run w]; rfl) (fun w=>by rw [run_neq_struct,run w]; rfl),hb.2⟩
    ·cases hz:qZ (P.info? t) with
     | false=>rw [hz] at hq; cases hq
     | true =>
      rw [hz,cond_true] at hq
      injection hq with h1 h2
      subst h1 h2
      exfalso
      revert hx
      cases a with
      | nil=>simp [Bd]
      | cons x1 a=>cases b with
       | nil=>simp [Bd]
       | cons y1 b=>cases x1<;>cases y1<;>exact fun hx=>(by simp:¬((none:Option Bool)=some x)) hx
    ·cases hq
   ·cases h
theorem Vz {op:BinOp} {t:TypeId} {a b r:A} (h:Dh (ah P) op t a b=some r):bP P σ (binOp op t (a.den σ) (b.den σ)) r:=by
 cases a<;>cases b<;>first
  | exact Vw h
  | exact Vx h
  | (revert h; simp [Dh]; done)
  | skip
 all_goals simp only [Dh] at h
 case b.b x y =>
  cases hb:Df ((ah P).t t) with
  | false=>rw [hb] at h; cases h
  | true=>rw [hb] at h; exact Vy hb h
 case p.p x y =>
  cases hb:Il ((ah P).t t) with
  | false=>rw [hb] at h; cases h
  | true=>rw [hb] at h; exact WV hb h
 case sl.sl =>
  cases hb:Nt ((ah P).t t) with
  | false=>rw [hb] at h; cases h
  | true=>rw [hb] at h; exact XJ hb h
 case fn.nf =>
  cases hb:vk ((ah P).t t) with
  | false=>rw [hb] at h; cases h
  | true=>rw [hb] at h; exact NR (.inl ⟨⟨_,_,_,rfl⟩,rfl⟩) hb h
 case yl.nf =>
  cases hb:vk ((ah P).t t) with
  | false=>rw [hb] at h; cases h
  | true=>rw [hb] at h; exact NR (.inl ⟨⟨_,_,_,rfl⟩,rfl⟩) hb h
 case nf.nf =>
  cases hb:vk ((ah P).t t) with
  | false=>rw [hb] at h; cases h
  | true=>rw [hb] at h; exact NR (.inr ⟨rfl,rfl⟩) hb h
 case agg.agg=>exact (Qx h).1
theorem Tv {op:BinOp} {t:TypeId} {x y:Operand} {a b r:A} (h:Dh (ah P) op t a b=some r) (w:World):(eqGuard op t x y (a.den σ) (b.den σ)).run P w=.ok () w:=by
 cases a<;>cases b<;>try (first | (revert h; simp [Dh]; done) | (simp only [A.den,eqGuard]; cases op<;>rfl))
 simp only [A.den]
 exact run_eqGuard_agg w op t x y _ _ (Qx (σ:=σ) h).2
end
end Go.Proofs.YteemnmalikomgaaGreatDoor.Ev
namespace Go.Proofs.YteemnmalikomgaaGreatDoor.Ev
theorem aD {α:Type} {b:Bool} {x:Option α} {r:α} (h:cond b x none=some r):b=true∧x=some r:=by
 cases b with
 | false=>cases h
 | true=>exact ⟨rfl,h⟩
theorem and_true {a b:Bool} (h:(and a b)=true):a=true∧b=true:=by simpa using h
theorem fK {a b:Nat} (h:Nat.ble a b=true):a≤b:=Nat.le_of_ble_eq_true h
theorem jw {a b:Nat} (h:Nat.blt a b=true):a<b:=Nat.le_of_ble_eq_true h
theorem aY {a b:Nat} (h:Nat.beq a b=true):a=b:=Nat.eq_of_beq_eq_true h
theorem UQ {a b:Nat} (h:Nat.beq a b=false):a≠b:=Nat.ne_of_beq_eq_false h
theorem gN {α:Type}:∀(l:List α) (k:Nat),nth l k=l[k]?
 | [],_=>by simp [nth]
 | a::l,0=>rfl
 | a::l,k+1=>by
  have:nth (a::l) (k+1)=nth l k:=rfl
  rw [this,gN l k]; rfl
section
variable {P:Program} {σ:Val}
theorem dY {t:TypeId} {ti:TI} (h:(ah P).t t=some ti) (w:World):(sizeOf t).run P w=.ok ti.size w:=by
 obtain ⟨i,hi,hs,_⟩:=(dP h).ex
 simp [sizeOf,typeInfo,hi,hs]
theorem fA {t:TypeId} {ti:TI} (h:(ah P).t t=some ti) (w:World):(underlying t).run P w=.ok ti.d w:=run_underlying (dP h).d w
theorem yU {t:TypeId} {ti:TI} (h:(ah P).t t=some ti) (w:World):(isAgg t).run P w=.ok (qd ti.d) w:=by
 unfold isAgg
 simp only [Sem.run_bind,fA h,Result.andThen_ok]
 cases ti.d<;>rfl
theorem kV (r:Nat×Nat) (d:Nat):(σ.ad r).add d=σ.ad (r.1,r.2+d):=by
 unfold Addr.add Val.ad
 split
 ·rename_i h; subst h; rfl
 ·simp [Nat.add_assoc]
theorem mY {x:Option A} {least most d n:Nat} (h:bnd x least most d=some n):(x=none∧n=d)∨(∃k,x=some (.i k (n:Int))∧least≤n∧n≤most):=by
 unfold bnd at h
 split at h
 ·exact .inl ⟨rfl,(some_inj h).symm⟩
 ·rename_i k m
  obtain ⟨h1,h2⟩:=aD (b:=least.ble m && m.ble most) (x:=some m) h
  obtain rfl:=some_inj h2
  obtain ⟨h3,h4⟩:=and_true h1
  exact .inr ⟨k,rfl,fK h3,fK h4⟩
 ·cases h
def jO (mx:Option A) (C m:Nat):Nat:=match mx with
 | none=>C
 | some _=>m
theorem tL {len cap C:Nat} {lo hi mx:Option A} {l u m:Nat} (h:Im len cap lo hi mx=some (l,u,m)) (hC:cap≤C) (b:Bool) (w:World) :
  (Instr.sliceBounds b len C (lo.map (A.den σ)) (hi.map (A.den σ)) (mx.map (A.den σ))).run P w=.ok (l,u,jO mx C m) w∧(mx=none→m=cap):=by
 unfold Im at h
 split at h
 ·cases h
 ·rename_i m' hm
  split at h
  ·cases h
  ·rename_i u' hu
   split at h
   ·cases h
   ·rename_i l' hl
    split at h
    ·cases h
    ·rename_i hne
     obtain ⟨rfl,rfl,rfl⟩:l'=l∧u'=u∧m'=m:=by
      have:=some_inj h
      simpa using this
     rcases mY hm with ⟨rfl,rfl⟩ | ⟨km,rfl,hm1,hm2⟩
     ·refine ⟨?_,fun _=>rfl⟩
      rcases mY hu with ⟨rfl,rfl⟩ | ⟨ku,rfl,hu1,hu2⟩
      ·rcases mY hl with ⟨rfl,rfl⟩ | ⟨kl,rfl,hl1,hl2⟩
       ·simp [jO,Instr.sliceBounds]
       ·simp [jO,Instr.sliceBounds,A.den,Instr.sliceBound,asIntOf,hl2]
      ·have:u'≤C:=by omega
       rcases mY hl with ⟨rfl,rfl⟩ | ⟨kl,rfl,hl1,hl2⟩
       ·simp [jO,Instr.sliceBounds,A.den,Instr.sliceBound,asIntOf,this]
       ·simp [jO,Instr.sliceBounds,A.den,Instr.sliceBound,asIntOf,hl2,this]
     ·refine ⟨?_,fun h=>by cases h⟩
      have:m'≤C:=by omega
      rcases mY hu with ⟨rfl,rfl⟩ | ⟨ku,rfl,hu1,hu2⟩
      ·exact absurd rfl (hne _ rfl)
      ·rcases mY hl with ⟨rfl,rfl⟩ | ⟨kl,rfl,hl1,hl2⟩
       ·simp [jO,Instr.sliceBounds,A.den,Instr.sliceBound,asIntOf,this,hu2]
       ·simp [jO,Instr.sliceBounds,A.den,Instr.sliceBound,asIntOf,hl2,this,hu2]
theorem Bu (r:Option (Nat×Nat)) (d:Nat):(qg r d).map σ.ad=(r.map σ.ad).map (·.add d):=by
 cases r with
 | none=>rfl
 | some r=>simp [qg,kV]
theorem Ez {D:Nat→Prop} {r:Option (Nat×Nat)} {d:Nat} (h:∀x,r=some x→D x.1):∀x,qg r d=some x→D x.1:=by
 intro x hx
 cases r with
 | none=>cases hx
 | some r =>
  obtain rfl:=some_inj hx
  exact h r rfl
theorem Qy {t:TypeId} {x:A} {lo hi mx:Option A} {r:A} (h:Iq (ah P) t x lo hi mx=some r) (hx:x.ok σ.dom) :
  bP P σ (Instr.sliceAt t (x.den σ) (lo.map (A.den σ)) (hi.map (A.den σ)) (mx.map (A.den σ))) r:=by
 unfold Iq at h
 split at h
 ·cases h
 ·rename_i ti ht
  split at h
  ·rename_i r0
   split at h
   ·rename_i n e j o hd
    unfold Io at h
    split at h
    ·cases h
    ·rename_i te hte
     split at h
     ·cases h
     ·rename_i l u m hb
      obtain rfl:=some_inj h
      have hmx:jO mx n m=m:=by
       cases mx with
       | none=>exact ((tL (P:=P) (σ:=σ) hb (Nat.le_refl _) false default).2 rfl).symm
       | some _=>rfl
      refine ⟨fun w=> ?_,?_⟩
      ·have hr:=(tL (P:=P) (σ:=σ) hb (Nat.le_refl n) false w).1
       rw [hmx] at hr
       simp only [Instr.sliceAt,Sem.run_bind,fA ht,hd,Result.andThen_ok,A.den,Option.map_some,Instr.sureAddr,Sem.run_pure,hr,dY hte,Val.ex,Nat.add_zero]
       by_cases hml:m=l
       ·have:Nat.beq m l=true:=by rw [hml]; exact Nat.beq_refl l
        rw [this,if_pos hml]; rfl
       ·have:Nat.beq m l=false:=by
         cases hc:Nat.beq m l with
         | false=>rfl
         | true=>exact absurd (aY hc) hml
        rw [this,if_neg hml,kV]; rfl
      ·simp only [A.ok] at hx ⊢
       exact ⟨fun y hy=>by obtain rfl:=some_inj hy; exact hx,fun y hy=>by cases hy⟩
   ·cases h
  ·rename_i r0 len cap c
   split at h
   ·rename_i e hd
    unfold Lc at h
    split at h
    ·cases h
    ·rename_i te hte
     split at h
     ·cases h
     ·rename_i l u m hb
      simp only [A.ok] at hx
      have run:∀w,(Instr.sliceAt t (.slice (r0.map σ.ad) len (cap+σ.ex c)) (lo.map (A.den σ)) (hi.map (A.den σ)) (mx.map (A.den σ))).run P w =
        .ok (.slice (if jO mx (cap+σ.ex c) m=l then r0.map σ.ad else (r0.map σ.ad).map (·.add (l*te.size))) (u - l) (jO mx (cap+σ.ex c) m - l)) w:=fun w=>by
       have hr:=(tL (P:=P) (σ:=σ) hb (Nat.le_add_right cap (σ.ex c)) true w).1
       simp only [Instr.sliceAt,Sem.run_bind,fA ht,hd,Result.andThen_ok,Instr.slice,hr,dY hte,Sem.run_pure]
      have hm:=(tL (P:=P) (σ:=σ) hb (Nat.le_refl cap) true default).2
      split at h
      ·rename_i hc
       obtain rfl:=some_inj h
       have e2:jO mx (cap+σ.ex c) m=m:=by
        cases mx with
        | none=>simp only at hc ⊢; rw [hc,hm rfl]; rfl
        | some _=>rfl
       rw [e2] at run
       refine ⟨fun w=> ?_,?_⟩
       ·show Sem.run P (Instr.sliceAt t (.slice (r0.map σ.ad) len (cap+σ.ex c)) _ _ _) w=.ok (.slice ((cond (Nat.beq m l) r0 (qg r0 (l.mul te.size))).map σ.ad) (u.sub l) ((m.sub l)+0)) w
        rw [run w,Nat.add_zero]
        by_cases hml:m=l
        ·have:Nat.beq m l=true:=by rw [hml]; exact Nat.beq_refl l
         rw [this,if_pos hml]; rfl
        ·have:Nat.beq m l=false:=by
          cases hc:Nat.beq m l with
          | false=>rfl
          | true=>exact absurd (aY hc) hml
         rw [this,if_neg hml,cond_false,Bu]; rfl
       ·refine ⟨?_,fun y hy=>by cases hy⟩
        cases Nat.beq m l with
        | false=>exact Ez hx.1
        | true=>exact hx.1
      ·rename_i c' hc
       obtain ⟨h1,h2⟩:=aD h
       obtain rfl:=some_inj h2
       have hlm:=jw h1
       obtain ⟨rfl,rfl⟩:mx=none∧c=some c':=by
        cases mx with
        | none=>exact ⟨rfl,hc⟩
        | some _=>cases hc
       obtain rfl:=hm rfl
       refine ⟨fun w=> ?_,Ez hx.1,hx.2⟩
       show Sem.run P (Instr.sliceAt t (.slice (r0.map σ.ad) len (m+σ.ex (some c'))) _ _ _) w=.ok (.slice ((qg r0 (l.mul te.size)).map σ.ad) (u.sub l) ((m.sub l)+σ.ex (some c'))) w
       rw [run w,Bu]
       have hne:¬(jO none (m+σ.ex (some c')) m=l):=by simp only [jO]; omega
       rw [if_neg hne]
       have e3:jO none (m+σ.ex (some c')) m - l=m.sub l+σ.ex (some c'):=by
        show m+σ.ex (some c') - l=m - l+σ.ex (some c')
        omega
       rw [e3]; rfl
   ·cases h
  ·rename_i s
   split at h
   ·rename_i hd
    unfold Ip at h
    split at h
    ·cases h
    ·split at h
     ·cases h
     ·rename_i l u m hb
      obtain rfl:=some_inj h
      refine ⟨fun w=> ?_,by simp [A.ok]⟩
      have hr:=(tL (P:=P) (σ:=σ) hb (Nat.le_refl _) false w).1
      have hsz:((⟨⟨s⟩⟩:ByteArray)).size=s.length:=rfl
      simp only [Instr.sliceAt,Sem.run_bind,fA ht,hd,Result.andThen_ok,A.den,Instr.slice,hsz,Option.map_none] at hr ⊢
      simp only [Option.isSome_none,Bool.false_eq_true,if_false,Sem.run_bind,Sem.run_pure,Result.andThen_ok,hr]
      have:(⟨⟨s⟩⟩:ByteArray).extract l u=⟨⟨(s.take u).drop l⟩⟩:=by
       apply ByteArray.ext
       rw [ByteArray.data_extract]
       apply Array.ext'
       rw [Array.toList_extract,List.drop_take]
      rw [this]
   ·cases h
  ·cases h
end
end Go.Proofs.YteemnmalikomgaaGreatDoor.Ev
