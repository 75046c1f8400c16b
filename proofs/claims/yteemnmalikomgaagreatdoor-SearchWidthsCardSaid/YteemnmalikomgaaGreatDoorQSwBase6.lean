import Derived.Test.YteemnmalikomgaaGreatDoorQSwBase5
set_option maxRecDepth 100000
set_option maxHeartbeats 3200000
namespace Go.Proofs.YteemnmalikomgaaGreatDoor
open Go.ChangeShapes Go.WideShapes Go.ChangeAt Go.RowKit
namespace NF
theorem fF.Qd {w:World} {ok ok':Nat→Prop} {size n:Nat} {A:Option Addr} {xs:List Value} (h:fF w ok size n A xs) (hm:∀b,ok b→b<w.heap.size→ok' b):fF w ok' size n A xs :=
 ⟨h.len,fun hn=>let ⟨b,off,e,h1,h2,h3⟩:=h.spot hn; ⟨b,off,e,hm b h1 h2,h2,h3⟩⟩
structure uV (w:World) (ok:Nat→Prop) (s:Sg) (m:Nat) (x:Nv) (xs:List Nv):Prop where
 set:fF w ok 2 x.n x.A (aN s)
 le:x.n≤x.c
 many:x.n≤2000000
 kids:fF w ok 6 x.n2 x.A2 (bY xs)
 le2:x.n2≤x.c2
 many2:x.n2≤1000000
 len:m=x.n2
 lZ:xs.length=x.n2
 signs:∀r∈s,(-2147483648≤r.1∧r.1≤2147483647)∧ -2147483648≤r.2∧r.2≤2147483647
 ints:(-9223372036854775808≤x.mn∧x.mn≤9223372036854775807)∧ -9223372036854775808≤x.mx∧x.mx≤9223372036854775807
mutual
def gq (w:World) (ok:Nat→Prop):Nd→Nv→Prop
 | .mk k s nt ks mn mx,x=>x.k=k∧x.nt=nt∧x.mn=mn∧x.mx=mx∧∃xs:List Nv,uV w ok s ks.length x xs∧dn w ok ks xs
def dn (w:World) (ok:Nat→Prop):List Nd→List Nv→Prop
 | [],xs=>xs=[]
 | y::ys,xs=>∃x r,xs=x::r∧gq w ok y x∧dn w ok ys r
end
theorem uV.turned {M:Nat→Prop} {w w':World} {ok:Nat→Prop} {s:Sg} {m:Nat} {x:Nv} {xs:List Nv} (h:uV w ok s m x xs) (ht:ak M w w') (hm:∀b,ok b→b<w.heap.size→¬M b):uV w' ok s m x xs :=
 ⟨h.set.turned ht hm,h.le,h.many,h.kids.turned ht hm,h.le2,h.many2,h.len,h.lZ,h.signs,h.ints⟩
theorem uV.mono {w:World} {ok ok':Nat→Prop} {s:Sg} {m:Nat} {x:Nv} {xs:List Nv} (h:uV w ok s m x xs) (hm:∀b,ok b→b<w.heap.size→ok' b):uV w ok' s m x xs :=
 ⟨h.set.Qd hm,h.le,h.many,h.kids.Qd hm,h.le2,h.many2,h.len,h.lZ,h.signs,h.ints⟩
mutual
theorem gH {M:Nat→Prop} {w w':World} {ok:Nat→Prop} (ht:ak M w w') (hm:∀b,ok b→b<w.heap.size→¬M b):∀ {t:Nd} {x:Nv},gq w ok t x→gq w' ok t x
 | .mk k s nt ks mn mx,x,h=>by
  rw [gq] at h ⊢
  obtain ⟨h1,h2,h3,h4,xs,h5,h6⟩:=h
  exact ⟨h1,h2,h3,h4,xs,h5.turned ht hm,kT ht hm h6⟩
theorem kT {M:Nat→Prop} {w w':World} {ok:Nat→Prop} (ht:ak M w w') (hm:∀b,ok b→b<w.heap.size→¬M b):∀ {ks:List Nd} {xs:List Nv},dn w ok ks xs→dn w' ok ks xs
 | [],xs,h=>by rw [dn] at h ⊢; exact h
 | y::ys,xs,h=>by
  rw [dn] at h ⊢
  obtain ⟨x,r,e,h1,h2⟩:=h
  exact ⟨x,r,e,gH ht hm h1,kT ht hm h2⟩
end
mutual
theorem iO {w:World} {ok ok':Nat→Prop} (hm:∀b,ok b→b<w.heap.size→ok' b):∀ {t:Nd} {x:Nv},gq w ok t x→gq w ok' t x
 | .mk k s nt ks mn mx,x,h=>by
  rw [gq] at h ⊢
  obtain ⟨h1,h2,h3,h4,xs,h5,h6⟩:=h
  exact ⟨h1,h2,h3,h4,xs,h5.mono hm,nT hm h6⟩
theorem nT {w:World} {ok ok':Nat→Prop} (hm:∀b,ok b→b<w.heap.size→ok' b):∀ {ks:List Nd} {xs:List Nv},dn w ok ks xs→dn w ok' ks xs
 | [],xs,h=>by rw [dn] at h ⊢; exact h
 | y::ys,xs,h=>by
  rw [dn] at h ⊢
  obtain ⟨x,r,e,h1,h2⟩:=h
  exact ⟨x,r,e,iO hm h1,nT hm h2⟩
end
theorem uV.Ya {w:World} {ok:Nat→Prop} {lo:Nat} {s:Sg} {m:Nat} {x:Nv} {xs:List Nv} (h:uV w ok s m x xs) (hl:∀b,ok b→lo≤b):iD w lo w.heap.size s m x xs:=by
 refine ⟨h.set.sq,h.le,Nat.le_trans h.many (by omega),h.kids.sq,h.le2,Nat.le_trans h.many2 (by omega),h.len,h.lZ,h.signs,h.ints,fun b off e hn=> ?_,fun b off e hn=> ?_⟩
 ·obtain ⟨b',off',e',h1,_⟩:=h.set.spot hn
  rw [e] at e'
  injection e' with e'
  injection e' with e'
  exact e' ▸ hl _ h1
 ·obtain ⟨b',off',e',h1,_⟩:=h.kids.spot hn
  rw [e] at e'
  injection e' with e'
  injection e' with e'
  exact e' ▸ hl _ h1
mutual
theorem Pt {w:World} {ok:Nat→Prop} {lo:Nat} (hl:∀b,ok b→lo≤b):∀ {t:Nd} {x:Nv},gq w ok t x→bQ w lo w.heap.size t x
 | .mk k s nt ks mn mx,x,h=>by
  rw [gq] at h
  rw [bQ]
  obtain ⟨h1,h2,h3,h4,xs,h5,h6⟩:=h
  exact ⟨h1,h2,h3,h4,xs,h5.Ya hl,K8 hl h6⟩
theorem K8 {w:World} {ok:Nat→Prop} {lo:Nat} (hl:∀b,ok b→lo≤b):∀ {ks:List Nd} {xs:List Nv},dn w ok ks xs→cO w lo w.heap.size ks xs
 | [],xs,h=>by rw [dn] at h; rw [cO]; exact h
 | y::ys,xs,h=>by
  rw [dn] at h
  rw [cO]
  obtain ⟨x,r,e,h1,h2⟩:=h
  exact ⟨x,r,e,Pt hl h1,K8 hl h2⟩
end
theorem dn.snoc {w:World} {ok:Nat→Prop} {y:Nd} {x:Nv} (hy:gq w ok y x):∀ {ks:List Nd} {xs:List Nv},dn w ok ks xs→dn w ok (ks++[y]) (xs++[x])
 | [],xs,h=>by
  rw [dn] at h
  subst h
  rw [List.nil_append,List.nil_append,dn]
  exact ⟨x,[],rfl,hy,by rw [dn]⟩
 | z::zs,xs,h=>by
  rw [dn] at h
  obtain ⟨x',r,rfl,h1,h2⟩:=h
  rw [List.cons_append,List.cons_append,dn]
  exact ⟨x',r++[x],rfl,h1,h2.snoc hy⟩
theorem H6 {w:World} {ok:Nat→Prop}:∀ {ks:List Nd} {xs:List Nv},dn w ok ks xs→xs.length=ks.length
 | [],xs,h=>by rw [dn] at h; subst h; rfl
 | y::ys,xs,h=>by
  rw [dn] at h
  obtain ⟨x,r,rfl,_,h2⟩:=h
  simp [H6 h2]
theorem qW (w:World) (ok:Nat→Prop) (k:Int) (nt:Bool) (mn mx:Int) (h:(-9223372036854775808≤mn∧mn≤9223372036854775807)∧ -9223372036854775808≤mx∧mx≤9223372036854775807) :
  gq w ok (.mk k [] nt [] mn mx) ⟨k,none,0,0,nt,none,0,0,mn,mx⟩:=by
 rw [gq]
 exact ⟨rfl,rfl,rfl,rfl,[],⟨fF.nothing _ _ _ _,Nat.le_refl _,Nat.zero_le _,fF.nothing _ _ _ _,Nat.le_refl _,Nat.zero_le _,rfl,rfl,fun r hr=>(by cases hr),h⟩,by rw [dn]⟩
structure aT (w:World) (p:Nat) (r:PR):Prop where
 ex:∃A n c,Bk w 92 p #[.slice A n c,.bool r.broken]∧Sq w p 1 n A (bI r.left)∧n≤c∧n≤1000000
 signs:Runes r.left
theorem aT.lt {w:World} {p:Nat} {r:PR} (h:aT w p r):p<w.heap.size:=by
 obtain ⟨A,n,c,h1,_⟩:=h.ex
 exact h1.lt
theorem aT.turned {M:Nat→Prop} {w w':World} {p:Nat} {r:PR} (h:aT w p r) (ht:ak M w w') (hm:∀k,k≤p→¬M k):aT w' p r:=by
 have hp:=h.lt
 obtain ⟨A,n,c,h1,h2,h3⟩:=h.ex
 exact ⟨⟨A,n,c,ht.bk h1 (hm p (Nat.le_refl _)),h2.below (ht.toBelow (Nat.le_of_lt hp) fun k hk=>hm k (Nat.le_of_lt hk)),h3⟩,h.signs⟩
theorem AR {l:List Int} (h:Runes l):Runes l.tail:=fun r hr=>h r (List.mem_of_mem_tail hr)
theorem aT.write {w w':World} {p:Nat} {r:PR} (h:aT w p r) (ht:ak (· = p) w w') {A:Option Addr} {n c:Nat} {b:Bool} {l:List Int} (hb:Bk w' 92 p #[.slice A n c,.bool b]) (hq:Sq w p 1 n A (bI l)) (hc:n≤c) (hn:n≤1000000) (hl:Runes l):aT w' p ⟨l,b⟩ :=
 ⟨⟨A,n,c,hb,hq.below (ht.toBelow (Nat.le_of_lt h.lt) fun _ hk e=>Nat.lt_irrefl _ (e ▸ hk)),hc,hn⟩,hl⟩
theorem aT.cons {w:World} {p:Nat} {x:Int} {l:List Int} {b:Bool} (h:aT w p ⟨x::l,b⟩):∃g off n c,Bk w 92 p #[.slice (some ⟨g,off,none⟩) (n+1) (c+1),.bool b]∧g<p∧w.cell? ⟨g,off,none⟩=some (.int .i32 x)∧Sq w p 1 n (some ⟨g,off+1,none⟩) (bI l)∧n≤c∧n+1≤1000000∧l.length=n∧Runes l∧ -2147483648≤x∧x≤2147483647:=by
 obtain ⟨A,n,c,h1,h2,h3,h4⟩:=h.ex
 have hl:=h2.len
 simp [bI] at hl
 obtain ⟨m,rfl⟩:∃m,n=m+1:=⟨n - 1,by omega⟩
 obtain ⟨d,rfl⟩:∃d,c=d+1:=⟨c - 1,by omega⟩
 obtain ⟨g,off,rfl,hg,hc⟩:=h2.spot (by omega)
 refine ⟨g,off,m,d,h1,hg,hc 0 _ rfl,⟨by simp [bI]; omega,fun _=>⟨g,off+1,rfl,hg,fun j u hu=> ?_⟩⟩,by omega,h4,by omega,fun r hr=>h.signs r (List.mem_cons_of_mem _ hr),(h.signs x List.mem_cons_self).1,(h.signs x List.mem_cons_self).2⟩
 rw [show off+1+j=off+(j+1) by omega]
 exact hc (j+1) u hu
theorem aT.nil {w:World} {p:Nat} {b:Bool} (h:aT w p ⟨[],b⟩):∃A c,Bk w 92 p #[.slice A 0 c,.bool b]:=by
 obtain ⟨A,n,c,h1,h2,h3,h4⟩:=h.ex
 have hl:=h2.len
 simp [bI] at hl
 obtain rfl:n=0:=by omega
 exact ⟨A,c,h1⟩
def AU (p:Nat) (r:PR) (w:World) (e:Ending) (w':World):Prop:=e=.returned (.tuple #[])∧aT w' p r∧ak (· = p) w w'
theorem gM (p:Nat) (r:PR) (w:World) (h:aT w p r):Calls Tryz.prog 217 #[.pointer (some ⟨p,0,none⟩)] w fun e w'=>AU p .none w e w':=by
 obtain ⟨A,n,c,h1,h2,h3,h4⟩:=h.ex
 have c0:w.cell? ⟨p,0,none⟩=some (.slice A n c):=h1.get 0
 have c1:w.cell? ⟨p,1,none⟩=some (.bool r.broken):=h1.get 1
 have f0:=h1.free 0
 have f1:=h1.free 1
 go_enter Tryz.func217,Tryz.ntmps217
 go_wp2_with fail
 go_end0
 exact ⟨rfl,h.write ((ak.bR p 0 w _).trans (ak.bR p 1 _ _) fun _ _ e=>e) ((h1.put 0 _).put 1 _) (Sq.nothing _ _ _ _) (Nat.le_refl _) (Nat.zero_le _) (fun _ hr=>by cases hr),(ak.bR p 0 w _).trans (ak.bR p 1 _ _) fun _ _ e=>e⟩
theorem xw (p:Nat) (r:PR) (s:Int) (w:World) (h:aT w p r):Calls Tryz.prog 134 #[.pointer (some ⟨p,0,none⟩),.int .i32 s] w fun e w'=>e=.returned (.bool (r.sees s))∧w'=w:=by
 obtain ⟨l,b⟩:=r
 cases l with
 | nil =>
  obtain ⟨A,c,h1⟩:=h.nil
  have c0:w.cell? ⟨p,0,none⟩=some (.slice A 0 c):=h1.get 0
  go_enter Tryz.func134,Tryz.ntmps134
  go_wp2_with fail
  go_ret
  exact ⟨rfl,rfl⟩
 | cons x l =>
  obtain ⟨g,off,n,c,h1,hg,hx,_⟩:=h.cons
  have c0:w.cell? ⟨p,0,none⟩=some (.slice (some ⟨g,off,none⟩) (n+1) (c+1)):=h1.get 0
  go_enter Tryz.func134,Tryz.ntmps134
  go_wp2_with fail
  go_ret
  exact ⟨aC (by first | (simp [PR.sees]; done) | (simp [PR.sees]; omega)),rfl⟩
def Taken (p:Nat) (r:PR) (s:Int) (w:World) (e:Ending) (w':World):Prop:=e=.returned (.bool (r.sees s))∧aT w' p (if r.sees s then r.tail else r)∧ak (· = p) w w'
theorem qX (p:Nat) (r:PR) (s:Int) (w:World) (h:aT w p r):Calls Tryz.prog 90 #[.pointer (some ⟨p,0,none⟩),.int .i32 s] w fun e w'=>Taken p r s w e w':=by
 have SW:=Lib.hid (xw p r s w h)
 cases hs:r.sees s with
 | false =>
  rw [hs] at SW
  have T:=Lib.hid (show Taken p r s w (.returned (.bool false)) w from ⟨by rw [hs],by rw [hs]; exact h,ak.refl _ _⟩)
  go_enter Tryz.func90,Tryz.ntmps90
  go_wp2_with fail
  refine SW.out.mono ?_
  rintro e w' ⟨rfl,rfl⟩
  go_wp2_with fail
  go_ret
  exact T.out
 | true =>
  rw [hs] at SW
  obtain ⟨l,b⟩:=r
  obtain ⟨x,l,rfl⟩:∃x l',l=x::l':=by
   cases l with
   | nil=>simp [PR.sees] at hs
   | cons x l=>exact ⟨x,l,rfl⟩
  obtain ⟨g,off,n,c,h1,hg,hx,hq,hc,hn,hl,hr,_⟩:=h.cons
  have c0:w.cell? ⟨p,0,none⟩=some (.slice (some ⟨g,off,none⟩) (n+1) (c+1)):=h1.get 0
  have f0:=h1.free 0
  have D:=Lib.hid (show ∀A,Sq w p 1 n A (bI l)→aT (w.setCell ⟨p,0,none⟩ (.slice A n c)) p ⟨l,b⟩∧ak (· = p) w (w.setCell ⟨p,0,none⟩ (.slice A n c)) from fun A hA=>⟨h.write (ak.bR p 0 w _) (h1.put 0 _) hA hc (by omega) hr,ak.bR p 0 w _⟩)
  have Q:=Lib.hid hq
  have Q0:=Lib.hid (show c=0→∀A,aT (w.setCell ⟨p,0,none⟩ (.slice A n 0)) p ⟨l,b⟩∧ak (· = p) w (w.setCell ⟨p,0,none⟩ (.slice A n 0)) from fun h0 A=>by
   obtain rfl:=h0
   obtain rfl:n=0:=by omega
   obtain rfl:=List.eq_nil_of_length_eq_zero hl
   exact D.out A (Sq.nothing _ _ _ _))
  have T:=Lib.hid (show ∀w',aT w' p ⟨l,b⟩∧ak (· = p) w w'→Taken p ⟨x::l,b⟩ s w (.returned (.bool true)) w' from fun w' h'=>⟨by rw [hs],by rw [hs]; exact h'.1,h'.2⟩)
  clear h1 h hq hc hn hl hr
  go_enter Tryz.func90,Tryz.ntmps90
  go_wp2_with fail
  refine SW.out.mono ?_
  rintro e w' ⟨rfl,rfl⟩
  go_wp2_with fail
  ·go_ret
   exact T.out _ (Q0.out (by first | assumption | omega) _)
  ·go_ret
   exact T.out _ (D.out _ Q.out)
end NF
end Go.Proofs.YteemnmalikomgaaGreatDoor
namespace Go.Proofs.YteemnmalikomgaaGreatDoor
open Go.ChangeShapes Go.WideShapes Go.ChangeAt Go.RowKit
namespace NF
def fJ (p:Nat) (v:Value) (r':PR) (w:World) (e:Ending) (w':World):Prop:=e=.returned v∧aT w' p r'∧ak (· = p) w w'
theorem ak.more {p:Nat} {w w1 w2:World} (h:ak (· = p) w w1) (h2:ak (· = p) w1 w2):ak (· = p) w w2:=h.trans h2 fun _ _ e=>e
theorem nU (p:Nat) (r:PR) (s:Int) (w:World) (h:aT w p r):Calls Tryz.prog 214 #[.pointer (some ⟨p,0,none⟩),.int .i32 s] w fun e w'=>AU p (r.need s) w e w':=by
 have TW:=Lib.hid (qX p r s w h)
 unfold PR.need
 cases hs:r.sees s with
 | true =>
  rw [if_pos rfl]
  have T:=Lib.hid (show ∀e w',Taken p r s w e w'→e=.returned (.bool true)∧AU p r.tail w (.returned (.tuple #[])) w' from fun e w' ⟨h1,h2,h3⟩=>⟨by rw [h1,hs],rfl,by rw [hs,if_pos rfl] at h2; exact h2,h3⟩)
  clear h hs
  go_enter Tryz.func214,Tryz.ntmps214
  go_wp2_with fail
  refine TW.out.mono ?_
  intro e w1 ht
  obtain ⟨rfl,h2⟩:=T.out e w1 ht
  have H2:=Lib.hid h2
  clear ht h2
  go_wp2_with fail
  go_end0
  exact H2.out
 | false =>
  rw [if_neg (by simp)]
  have T:=Lib.hid (show ∀e w',Taken p r s w e w'→e=.returned (.bool false)∧aT w' p r∧ak (· = p) w w' from fun e w' ⟨h1,h2,h3⟩=>⟨by rw [h1,hs],by rw [hs,if_neg (by simp)] at h2; exact h2,h3⟩)
  clear h hs
  go_enter Tryz.func214,Tryz.ntmps214
  go_wp2_with fail
  refine TW.out.mono ?_
  intro e w1 ht
  obtain ⟨rfl,h2,h3⟩:=T.out e w1 ht
  have RW:=Lib.hid (gM p r w1 h2)
  have H3:=Lib.hid h3
  clear ht h2 h3
  go_wp2_with fail
  refine RW.out.mono ?_
  rintro e w2 ⟨rfl,h4,h5⟩
  have R:=Lib.hid (show AU p .none w (.returned (.tuple #[])) w2 from ⟨rfl,h4,H3.out.more h5⟩)
  clear h4 h5
  go_wp2_with fail
  go_end0
  exact R.out
theorem nV (p:Nat) (r:PR) (w:World) (h:aT w p r):Calls Tryz.prog 213 #[.pointer (some ⟨p,0,none⟩)] w fun e w'=>fJ p (.int .i32 r.next.1) r.next.2 w e w':=by
 obtain ⟨l,b⟩:=r
 cases l with
 | nil =>
  obtain ⟨A,c,h1⟩:=h.nil
  have c0:w.cell? ⟨p,0,none⟩=some (.slice A 0 c):=h1.get 0
  have RW:=Lib.hid (gM p ⟨[],b⟩ w h)
  clear h h1
  go_enter Tryz.func213,Tryz.ntmps213
  go_wp2_with fail
  refine RW.out.mono ?_
  rintro e w2 ⟨rfl,h4,h5⟩
  have R:=Lib.hid (show fJ p (.int .i32 0) .none w (.returned (.int .i32 0)) w2 from ⟨rfl,h4,h5⟩)
  clear h4 h5
  go_wp2_with fail
  go_ret
  exact R.out
 | cons x l =>
  obtain ⟨g,off,n,c,h1,hg,hx,hq,hc,hn,hl,hr,_⟩:=h.cons
  have c0:w.cell? ⟨p,0,none⟩=some (.slice (some ⟨g,off,none⟩) (n+1) (c+1)):=h1.get 0
  have f0:=h1.free 0
  have D:=Lib.hid (show ∀A,Sq w p 1 n A (bI l)→aT (w.setCell ⟨p,0,none⟩ (.slice A n c)) p ⟨l,b⟩∧ak (· = p) w (w.setCell ⟨p,0,none⟩ (.slice A n c)) from fun A hA=>⟨h.write (ak.bR p 0 w _) (h1.put 0 _) hA hc (by omega) hr,ak.bR p 0 w _⟩)
  have Q:=Lib.hid hq
  have Q0:=Lib.hid (show c=0→∀A,aT (w.setCell ⟨p,0,none⟩ (.slice A n 0)) p ⟨l,b⟩∧ak (· = p) w (w.setCell ⟨p,0,none⟩ (.slice A n 0)) from fun h0 A=>by
   obtain rfl:=h0
   obtain rfl:n=0:=by omega
   obtain rfl:=List.eq_nil_of_length_eq_zero hl
   exact D.out A (Sq.nothing _ _ _ _))
  have T:=Lib.hid (show ∀w',aT w' p ⟨l,b⟩∧ak (· = p) w w'→fJ p (.int .i32 x) ⟨l,b⟩ w (.returned (.int .i32 x)) w' from fun w' h'=>⟨rfl,h'.1,h'.2⟩)
  clear h1 h hq hc hn hl hr
  go_enter Tryz.func213,Tryz.ntmps213
  go_wp2_with fail
  ·go_ret
   exact T.out _ (Q0.out (by first | assumption | omega) _)
  ·go_ret
   exact T.out _ (D.out _ Q.out)
theorem uW {w:World} {p:Nat} {r:PR} (h:aT w p r) : -2147483648≤r.next.1∧r.next.1≤2147483647:=by
 obtain ⟨l,b⟩:=r
 cases l with
 | nil=>exact ⟨(by decide:(-2147483648:Int)≤0),(by decide:(0:Int)≤2147483647)⟩
 | cons x l=>exact h.signs x List.mem_cons_self
theorem AV (p:Nat) (r:PR) (w:World) (h:aT w p r):Calls Tryz.prog 262 #[.pointer (some ⟨p,0,none⟩)] w fun e w'=>fJ p (.int .i64 (bq r).1) (bq r).2 w e w':=by
 have NW:=Lib.hid (nV p r w h)
 have hb:=uW h
 unfold bq
 dsimp only
 obtain ⟨s,hs⟩:∃s,r.next.1=s:=⟨_,rfl⟩
 obtain ⟨r1,hr1⟩:∃r1,r.next.2=r1:=⟨_,rfl⟩
 rw [hs,hr1] at NW
 rw [hs] at hb
 rw [hs,hr1]
 clear h hs hr1
 have hw1:IntKind.i64.wrap s=s:=IntWalk.i64_in _ (by omega)
 have hw2:IntKind.i64.wrap (s - 48)=s - 48:=IntWalk.i64_in _ (by omega)
 by_cases hlo:s - 48<0∨9<s - 48
 ·rw [if_pos hlo]
  go_enter Tryz.func262,Tryz.ntmps262
  go_wp2_with fail
  refine NW.out.mono ?_
  rintro e w1 ⟨rfl,h1,h2⟩
  have RW:=Lib.hid (gM p r1 w1 h1)
  have H2:=Lib.hid h2
  clear h1 h2
  rcases hlo with hlo | hlo
  ·go_wp2_with fail
   refine RW.out.mono ?_
   rintro e w2 ⟨rfl,h4,h5⟩
   have R:=Lib.hid (show fJ p (.int .i64 (s - 48)) .none w (.returned (.int .i64 (s - 48))) w2 from ⟨rfl,h4,H2.out.more h5⟩)
   clear h4 h5
   go_wp2_with fail
   go_ret
   exact R.out
  ·have hn:¬s - 48<0:=by omega
   go_wp2_with fail
   refine RW.out.mono ?_
   rintro e w2 ⟨rfl,h4,h5⟩
   have R:=Lib.hid (show fJ p (.int .i64 (s - 48)) .none w (.returned (.int .i64 (s - 48))) w2 from ⟨rfl,h4,H2.out.more h5⟩)
   clear h4 h5
   go_wp2_with fail
   go_ret
   exact R.out
 ·rw [if_neg hlo]
  have hn:¬s - 48<0:=by omega
  have hn2:¬9<s - 48:=by omega
  go_enter Tryz.func262,Tryz.ntmps262
  go_wp2_with fail
  refine NW.out.mono ?_
  rintro e w1 ⟨rfl,h1,h2⟩
  have R:=Lib.hid (show fJ p (.int .i64 (s - 48)) r1 w (.returned (.int .i64 (s - 48))) w1 from ⟨rfl,h1,h2⟩)
  clear h1 h2
  go_wp2_with fail
  go_ret
  exact R.out
theorem sS (p:Nat) (r:PR) (w:World) (h:aT w p r):Calls Tryz.prog 294 #[.pointer (some ⟨p,0,none⟩)] w fun e w'=>fJ p (.int .i32 (bG r).1) (bG r).2 w e w':=by
 have NW:=Lib.hid (nV p r w h)
 unfold bG
 obtain ⟨s,hs⟩:∃s,r.next.1=s:=⟨_,rfl⟩
 obtain ⟨r1,hr1⟩:∃r1,r.next.2=r1:=⟨_,rfl⟩
 have he:r.next=(s,r1):=by rw [←hs,←hr1]
 rw [he] at NW ⊢
 dsimp only at NW ⊢
 clear h hs hr1 he
 by_cases h92:s=92
 ·subst h92
  rw [if_pos rfl]
  go_enter Tryz.func294,Tryz.ntmps294
  go_wp2_with fail
  refine NW.out.mono ?_
  rintro e w1 ⟨rfl,h1,h2⟩
  have NX:=Lib.hid (nV p r1 w1 h1)
  have H2:=Lib.hid h2
  clear h1 h2
  go_wp2_with fail
  refine NX.out.mono ?_
  rintro e w2 ⟨rfl,h4,h5⟩
  have R:=Lib.hid (show fJ p (.int .i32 r1.next.1) r1.next.2 w (.returned (.int .i32 r1.next.1)) w2 from ⟨rfl,h4,H2.out.more h5⟩)
  clear h4 h5
  go_wp2_with fail
  go_ret
  exact R.out
 ·rw [if_neg h92]
  have hne:(s == 92)=false:=by simp [h92]
  go_enter Tryz.func294,Tryz.ntmps294
  go_wp2_with fail
  refine NW.out.mono ?_
  rintro e w1 ⟨rfl,h1,h2⟩
  have R:=Lib.hid (show fJ p (.int .i32 s) r1 w (.returned (.int .i32 s)) w1 from ⟨rfl,h1,h2⟩)
  clear h1 h2
  go_wp2_with fail
  go_ret
  exact R.out
theorem Er (p:Nat) (r:PR) (w:World) (h:aT w p r):Calls Tryz.prog 295 #[.pointer (some ⟨p,0,none⟩)] w fun e w'=>e=.returned (.bool (dash r))∧w'=w:=by
 have SW:=Lib.hid (xw p r 45 w h)
 cases hs:r.sees 45 with
 | false =>
  rw [hs] at SW
  have E:dash r=false:=by
   obtain ⟨l,b⟩:=r
   match l,hs with
   | [],_=>rfl
   | [x],_=>rfl
   | x::y::l,hs=>simp [PR.sees] at hs; simp [dash,hs]
  rw [E]
  clear h hs E
  go_enter Tryz.func295,Tryz.ntmps295
  go_wp2_with fail
  refine SW.out.mono ?_
  rintro e w' ⟨rfl,rfl⟩
  go_wp2_with fail
  go_ret
  exact ⟨rfl,rfl⟩
 | true =>
  rw [hs] at SW
  obtain ⟨l,b⟩:=r
  match l,hs,h,SW with
  | [],hs,_,_=>simp [PR.sees] at hs
  | [x],hs,h,SW =>
   obtain ⟨g,off,n,c,h1,hg,hx,hq,hc,hn,hl,hr,_⟩:=h.cons
   obtain rfl:n=0:=by simpa using hl.symm
   have c0:w.cell? ⟨p,0,none⟩=some (.slice (some ⟨g,off,none⟩) (0+1) (c+1)):=h1.get 0
   clear h hs h1 hq
   go_enter Tryz.func295,Tryz.ntmps295
   go_wp2_with fail
   refine SW.out.mono ?_
   rintro e w' ⟨rfl,rfl⟩
   go_wp2_with fail
   go_ret
   exact ⟨rfl,rfl⟩
  | x::y::l,hs,h,SW =>
   obtain ⟨g,off,n,c,h1,hg,hx,hq,hc,hn,hl,hr,_⟩:=h.cons
   obtain ⟨m,rfl⟩:∃m,n=m+1:=⟨n - 1,by simp at hl; omega⟩
   have c0:w.cell? ⟨p,0,none⟩=some (.slice (some ⟨g,off,none⟩) (m+1+1) (c+1)):=h1.get 0
   obtain ⟨g',off',e',_,hcc⟩:=hq.spot (by omega)
   injection e' with e'
   injection e' with e1 e2
   subst e1 e2
   have cy:w.cell? ⟨g,off+1,none⟩=some (.int .i32 y):=hcc 0 _ rfl
   have E:dash ⟨x::y::l,b⟩=(y != 93):=by
    simp [PR.sees] at hs
    simp [dash,hs]
   rw [E]
   clear h hs h1 hq hcc E
   go_enter Tryz.func295,Tryz.ntmps295
   go_wp2_with fail
   refine SW.out.mono ?_
   rintro e w' ⟨rfl,rfl⟩
   go_wp2_with fail
   go_ret
   exact ⟨aC (by first | rfl | (simp; done) | (simp [bne]; done)),rfl⟩
end NF
namespace NF
theorem iP {p:Nat} {r:PR} {s:Int} {w:World} (h:aT w p r) (hs:r.sees s=true):Calls Tryz.prog 90 #[.pointer (some ⟨p,0,none⟩),.int .i32 s] w fun e w'=>fJ p (.bool true) r.tail w e w' :=
 (qX p r s w h).mono fun e w' ⟨h1,h2,h3⟩=>⟨by rw [h1,hs],by rw [hs,if_pos rfl] at h2; exact h2,h3⟩
theorem eO {p:Nat} {r:PR} {s:Int} {w:World} (h:aT w p r) (hs:r.sees s=false):Calls Tryz.prog 90 #[.pointer (some ⟨p,0,none⟩),.int .i32 s] w fun e w'=>fJ p (.bool false) r w e w' :=
 (qX p r s w h).mono fun e w' ⟨h1,h2,h3⟩=>⟨by rw [h1,hs],by rw [hs,if_neg (by simp)] at h2; exact h2,h3⟩
theorem pq {p:Nat} {r:PR} {s:Int} {w:World} {b:Bool} (h:aT w p r) (hs:r.sees s=b):Calls Tryz.prog 134 #[.pointer (some ⟨p,0,none⟩),.int .i32 s] w fun e w'=>e=.returned (.bool b)∧w'=w :=
 (xw p r s w h).mono fun e w' ⟨h1,h2⟩=>⟨by rw [h1,hs],h2⟩
theorem Qe {w:World} {p:Nat} {r:PR} (h:aT w p r) : -9223372036854775808≤(bq r).1∧(bq r).1≤9223372036854775807:=by
 have:=uW h
 unfold bq
 dsimp only
 split<;>(dsimp only; omega)
def kC (a b:Int):Value:=.tuple #[.int .i64 a,.int .i64 b]
theorem JZ (p:Nat) (r:PR) (w:World) (h:aT w p r):Calls Tryz.prog 212 #[.pointer (some ⟨p,0,none⟩)] w fun e w'=>fJ p (kC (bV r).1.1 (bV r).1.2) (bV r).2 w e w':=by
 have DW:=Lib.hid (AV p r w h)
 unfold bV
 obtain ⟨a,ha⟩:∃a,(bq r).1=a:=⟨_,rfl⟩
 obtain ⟨r1,hr1⟩:∃r1,(bq r).2=r1:=⟨_,rfl⟩
 rw [ha,hr1] at DW
 dsimp only
 rw [ha,hr1]
 clear h ha hr1
 cases h44:r1.sees 44 with
 | false =>
  have e:eB a r1=(a,r1):=by unfold eB; rw [h44]; rfl
  rw [e]
  dsimp only
  obtain ⟨X,hX⟩:∃X:(Int×Int)×PR,(if a≠ -1∧a<a then ((a,a),PR.none) else ((a,a),r1.need 125))=X:=⟨_,rfl⟩
  rw [hX]
  have HX:=Lib.hid hX
  clear hX
  go_enter Tryz.func212,Tryz.ntmps212
  go_wp2_with fail
  refine DW.out.mono ?_
  rintro e w1 ⟨rfl,h1,t1⟩
  have TW:=Lib.hid (eO h1 h44)
  have T1:=Lib.hid t1
  clear h1 t1 h44 e DW
  go_wp2_with fail
  refine TW.out.mono ?_
  rintro e w3 ⟨rfl,h3,t3⟩
  have H3:=Lib.hid h3
  have T3:=Lib.hid (T1.out.more t3)
  clear h3 t3 TW T1
  have NW:=Lib.hid (nU p r1 125 w3 H3.out)
  clear H3
  go_wp2_with fail
  refine NW.out.mono ?_
  rintro e w4 ⟨rfl,h4,h5⟩
  have R:=Lib.hid (show fJ p (kC X.1.1 X.1.2) X.2 w (.returned (kC a a)) w4 from by rw [←HX.out,if_neg (fun x=>Int.lt_irrefl _ x.2)]; exact ⟨rfl,h4,T3.out.more h5⟩)
  have hlt:¬a<a:=Int.lt_irrefl _
  clear h4 h5 NW
  by_cases hm:a = -1
  ·subst hm
   clear hlt
   go_wp2_with fail
   refine bodyPost_ret (results_tmp2 (t:=2) (u:=3) rfl _ _ _) rfl ?_
   exact R.out
  ·have hm1:(a == -1)=false:=by simp [hm]
   go_wp2_with fail
   refine bodyPost_ret (results_tmp2 (t:=2) (u:=3) rfl _ _ _) rfl ?_
   exact R.out
 | true =>
  cases h125:r1.tail.sees 125 with
  | true =>
   have e:eB a r1=(-1,r1.tail):=by unfold eB; rw [h44,h125]; rfl
   rw [e]
   dsimp only
   obtain ⟨r3,hr3⟩:∃r3,r1.tail=r3:=⟨_,rfl⟩
   have R3:=Lib.hid hr3
   rw [hr3]
   obtain ⟨X,hX⟩:∃X:(Int×Int)×PR,(if (-1)≠ -1∧(-1)<a then ((a,(-1)),PR.none) else ((a,(-1)),r3.need 125))=X:=⟨_,rfl⟩
   rw [hX]
   have HX:=Lib.hid hX
   clear hX
   go_enter Tryz.func212,Tryz.ntmps212
   go_wp2_with fail
   refine DW.out.mono ?_
   rintro e w1 ⟨rfl,h1,t1⟩
   have TW:=Lib.hid (iP h1 h44)
   have T1:=Lib.hid t1
   clear h1 t1 h44 e DW
   go_wp2_with fail
   refine TW.out.mono ?_
   rintro e w2 ⟨rfl,h2,t2⟩
   have SW:=Lib.hid (pq h2 h125)
   have H3:=Lib.hid h2
   have T3:=Lib.hid (T1.out.more t2)
   clear h2 t2 TW T1 h125
   go_wp2_with fail
   refine SW.out.mono ?_
   rintro e w3 ⟨rfl,rfl⟩
   clear SW
   have NW:=Lib.hid (nU p r3 125 w3 (by have:=H3.out; rw [R3.out] at this; exact this))
   clear H3 hr3
   go_wp2_with fail
   refine NW.out.mono ?_
   rintro e w4 ⟨rfl,h4,h5⟩
   have R:=Lib.hid (show fJ p (kC X.1.1 X.1.2) X.2 w (.returned (kC a (-1))) w4 from by rw [←HX.out,if_neg (fun x=>x.1 rfl)]; exact ⟨rfl,h4,T3.out.more h5⟩)
   clear h4 h5 NW
   go_wp2_with fail
   refine bodyPost_ret (results_tmp2 (t:=2) (u:=3) rfl _ _ _) rfl ?_
   exact R.out
  | false =>
   obtain ⟨M,hM⟩:∃M,(bq r1.tail).1=M:=⟨_,rfl⟩
   obtain ⟨r3,hr3⟩:∃r3,(bq r1.tail).2=r3:=⟨_,rfl⟩
   have e:eB a r1=(M,r3):=by unfold eB; rw [h44,h125,←hM,←hr3]; rfl
   rw [e]
   dsimp only
   obtain ⟨X,hX⟩:∃X:(Int×Int)×PR,(if M≠ -1∧M<a then ((a,M),PR.none) else ((a,M),r3.need 125))=X:=⟨_,rfl⟩
   rw [hX]
   have HX:=Lib.hid hX
   clear hX
   go_enter Tryz.func212,Tryz.ntmps212
   go_wp2_with fail
   refine DW.out.mono ?_
   rintro e w1 ⟨rfl,h1,t1⟩
   have TW:=Lib.hid (iP h1 h44)
   have T1:=Lib.hid t1
   clear h1 t1 h44 e DW
   go_wp2_with fail
   refine TW.out.mono ?_
   rintro e w2 ⟨rfl,h2,t2⟩
   have SW:=Lib.hid (pq h2 h125)
   have DW:=Lib.hid (AV p r1.tail w2 h2)
   have T2:=Lib.hid (T1.out.more t2)
   rw [hM,hr3] at DW
   clear h2 t2 TW T1 h125 hM hr3
   go_wp2_with fail
   refine SW.out.mono ?_
   rintro e w2 ⟨rfl,rfl⟩
   clear SW
   go_wp2_with fail
   refine DW.out.mono ?_
   rintro e w3 ⟨rfl,h3,t3⟩
   have H3:=Lib.hid h3
   have T3:=Lib.hid (T2.out.more t3)
   clear h3 t3 DW T2
   have NW:=Lib.hid (nU p r3 125 w3 H3.out)
   clear H3
   go_wp2_with fail
   refine NW.out.mono ?_
   rintro e w4 ⟨rfl,h4,h5⟩
   have T4:=Lib.hid (T3.out.more h5)
   by_cases hm:M = -1
   ·subst hm
    have R:=Lib.hid (show fJ p (kC X.1.1 X.1.2) X.2 w (.returned (kC a (-1))) w4 from by rw [←HX.out,if_neg (fun x=>x.1 rfl)]; exact ⟨rfl,h4,T4.out⟩)
    clear h4 h5 NW
    go_wp2_with fail
    refine bodyPost_ret (results_tmp2 (t:=2) (u:=3) rfl _ _ _) rfl ?_
    exact R.out
   ·have hm1:(M == -1)=false:=by simp [hm]
    by_cases hlt:M<a
    ·have RW:=Lib.hid (gM p _ w4 h4)
     clear h4 h5 NW
     go_wp2_with fail
     refine RW.out.mono ?_
     rintro e w5 ⟨rfl,h6,h7⟩
     have R:=Lib.hid (show fJ p (kC X.1.1 X.1.2) X.2 w (.returned (kC a M)) w5 from by rw [←HX.out,if_pos ⟨hm,hlt⟩]; exact ⟨rfl,h6,T4.out.more h7⟩)
     clear h6 h7 RW
     go_wp2_with fail
     refine bodyPost_ret (results_tmp2 (t:=2) (u:=3) rfl _ _ _) rfl ?_
     exact R.out
    ·have R:=Lib.hid (show fJ p (kC X.1.1 X.1.2) X.2 w (.returned (kC a M)) w4 from by rw [←HX.out,if_neg (fun x=>hlt x.2)]; exact ⟨rfl,h4,T4.out⟩)
     clear h4 h5 NW
     go_wp2_with fail
     refine bodyPost_ret (results_tmp2 (t:=2) (u:=3) rfl _ _ _) rfl ?_
     exact R.out
theorem uX {p rb:Nat} {w wr W:World} (t:ak (· = p) w wr) (t2:ak (· = rb) wr W) (hrb:w.heap.size≤rb):ak (· = p) w W :=
 t.trans t2 fun k hk e=>by omega
theorem AY {p rb:Nat} {wr W:World} {r:PR} (h:aT wr p r) (t2:ak (· = rb) wr W) (hrb:p<rb):aT W p r :=
 h.turned t2 fun k hk e=>by omega
theorem Vr {w:World} {p:Nat} {r:PR} (h:aT w p r) (cs:Array Value) (t:TypeId):∃w0,w.alloc (.cells cs t)=w0∧aT w0 p r∧ak (· = p) w w0∧Bk w0 t w.heap.size cs∧p<w.heap.size∧w0.heap.size=w.heap.size+1 :=
 have b:Below w.heap.size w (w.alloc (.cells cs t)):=(Below.refl _ _).alloc (Nat.le_refl _) _
 ⟨_,rfl,h.turned (ak.aH b fun _=>False) (fun _ _ x=>x),ak.aH b _,heap_alloc_new w _,h.lt,by simp⟩
theorem xA {wr:World} {rb:Nat} {x y:Int} (h:Bk wr 189 rb #[.int .i32 x,.int .i32 y]) (a b:Int) :
  ∃W,(wr.setCell ⟨rb,0,none⟩ (.int .i32 a)).setCell ⟨rb,1,none⟩ (.int .i32 b)=W∧ak (· = rb) wr W∧W.cell? ⟨rb,0,none⟩=some (.int .i32 a)∧W.cell? ⟨rb,1,none⟩=some (.int .i32 b) :=
 have k:=(Bk.put h 0 (.int .i32 a)).put 1 (.int .i32 b)
 ⟨_,rfl,(ak.bR rb 0 wr _).trans (ak.bR rb 1 _ _) fun _ _ e=>e,k.get 0,k.get 1⟩
theorem uY (p:Nat) (r:PR) (w:World) (h:aT w p r):Calls Tryz.prog 263 #[.pointer (some ⟨p,0,none⟩)] w fun e w'=>fJ p (.agg #[.int .i32 (dG r).1.1,.int .i32 (dG r).1.2]) (dG r).2 w e w':=by
 obtain ⟨w0,hw0,h0,t0,k0,hp,_⟩:=Vr h #[.int .i32 0,.int .i32 0] 189
 have SW:=Lib.hid (sS p r w0 h0)
 have PL:=Lib.hid hp
 have T0:=Lib.hid t0
 have K0:=Lib.hid k0
 unfold dG
 obtain ⟨a,ha⟩:∃a,(bG r).1=a:=⟨_,rfl⟩
 obtain ⟨r1,hr1⟩:∃r1,(bG r).2=r1:=⟨_,rfl⟩
 rw [ha,hr1] at SW
 dsimp only
 rw [ha,hr1]
 clear h ha hr1 h0 t0 k0 hp
 cases hd:dash r1 with
 | false =>
  rw [if_neg (by simp)]
  go_enter Tryz.func263,Tryz.ntmps263
  go_wp2_with fail
  refine SW.out.mono ?_
  rintro e w1 ⟨rfl,h1,t1⟩
  have DW:=Lib.hid (show Calls Tryz.prog 295 #[.pointer (some ⟨p,0,none⟩)] w1 fun e w'=>e=.returned (.bool false)∧w'=w1 from hd ▸ Er p r1 w1 h1)
  have T1:=Lib.hid (T0.out.more t1)
  have K1:=Lib.hid (t1.bk K0.out (by have:=PL.out; omega))
  have H1:=Lib.hid h1
  clear h1 t1 SW hd
  go_wp2_with fail
  refine DW.out.mono ?_
  rintro e w' ⟨rfl,rfl⟩
  clear DW
  have c0:=Bk.get K1.out 0
  have c1:=Bk.get K1.out 1
  have f0:=Bk.free K1.out 0
  have f1:=Bk.free K1.out 1
  obtain ⟨W,hW,tW,d0,d1⟩:=xA K1.out a a
  have FIN:=Lib.hid (show fJ p (.agg #[.int .i32 a,.int .i32 a]) r1 w (.returned (.agg #[.int .i32 a,.int .i32 a])) W from ⟨rfl,AY H1.out tW PL.out,uX T1.out tW (Nat.le_refl _)⟩)
  clear tW
  go_wp2_with fail
  refine bodyPost_ret (v:=.agg #[.int .i32 a,.int .i32 a]) (by simp [results,Tryz.results263,go_sem,d0,d1]) rfl ?_
  exact FIN.out
 | true =>
  rw [if_pos rfl]
  obtain ⟨r2,hr2⟩:∃r2,r1.need 45=r2:=⟨_,rfl⟩
  rw [hr2]
  obtain ⟨b,hb⟩:∃b,(bG r2).1=b:=⟨_,rfl⟩
  obtain ⟨r3,hr3⟩:∃r3,(bG r2).2=r3:=⟨_,rfl⟩
  rw [hb,hr3]
  have R2:=Lib.hid hr2
  have SW2:=Lib.hid (show ∀w2,aT w2 p r2→Calls Tryz.prog 294 #[.pointer (some ⟨p,0,none⟩)] w2 fun e w'=>fJ p (.int .i32 b) r3 w2 e w' from fun w2 h2=>by have:=sS p r2 w2 h2; rw [hb,hr3] at this; exact this)
  clear hr2 hb hr3
  obtain ⟨X,hX⟩:∃X:(Int×Int)×PR,(if b<a then ((a,b),PR.none) else ((a,b),r3))=X:=⟨_,rfl⟩
  rw [hX]
  have HX:=Lib.hid hX
  clear hX
  go_enter Tryz.func263,Tryz.ntmps263
  go_wp2_with fail
  refine SW.out.mono ?_
  rintro e w1 ⟨rfl,h1,t1⟩
  have DW:=Lib.hid (show Calls Tryz.prog 295 #[.pointer (some ⟨p,0,none⟩)] w1 fun e w'=>e=.returned (.bool true)∧w'=w1 from hd ▸ Er p r1 w1 h1)
  have NW:=Lib.hid (R2.out ▸ nU p r1 45 w1 h1)
  have T1:=Lib.hid (T0.out.more t1)
  have K1:=Lib.hid (t1.bk K0.out (by have:=PL.out; omega))
  clear h1 t1 SW hd
  go_wp2_with fail
  refine DW.out.mono ?_
  rintro e w' ⟨rfl,rfl⟩
  clear DW
  go_wp2_with fail
  refine NW.out.mono ?_
  rintro e w2 ⟨rfl,h2,t2⟩
  have SX:=Lib.hid (SW2.out w2 h2)
  have T2:=Lib.hid (T1.out.more t2)
  have K2:=Lib.hid (t2.bk K1.out (by have:=PL.out; omega))
  clear h2 t2 NW SW2 K1 T1
  go_wp2_with fail
  refine SX.out.mono ?_
  rintro e w3 ⟨rfl,h3,t3⟩
  have T3:=Lib.hid (T2.out.more t3)
  have K3:=Lib.hid (t3.bk K2.out (by have:=PL.out; omega))
  by_cases hlt:b<a
  ·have RW:=Lib.hid (gM p _ w3 h3)
   clear h3 t3 SX K2 T2
   go_wp2_with fail
   refine RW.out.mono ?_
   rintro e w4 ⟨rfl,h4,t4⟩
   have T4:=Lib.hid (T3.out.more t4)
   have K4:=Lib.hid (t4.bk K3.out (by have:=PL.out; omega))
   have H4:=Lib.hid h4
   clear h4 t4 RW
   have c0:=Bk.get K4.out 0
   have c1:=Bk.get K4.out 1
   have f0:=Bk.free K4.out 0
   have f1:=Bk.free K4.out 1
   obtain ⟨W,hW,tW,d0,d1⟩:=xA K4.out a b
   have FIN:=Lib.hid (show fJ p (.agg #[.int .i32 a,.int .i32 b]) PR.none w (.returned (.agg #[.int .i32 a,.int .i32 b])) W from ⟨rfl,AY H4.out tW PL.out,uX T4.out tW (Nat.le_refl _)⟩)
   clear tW
   go_wp2_with fail
   refine bodyPost_ret (v:=.agg #[.int .i32 a,.int .i32 b]) (by simp [results,Tryz.results263,go_sem,d0,d1]) rfl ?_
   rw [←HX.out,if_pos hlt]
   exact FIN.out
  ·have H3:=Lib.hid h3
   clear h3 t3 SX K2 T2
   have c0:=Bk.get K3.out 0
   have c1:=Bk.get K3.out 1
   have f0:=Bk.free K3.out 0
   have f1:=Bk.free K3.out 1
   obtain ⟨W,hW,tW,d0,d1⟩:=xA K3.out a b
   have FIN:=Lib.hid (show fJ p (.agg #[.int .i32 a,.int .i32 b]) r3 w (.returned (.agg #[.int .i32 a,.int .i32 b])) W from ⟨rfl,AY H3.out tW PL.out,uX T3.out tW (Nat.le_refl _)⟩)
   clear tW
   go_wp2_with fail
   refine bodyPost_ret (v:=.agg #[.int .i32 a,.int .i32 b]) (by simp [results,Tryz.results263,go_sem,d0,d1]) rfl ?_
   rw [←HX.out,if_neg (by omega)]
   exact FIN.out
end NF
namespace NF
def Made (ok:Nat→Prop) (t:Nd) (w:World) (e:Ending) (w':World):Prop:=∃x:Nv,e=.returned x.v∧gq w' (fun b=>ok b∨w.heap.size≤b) t x∧Below w.heap.size w w'
def zeroV:Nv:=⟨0,none,0,0,false,none,0,0,0,0⟩
theorem dL (w:World) (k:Int) (A:Option Addr) (n c:Nat) (nt:Bool) (A2:Option Addr) (n2 c2:Nat) (mn mx:Int):∃w0,w.alloc (.cells #[.int .i64 k,.slice A n c,.bool nt,.slice A2 n2 c2,.int .i64 mn,.int .i64 mx] 29)=w0∧aR w0 w.heap.size ⟨k,A,n,c,nt,A2,n2,c2,mn,mx⟩∧Below w.heap.size w w0∧w0.heap.size=w.heap.size+1 :=
 ⟨_,rfl,heap_alloc_new w _,(Below.refl _ _).alloc (Nat.le_refl _) _,by simp⟩
theorem sU (w:World) (cs:Array Value) (t:TypeId) (size n:Nat) (hn:cs.toList.length=n*size):fF (w.alloc (.cells cs t)) (fun b=>b=w.heap.size) size n (some ⟨w.heap.size,0,none⟩) cs.toList :=
 ⟨hn,fun _=>⟨_,0,rfl,rfl,by simp,fun j u hu=>by
  rw [cell_of_row _ _ _ _ _ (0,0) (heap_alloc_new w _),Nat.zero_add]
  simpa using hu⟩⟩
theorem nN {w w':World} {ok:Nat→Prop} {t:Nd} {x:Nv} (h:gq w ok t x) (hb:Below w.heap.size w w'):gq w' ok t x:=gH (ak.aH hb fun _=>False) (fun _ _ _ x=>x) h
theorem xB (s:Int) (hs : -2147483648≤s∧s≤2147483647) (w:World):Calls Tryz.prog 216 #[.int .i32 s] w fun e w'=>Made (fun _=>False) (oz s) w e w':=by
 obtain ⟨w0,hw0,k0,b0,z0⟩:=dL w 2 (some ⟨w.heap.size+1,0,none⟩) 1 1 false none 0 0 0 0
 have hq:=sU w0 #[.int .i32 s,.int .i32 s] 189 2 1 rfl
 have b1:Below w0.heap.size w0 (w0.alloc (.cells #[.int .i32 s,.int .i32 s] 189)):=(Below.refl _ _).alloc (Nat.le_refl _) _
 rw [z0] at hq
 obtain ⟨w1,hw1⟩:∃w1,w0.alloc (.cells #[.int .i32 s,.int .i32 s] 189)=w1:=⟨_,rfl⟩
 rw [hw1] at hq b1
 have k1:=k0.below b1 (by omega)
 have M:=Lib.hid (show Made (fun _=>False) (oz s) w (.returned (Nv.v ⟨2,some ⟨w.heap.size+1,0,none⟩,1,1,false,none,0,0,0,0⟩)) w1 from by
  refine ⟨_,rfl,?_,b0.trans (b1.mono (by omega))⟩
  unfold oz
  rw [gq]
  exact ⟨rfl,rfl,rfl,rfl,[],⟨hq.mono fun b e=>.inr (by omega),Nat.le_refl _,(by decide:(1:Nat)≤2000000),fF.nothing _ _ _ _,Nat.le_refl _,Nat.zero_le _,rfl,rfl,fun r hr=>by simp at hr; subst hr; exact ⟨hs,hs⟩,⟨(by decide:(-9223372036854775808:Int)≤0),(by decide:(0:Int)≤9223372036854775807)⟩,(by decide:(-9223372036854775808:Int)≤0),(by decide:(0:Int)≤9223372036854775807)⟩,by rw [dn]⟩)
 have H0:=Lib.hid hw0
 have H1:=Lib.hid hw1
 have K1:=Lib.hid k1
 clear hq b0 b1 k0 hs hw0 hw1 z0 k1
 go_enter Tryz.func216,Tryz.ntmps216
 go_wp2_with fail
 rw [H0.out,H1.out]
 obtain ⟨p0,p1,p2,p3,p4,p5⟩:=aB K1.out
 refine bodyPost_ret (v:=Nv.v ⟨2,some ⟨w.heap.size+1,0,none⟩,1,1,false,none,0,0,0,0⟩) (by simp [results,Tryz.results216,go_sem,p0,p1,p2,p3,p4,p5]; rfl) rfl ?_
 exact M.out
theorem oO (t:Nd) (x:Nv) (ok:Nat→Prop) (a b:Int) (w:World) (hx:gq w ok t x) (ha : -9223372036854775808≤a∧a≤9223372036854775807) (hb : -9223372036854775808≤b∧b≤9223372036854775807) :
  Calls Tryz.prog 211 #[x.v,.int .i64 a,.int .i64 b] w fun e w'=>Made ok (fH t a b) w e w':=by
 obtain ⟨k,A,n,c,nt,A2,n2,c2,mn,mx⟩:=x
 obtain ⟨w0,hw0,_,b0,z0⟩:=dL w k A n c nt A2 n2 c2 mn mx
 obtain ⟨w1,hw1,k1,b1,z1⟩:=dL w0 5 none 0 0 false (some ⟨w.heap.size+1+1,0,none⟩) 1 1 a b
 have hq:=sU w1 #[.int .i64 k,.slice A n c,.bool nt,.slice A2 n2 c2,.int .i64 mn,.int .i64 mx] 29 6 1 rfl
 obtain ⟨w2,hw2,_,b2,z2⟩:=dL w1 k A n c nt A2 n2 c2 mn mx
 rw [hw2,z1,z0] at hq
 rw [z0] at k1
 have k2:=k1.below b2 (by omega)
 have b02:Below w.heap.size w w2:=(b0.trans (b1.mono (by omega))).trans (b2.mono (by omega))
 have M:=Lib.hid (show Made ok (fH t a b) w (.returned (Nv.v ⟨5,none,0,0,false,some ⟨w.heap.size+1+1,0,none⟩,1,1,a,b⟩)) w2 from by
  refine ⟨_,rfl,?_,b02⟩
  unfold fH
  rw [gq]
  exact ⟨rfl,rfl,rfl,rfl,[⟨k,A,n,c,nt,A2,n2,c2,mn,mx⟩],⟨fF.nothing _ _ _ _,Nat.le_refl _,Nat.zero_le _,hq.mono fun b e=>.inr (by omega),Nat.le_refl _,(by decide:(1:Nat)≤1000000),rfl,rfl,fun r hr=>(by cases hr),⟨ha,hb⟩⟩,by rw [dn]; exact ⟨_,[],rfl,iO (fun b h _=>.inl h) (nN hx b02),by rw [dn]⟩⟩)
 dsimp only [Nv.v]
 have H0:=Lib.hid hw0
 have H1:=Lib.hid hw1
 have H2:=Lib.hid hw2
 have K2:=Lib.hid k2
 clear hq b0 b1 b2 k1 ha hb hx b02 z0 z1 z2 hw0 hw1 hw2 k2
 go_enter Tryz.func211,Tryz.ntmps211
 go_wp2_with fail
 rw [H0.out,H1.out,H2.out]
 obtain ⟨p0,p1,p2,p3,p4,p5⟩:=aB K2.out
 refine bodyPost_ret (v:=Nv.v ⟨5,none,0,0,false,some ⟨w.heap.size+1+1,0,none⟩,1,1,a,b⟩) (by simp [results,Tryz.results211,go_sem,p0,p1,p2,p3,p4,p5]; rfl) rfl ?_
 exact M.out
theorem H8 {ok:Nat→Prop} {t:Nd} {w w0:World} {x:Nv} (hw:Below w.heap.size w w0) (hx:gq w ok t x) (hok:∀b,ok b→b<w.heap.size):Made ok t w (.returned x.v) (aA w0 w.heap.size 0 x):=by
 have t1:=dK w0 w.heap.size 0 x
 refine ⟨x,rfl,?_,hw.trans (t1.toBelow hw.size fun k hk e=>by omega)⟩
 exact iO (fun b h _=>.inl h) (gH t1 (fun b h _ e=>by have:=hok b h; omega) (nN hx hw))
theorem kY (kk:Int) (ks:List Nd) (xs:List Nv) (ok:Nat→Prop) (A:Option Addr) (n c:Nat) (w:World) (hq:fF w ok 6 n A (bY xs)) (hk:dn w ok ks xs) (hl:ks.length=n) (h1:1≤n) (hn:n≤1000000) (hc:n≤c) (hok:∀b,ok b→b<w.heap.size) :
  Calls Tryz.prog 91 #[.int .i64 kk,.slice A n c] w fun e w'=>Made ok (bD kk ks) w e w':=by
 obtain ⟨w0,hw0,k0,b0,z0⟩:=dL w 0 none 0 0 false none 0 0 0 0
 obtain ⟨⟨m0,o0⟩,⟨m1,o1⟩,⟨m2,o2⟩,⟨m3,o3⟩,⟨m4,o4⟩,⟨m5,o5⟩,f0,f1,f2,f3,f4,f5⟩:=bE (o:=0) k0 (by simp)
 have K0:=Lib.hid k0
 by_cases h2:n=1
 ·subst h2
  obtain ⟨t,rfl⟩:=List.length_eq_one_iff.1 hl
  rw [dn] at hk
  obtain ⟨x,r,rfl,hx,hr⟩:=hk
  rw [dn] at hr
  subst hr
  obtain ⟨b,off,rfl,hob,hb,hcell⟩:=hq.spot (by omega)
  obtain ⟨k,A,n,c,nt,A2,n2,c2,mn,mx⟩:=x
  have g:∀j u,(bY [⟨k,A,n,c,nt,A2,n2,c2,mn,mx⟩])[j]? = some u→w0.cell? ⟨b,off+j,none⟩=some u:=fun j u hu=>(b0.cell (p:=⟨b,off+j,none⟩) hb).trans (hcell j u hu)
  have y0:w0.cell? ⟨b,off,none⟩=some (.int .i64 k):=g 0 _ rfl
  have y1:=g 1 _ rfl
  have y2:=g 2 _ rfl
  have y3:=g 3 _ rfl
  have y4:=g 4 _ rfl
  have y5:=g 5 _ rfl
  have M:=Lib.hid (show Made ok t w (.returned (Nv.v ⟨k,A,n,c,nt,A2,n2,c2,mn,mx⟩)) (aA w0 w.heap.size 0 ⟨k,A,n,c,nt,A2,n2,c2,mn,mx⟩) from H8 b0 hx hok)
  rw [bD]
  clear g hcell hq hx hob hb hok k0 b0 z0 hl h1 hn
  go_enter Tryz.func91,Tryz.ntmps91
  go_wp2_with fail
  have PN:=aQ K0.out ⟨k,A,n,c,nt,A2,n2,c2,mn,mx⟩
  change bodyPost _ _ _ _ _ (aA w0 w.heap.size 0 ⟨k,A,n,c,nt,A2,n2,c2,mn,mx⟩)
  generalize aA w0 w.heap.size 0 ⟨k,A,n,c,nt,A2,n2,c2,mn,mx⟩=W at PN M ⊢
  obtain ⟨p0,p1,p2,p3,p4,p5⟩:=aB PN
  exact bodyPost_ret (by simp [results,Tryz.results91,go_sem,p0,p1,p2,p3,p4,p5]<;>rfl) rfl M.out
 ·have hn1:((n:Int) == 1)=false:=by simp; omega
  have hz:=H6 hk
  have M:=Lib.hid (show Made ok (bD kk ks) w (.returned (Nv.v ⟨kk,none,0,0,false,A,n,c,0,0⟩)) (aA w0 w.heap.size 0 ⟨kk,none,0,0,false,A,n,c,0,0⟩) from by
   refine H8 b0 ?_ hok
   have e:bD kk ks=.mk kk [] false ks 0 0:=by
    unfold bD
    split
    ·simp at hl; omega
    ·rfl
   rw [e,gq]
   exact ⟨rfl,rfl,rfl,rfl,xs,⟨fF.nothing _ _ _ _,Nat.le_refl _,Nat.zero_le _,hq,hc,hn,hl,hz.trans hl,fun r hr=>(by cases hr),⟨(by decide:(-9223372036854775808:Int)≤0),(by decide:(0:Int)≤9223372036854775807)⟩,(by decide:(-9223372036854775808:Int)≤0),(by decide:(0:Int)≤9223372036854775807)⟩,hk⟩)
  clear hq hk hok k0 b0 z0 hl h1 hn hz
  go_enter Tryz.func91,Tryz.ntmps91
  go_wp2_with fail
  have PN:=aQ K0.out ⟨kk,none,0,0,false,A,n,c,0,0⟩
  change bodyPost _ _ _ _ _ (aA w0 w.heap.size 0 ⟨kk,none,0,0,false,A,n,c,0,0⟩)
  generalize aA w0 w.heap.size 0 ⟨kk,none,0,0,false,A,n,c,0,0⟩=W at PN M ⊢
  obtain ⟨p0,p1,p2,p3,p4,p5⟩:=aB PN
  exact bodyPost_ret (by simp [results,Tryz.results91,go_sem,p0,p1,p2,p3,p4,p5]<;>rfl) rfl M.out
end NF
