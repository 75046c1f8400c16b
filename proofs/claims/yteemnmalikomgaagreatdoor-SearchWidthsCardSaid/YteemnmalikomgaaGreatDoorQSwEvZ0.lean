import Derived.Test.YteemnmalikomgaaGreatDoorQSwEv8
import Derived.Test.YteemnmalikomgaaGreatDoorQSwBase0
import Derived.KernelRfl
set_option maxRecDepth 100000
set_option maxHeartbeats 1000000
noncomputable section
namespace Go.Proofs.YteemnmalikomgaaGreatDoor.Ev
open Go.Shelf Go.RowKit Go.Proofs
section
variable {P:Program} {ρ:Ren}
theorem Uk {e:TypeId} (hc:P.cellsOf e=1) (count off n:Nat) (hn:off+n≤count):liesAt P P.depth e count off e n=true:=by
 have hd:P.depth=(2*(P.types.size+Made.depth)+1)+1:=rfl
 rw [hd]
 simp only [liesAt,Bool.or_eq_true]
 left
 rw [hd]
 simp [rowAt,hc,hn,sameLayout,Nat.mod_one]
theorem Cg {w:World} (pt it ty e:TypeId) (hp:P.underlying pt=some (.pointer e)) (hc:P.cellsOf e=1) (g off cells:Nat) (hsh:w.shape? g=some (e,cells)) (l:List UInt8) (h0:l≠[]) (hn:off+l.length≤cells) (h63:l.length≤9223372036854775807)
  (hcell:∀j x,l[j]? = some x→w.cell? ((⟨g,off,none⟩:Addr).add j)=some (.int .u8 x.toNat)) :
  (Builtin.unsafeString_ #[pt,it] ty #[.pointer (some ⟨g,off,none⟩),.int .i64 l.length]).run P w=.ok (.string ⟨l.toArray⟩) (w.freeze ⟨g,off,none⟩ l.length):=by
 have hl:l.length≠0:=by simpa using h0
 have hlb:=Lib.run_loadBytes (P:=P) w l ⟨g,off,none⟩ .empty hcell
 have hlies:=Uk (P:=P) hc (cells / P.cellsOf e) off l.length (by rw [hc]; simpa using hn)
 have h63':¬(9223372036854775807:Int)<(l.length:Int):=by omega
 have hdef:Builtin.unsafeString_ #[pt,it] ty #[.pointer (some ⟨g,off,none⟩),.int .i64 l.length] =
   (do
    let n ←asInt (.int .i64 l.length)
    if n<0 then runtimePanic (.error "unsafe.String: len out of range")
    if n > IntKind.i64.max then unsupported (.unsafePointer "String: a length above the largest int")
    if n=0 then pure (.string .empty)
    else if ←variablesAt ⟨g,off,none⟩ (←elemOf pt) n.toNat then do
     let s ←loadBytes ⟨g,off,none⟩ .empty n.toNat
     freeze ⟨g,off,none⟩ n.toNat
     pure (.string s)
    else unsupported (.unsafePointer "String: not so many bytes at ptr")):=rfl
 rw [hdef]
 have hmax:IntKind.i64.max=9223372036854775807:=rfl
 have hneg:¬(l.length:Int)<0:=by omega
 simp [asInt,asIntOf,hmax,h63',hneg,hl,variablesAt,hsh,elemOf,run_underlying hp,hlies,hlb]
theorem QO (L:Lays.n169 P ρ) (X:Builder.Extra P ρ) {b g off cap cells:Nat} (l:List UInt8) (w:World) (c0:w.cell? ⟨b,1,none⟩=some (.slice (some ⟨g,off,none⟩) l.length cap)) (hcap:l.length≤cap) (h0:l≠[])
  (hsh:w.shape? g=some (ρ.t 5,cells)) (hn:off+l.length≤cells) (h63:l.length≤9223372036854775807) (hcell:∀j x,l[j]? = some x→w.cell? ((⟨g,off,none⟩:Addr).add j)=some (.int .u8 x.toNat)) :
  Calls P (ρ.f 169) #[.pointer (some ⟨b,0,none⟩)] w fun e w'=>e=.returned (.string ⟨l.toArray⟩)∧w'=w.drew.freeze ⟨g,off,none⟩ l.length:=by
 have hl0:l.length≠0:=by simpa using h0
 have c1:w.drew.cell? ⟨b,1,none⟩=some (.slice (some ⟨g,off,none⟩) l.length cap):=c0
 have hSD:(Builtin.unsafeSliceData_ #[(ρ.t 37)] (ρ.t 127) #[.slice (some ⟨g,off,none⟩) l.length cap]).run P w.drew=.ok (.pointer (some ⟨g,off,none⟩)) w.drew :=
  Lib.run_unsafeSliceData_row _ _ _ _ _ _ (by omega)
 have hUS:(Builtin.unsafeString_ #[(ρ.t 127),(ρ.t 3)] (ρ.t 9) #[.pointer (some ⟨g,off,none⟩),.int .i64 l.length]).run P w.drew=.ok (.string ⟨l.toArray⟩) (w.drew.freeze ⟨g,off,none⟩ l.length) :=
  Cg (w:=w.drew) (ρ.t 127) (ρ.t 3) (ρ.t 9) (ρ.t 5) L.t127 X.cellsByte g off cells hsh l h0 hn h63 hcell
 clear hcell hsh
 have mixed:=L.mixed
 have t72:=L.t72; have a72:=L.a72; have z72:=L.z72; have v72:=L.v72; have u72:=run_underlying L.t72
 have t70:=L.t70; have a70:=L.a70; have z70:=L.z70; have v70:=L.v70; have u70:=run_underlying L.t70
 have t37:=L.t37; have a37:=L.a37; have z37:=L.z37; have v37:=L.v37; have u37:=run_underlying L.t37
 have t127:=L.t127; have a127:=L.a127; have z127:=L.z127; have v127:=L.v127; have u127:=run_underlying L.t127
 have t3:=L.t3; have a3:=L.a3; have z3:=L.z3; have v3:=L.v3; have u3:=run_underlying L.t3
 have t9:=L.t9; have a9:=L.a9; have z9:=L.z9; have v9:=L.v9; have u9:=run_underlying L.t9
 have t5:=X.t5; have a5:=X.a5; have z5:=X.z5; have v5:=X.v5; have u5:=run_underlying X.t5
 go_enter L.f169,Body.n169_ntmps ρ
 go_wp2
 go_region_o
 all_goals (go_wp2; go_ret; exact ⟨rfl,rfl⟩)
theorem Oc (L:Lays.n169 P ρ) (X:Builder.Extra P ρ) {b:Nat} (w:World) (c0:w.cell? ⟨b,1,none⟩=some (.slice none 0 0)) :
  Calls P (ρ.f 169) #[.pointer (some ⟨b,0,none⟩)] w fun e w'=>e=.returned (.string ⟨#[]⟩)∧w'=w.drew:=by
 have hUS:=Any.unsafeString_none L X
 have c1:w.drew.cell? ⟨b,1,none⟩=some (.slice none 0 0):=c0
 have hSD:(Builtin.unsafeSliceData_ #[(ρ.t 37)] (ρ.t 127) #[.slice none 0 0]).run P w.drew=.ok (.pointer none) w.drew:=rfl
 have mixed:=L.mixed
 have t72:=L.t72; have a72:=L.a72; have z72:=L.z72; have v72:=L.v72; have u72:=run_underlying L.t72
 have t70:=L.t70; have a70:=L.a70; have z70:=L.z70; have v70:=L.v70; have u70:=run_underlying L.t70
 have t37:=L.t37; have a37:=L.a37; have z37:=L.z37; have v37:=L.v37; have u37:=run_underlying L.t37
 have t127:=L.t127; have a127:=L.a127; have z127:=L.z127; have v127:=L.v127; have u127:=run_underlying L.t127
 have t3:=L.t3; have a3:=L.a3; have z3:=L.z3; have v3:=L.v3; have u3:=run_underlying L.t3
 have t9:=L.t9; have a9:=L.a9; have z9:=L.z9; have v9:=L.v9; have u9:=run_underlying L.t9
 have t5:=X.t5; have a5:=X.a5; have z5:=X.z5; have v5:=X.v5; have u5:=run_underlying X.t5
 go_enter L.f169,Body.n169_ntmps ρ
 go_wp2
 go_region_o
 all_goals (go_wp2; go_ret; exact ⟨rfl,rfl⟩)
end
end Go.Proofs.YteemnmalikomgaaGreatDoor.Ev
namespace Go.Proofs.YteemnmalikomgaaGreatDoor.Ev
open Go.Shelf Go.RowKit Go.Proofs
section
variable {P:Program} {ρ:Ren}
theorem pF {f:Nat} {args:List A} {h k:H} {a:A} (hn:h.nx=k.nx) (he:Enters P f) (hc:∀σ w,Rel P.globals.size σ h w→A.oks σ.dom args→Calls P f ⟨A.aj σ args⟩ w fun e v=>e=.returned (a.den σ)∧Goes P.globals.size σ h w σ k v∧a.ok σ.dom):Says P (.call f args h) (.val a k) :=
 ⟨Nat.le_of_eq hn,he,fun σ w r _ ha _m=>callsIn_wide.2 ((hc σ w r ha).mono fun _e _v ⟨h1,h2,h3⟩=>⟨σ,h1,h2,h3⟩)⟩
theorem oW {σ:Val} {h:H} {w:World} (r:Rel P.globals.size σ h w) {j:Nat} {e:TypeId} {tr:Tr A} (hj:h.t.get j=some (.cells e tr 2 none true)) :
  σ.ad (j,0)=⟨σ.blk j,0,none⟩∧w.shape? (σ.blk j)=some (e,2)∧w.frozen? ⟨σ.blk j,0,none⟩=false∧∀k a,tr.get k=some a→w.cell? ⟨σ.blk j,k,none⟩=some (a.den σ)∧a.ok σ.dom:=by
 obtain ⟨cs,lo,hi,b1,b2,b3,b4,b5,b6⟩:=r.at_ j _ hj
 obtain ⟨s1,s2⟩:=b6 rfl rfl
 refine ⟨by simp [Val.ad,s2],by simp [World.shape?,b1,s1],?_,fun k a ha=> ?_⟩
 ·have:=b5 rfl
  simp only [World.frozen?,b1,Bool.and_eq_false_iff,decide_eq_false_iff_not]
  omega
 ·have:=tN (r.at_ j _ hj) ha
  simpa [Val.ad,s2] using this
structure Checks (P:Program) (cc bt:Nat):Prop where
 enters:Enters P cc
 fresh:∀(b:Nat) (w:World),w.cell? ⟨b,0,none⟩=some (.pointer none)→w.shape? b=some (bt,2)→w.frozen? ⟨b,0,none⟩=false →
  Calls P cc #[.pointer (some ⟨b,0,none⟩)] w fun e w'=>e=.returned (.tuple #[])∧w'=w.setCell ⟨b,0,none⟩ (.pointer (some ⟨b,0,none⟩))
 used:∀(b:Nat) (w:World),w.cell? ⟨b,0,none⟩=some (.pointer (some ⟨b,0,none⟩))→Calls P cc #[.pointer (some ⟨b,0,none⟩)] w fun e w'=>e=.returned (.tuple #[])∧w'=w
theorem Od {cc bt:Nat} (C:Checks P cc bt) {args:List A} {h k:H} {a:A} (hs:Jg bt args h=some (a,k)):Says P (.call cc args h) (.val a k):=by
 have en:Enters P cc:=C.enters
 unfold Jg at hs
 split at hs
 ·rename_i j
  split at hs
  ·rename_i e tr hj
   obtain ⟨h1,h2⟩:=aD hs
   have he:=aY h1
   subst he
   split at h2
   ·rename_i hp
    split at h2
    ·rename_i k2 hst
     obtain ⟨rfl,rfl⟩:=ay h2
     have nx:k2.nx=h.nx:=by
      unfold mE at hst
      split at hst
      ·obtain ⟨_,h4⟩:=aD hst
       rw [←some_inj h4]; rfl
      ·cases hst
     refine pF nx.symm en fun σ w r ha=> ?_
     obtain ⟨a1,a2,a3,a4⟩:=oW r hj
     have hargs:(⟨A.aj σ [.p (some (j,0))]⟩:Array Value) = #[.pointer (some ⟨σ.blk j,0,none⟩)]:=by simp [A.aj,A.den,a1]
     rw [hargs]
     refine (C.fresh (σ.blk j) w (a4 0 _ hp).1 a2 a3).mono ?_
     rintro e v ⟨rfl,rfl⟩
     obtain ⟨v,s1,s2,_⟩:=rM (P:=P) r hst ha
     have s3:(storeCells (σ.ad (j,0)) (A.aj σ [.p (some (j,0))])).run P w=.ok () (w.setCell ⟨σ.blk j,0,none⟩ (.pointer (some ⟨σ.blk j,0,none⟩))):=by
      have hst:(store (⟨σ.blk j,0,none⟩:Addr) (.pointer (some ⟨σ.blk j,0,none⟩))).run P w=.ok () (w.setCell ⟨σ.blk j,0,none⟩ (.pointer (some ⟨σ.blk j,0,none⟩))):=by
       rw [run_store P w _ _ _ rfl,(a4 0 _ hp).1]
       simp [a3]
      have ad0:(⟨σ.blk j,0,none⟩:Addr).add 0=⟨σ.blk j,0,none⟩:=rfl
      simp only [A.aj,A.den,Option.map_some,a1,storeCells,Sem.run_bind,ad0,hst,Result.andThen_ok,Sem.run_pure]
     rw [s3] at s1
     injection s1 with _ s1
     subst s1
     exact ⟨rfl,s2,by simp [A.ok,A.oks]⟩
    ·cases h2
   ·rename_i i hp
    obtain ⟨h3,h4⟩:=aD h2
    have hij:=aY h3
    subst hij
    obtain ⟨rfl,rfl⟩:=ay h4
    refine pF rfl en fun σ w r ha=> ?_
    obtain ⟨a1,a2,a3,a4⟩:=oW r hj
    have hargs:(⟨A.aj σ [.p (some (i,0))]⟩:Array Value) = #[.pointer (some ⟨σ.blk i,0,none⟩)]:=by simp [A.aj,A.den,a1]
    rw [hargs]
    refine (C.used (σ.blk i) w (by have:=(a4 0 _ hp).1; rwa [A.den,Option.map_some,a1] at this)).mono ?_
    rintro e v ⟨rfl,rfl⟩
    exact ⟨rfl,.refl r,by simp [A.ok,A.oks]⟩
   ·cases h2
  ·cases hs
 ·cases hs
theorem Ch:∀ {l:List A} {b:List UInt8},bytesOf l=some b→b.length=l.length∧∀(j:Nat) (x:UInt8),b[j]? = some x→l[j]? = some (.i .u8 (x.toNat:Nat))
 | [],b,h=>by obtain rfl:=some_inj h; exact ⟨rfl,fun j x hx=>by simp at hx⟩
 | a::l,b,h=>by
  unfold bytesOf at h
  split at h
  ·rename_i e; cases e
  ·rename_i n l' e
   injection e with e1 e2
   subst e1 e2
   obtain ⟨h1,h2⟩:=aD h
   split at h2
   ·rename_i r hr
    obtain rfl:=some_inj h2
    obtain ⟨i1,i2⟩:=Ch hr
    refine ⟨by simp [i1],fun j x hx=> ?_⟩
    cases j with
    | zero =>
     simp at hx
     subst hx
     have:=jw h1
     simp [UInt8.toNat_ofNat',Nat.mod_eq_of_lt this]
    | succ j=>simpa using i2 j x (by simpa using hx)
   ·cases h2
  ·cases h
theorem told_string (L:Lays.n169 P ρ) (X:Builder.Extra P ρ) {args:List A} {h k:H} {a:A} (hs:Dw (ρ.t 72) (ρ.t 5) args h=some (a,k)):Says P (.call (ρ.f 169) args h) (.val a k):=by
 have en:Enters P (ρ.f 169):=⟨_,L.f169,rfl,rfl⟩
 unfold Dw at hs
 split at hs
 ·rename_i j
  split at hs
  ·rename_i e tr hj
   obtain ⟨h1,h2⟩:=aD hs
   have he:=aY h1
   subst he
   split at h2
   ·rename_i hp
    obtain ⟨rfl,rfl⟩:=ay h2
    refine pF rfl en fun σ w r ha=> ?_
    obtain ⟨a1,a2,a3,a4⟩:=oW r hj
    have hargs:(⟨A.aj σ [.p (some (j,0))]⟩:Array Value) = #[.pointer (some ⟨σ.blk j,0,none⟩)]:=by simp [A.aj,A.den,a1]
    rw [hargs]
    refine (Oc L X w (a4 1 _ hp).1).mono ?_
    rintro e v ⟨rfl,rfl⟩
    exact ⟨rfl,Goes.drew r _,by simp [A.ok]⟩
   ·rename_i i o n lo c hp
    split at h2
    ·rename_i e2 tr2 E z hi
     obtain ⟨h3,h4⟩:=aD h2
     rw [Bool.and_eq_true,Bool.and_eq_true,Bool.and_eq_true] at h3
     obtain ⟨h5,h6,h7,h8⟩:=h3
     have he2:=aY h5
     subst he2
     have h6:=jw h6
     have h7:=fK h7
     have h8:=fK h8
     split at h4
     ·rename_i l hl
      split at h4
      ·rename_i b hb
       obtain ⟨rfl,rfl⟩:=ay h4
       obtain ⟨b1,b2⟩:=Ch hb
       have hrd:rd tr2 o ((n+1)*1)=some l:=by
        unfold cellsOf at hl
        have hl':cond (Nat.beq ((n+1)*1) 0) (some []) (match h.t.get i with | some (.cells _ tr _ _ _)=>rd tr o ((n+1)*1) | _=>none)=some l:=hl
        have hz:Nat.beq ((n+1)*1) 0=false:=by
         cases hq:Nat.beq ((n+1)*1) 0 with
         | false=>rfl
         | true=>have:=aY hq; omega
        rw [hz,cond_false,hi] at hl'
        exact hl'
       obtain ⟨r1,r2⟩:=Bz hrd
       have hbl:b.length=n+1:=by omega
       refine pF rfl en fun σ w r ha=> ?_
       obtain ⟨a1,a2,a3,a4⟩:=oW r hj
       have hargs:(⟨A.aj σ [.p (some (j,0))]⟩:Array Value) = #[.pointer (some ⟨σ.blk j,0,none⟩)]:=by simp [A.aj,A.den,a1]
       rw [hargs]
       have bi:=r.at_ i _ hi
       have hcell:∀j x,b[j]? = some x→w.cell? ((⟨σ.blk i,σ.off i+o,none⟩:Addr).add j)=some (.int .u8 x.toNat):=fun j x hx=>by
        have:=(tN bi (r2 j _ (b2 j x hx))).1
        show w.cell? ((σ.ad (i,o)).add j)=_
        rw [kV]
        exact this
       obtain ⟨cs,flo,fhi,c1,c2,c3,c4,c5,c6⟩:=bi
       have hb0:b≠[]:=fun e=>by rw [e] at hbl; cases hbl
       refine (QO L X (cells:=cs.size) (cap:=lo+σ.ex c) (g:=σ.blk i) (off:=σ.off i+o) b w (by have:=(a4 1 _ hp).1; rw [hbl]; exact this) (by omega) hb0 (by simp [World.shape?,c1]) (by omega) (by omega) hcell).mono ?_
       rintro e v ⟨rfl,rfl⟩
       have hne:b.length≠0:=by omega
       refine ⟨rfl,Goes.turn r hi rfl (fun y hy=> ?_) ?_ ?_ ?_ ?_ _ ⟨cs,(if flo == fhi then (σ.off i+o,σ.off i+o+b.length) else (min flo (σ.off i+o),max fhi (σ.off i+o+b.length))).1,(if flo == fhi then (σ.off i+o,σ.off i+o+b.length) else (min flo (σ.off i+o),max fhi (σ.off i+o+b.length))).2,?_,c2,c3,c4,(fun hx=>by cases hx),(fun _ hx=>by cases hx)⟩,by simp [A.ok]⟩
       ·simp only [World.freeze,if_neg hne,World.drew]
        rw [Array.getElem?_modify,if_neg (Ne.symm hy)]
       ·simp only [World.freeze,if_neg hne,World.drew,Array.size_modify]
       ·simp only [World.freeze,if_neg hne]; rfl
       ·simp only [World.freeze,if_neg hne]; rfl
       ·simp only [World.freeze,if_neg hne]; rfl
       ·simp only [World.freeze,if_neg hne,World.drew]
        rw [Array.getElem?_modify,if_pos rfl,c1]
        rfl
      ·cases h4
     ·cases h4
    ·cases h2
   ·cases h2
  ·cases hs
 ·cases hs
theorem LH {n:Nat} (hn:n<256):∀(l:List UInt8) (k:Nat),Dv l n k=if Lib.indexByte l (UInt8.ofNat n) = -1 then -1 else Lib.indexByte l (UInt8.ofNat n)+k
 | [],k=>by simp [Dv,Lib.indexByte]
 | b::l,k=>by
  have ih:=LH hn l (k+1)
  have ge:=Lib.indexByte_ge l (UInt8.ofNat n)
  have hb:Nat.beq b.toNat n=(b == UInt8.ofNat n):=by
   rw [Bool.eq_iff_iff,beq_iff_eq]
   constructor
   ·intro h
    have:=aY h
    rw [←this]; simp
   ·rintro rfl
    simp [UInt8.toNat_ofNat',Nat.mod_eq_of_lt hn,Nat.beq_refl]
  by_cases hx:(b == UInt8.ofNat n)=true
  ·simp only [Dv,Lib.indexByte,hb,hx,cond_true,if_true]
   simp
  ·have hx':(b == UInt8.ofNat n)=false:=by simpa using hx
   simp only [Dv,Lib.indexByte,hb,hx',cond_false,Bool.false_eq_true,if_false,ih,beq_iff_eq]
   split
   ·simp
   ·rw [if_neg (by omega)]; push_cast; omega
theorem Oe (L:Lays.n137 P ρ) {args:List A} {h k:H} {a:A} (hs:Jh args h=some (a,k)):Says P (.call (ρ.f 137) args h) (.val a k):=by
 have en:Enters P (ρ.f 137):=⟨_,L.f137,rfl,rfl⟩
 unfold Jh at hs
 split at hs
 ·rename_i l n
  obtain ⟨h1,h2⟩:=aD hs
  obtain ⟨rfl,rfl⟩:=ay h2
  refine pF rfl en fun σ w r ha=> ?_
  have hargs:(⟨A.aj σ [.s l,.i .u8 (.ofNat n)]⟩:Array Value) = #[.string ⟨⟨l⟩⟩,.int .u8 (n:Int)]:=by simp [A.aj,A.den]
  rw [hargs]
  refine (Any.strings_IndexByte L ⟨⟨l⟩⟩ (n:Int) w).mono ?_
  rintro e v ⟨rfl,rfl⟩
  refine ⟨?_,.refl r,by simp [A.ok]⟩
  have e1:((n:Int).toNat.toUInt8)=UInt8.ofNat n:=rfl
  simp only [A.den,e1,LH (jw h1)]
  split
  ·rename_i h; rw [h]
  ·simp
 ·cases hs
theorem EK:∀ {l:List A} {tr:Tr A} {k:Nat},holds l tr k=true→∀j a,l[j]? = some a→tr.get (k+j)=some a
 | [],_,_,_,j,a,h=>by simp at h
 | x::l,tr,k,h,j,a,ha=>by
  unfold holds at h
  split at h
  ·rename_i y hy
   rw [Bool.and_eq_true] at h
   cases j with
   | zero =>
    simp at ha
    subst ha
    rw [Nat.add_zero,hy,Jd _ _ h.1]
   | succ j =>
    have:=EK h.2 j a (by simpa using ha)
    rw [←this]; congr 1; omega
  ·cases h
def Ints (l:List A):Prop:=∀a∈l,∃k n,a=.i k n
def kZ (P:Program) (f g:Nat) (l:List A):Prop:=Enters P f∧∀(w:World) (cs:Array Value) (ty:TypeId) (fr:Nat×Nat),w.heap[g]? = some (.cells cs ty fr)→l.length≤cs.size→(∀(k:Nat) (a:A),l[k]? = some a→cs[k]? = some (a.den (first P.globals.size))) →
 Calls P f #[] w fun e v=>e=.returned (.bool true)∧Below w.heap.size w v
theorem QS {f g:Nat} {l:List A} (hl:Ints l) (hg:g<P.globals.size) (T:kZ P f g l) {args:List A} {h k:H} {a:A} (hs:NZ g l args h=some (a,k)):Says P (.call f args h) (.val a k):=by
 unfold NZ at hs
 split at hs
 ·split at hs
  ·rename_i e tr E c wr hj
   obtain ⟨h1,h2⟩:=aD hs
   obtain ⟨rfl,rfl⟩:=ay h2
   refine pF rfl T.1 fun σ w r ha=> ?_
   obtain ⟨cs,lo,hi,b1,b2,b3,_⟩:=r.at_ g _ hj
   obtain ⟨_,g2,g3⟩:=r.g g hg
   rw [g2] at b1
   have hc:∀(k:Nat) (a:A),l[k]? = some a→cs[k]? = some (a.den (first P.globals.size)):=fun k a hka=>by
    have h3:=EK h1 k a hka
    rw [Nat.zero_add] at h3
    have h4:=(b3 k a h3).1
    rw [g3,Nat.zero_add] at h4
    obtain ⟨_,_,rfl⟩:=hl a (List.mem_of_getElem? hka)
    exact h4
   have hsz:l.length≤cs.size:=by
    rcases Nat.lt_or_ge cs.size l.length with h5 | h5
    ·have h6:=hc cs.size l[cs.size] (by simp [h5])
     rw [Array.getElem?_eq_none (Nat.le_refl _)] at h6
     cases h6
    ·exact h5
   refine (T.2 w cs e (lo,hi) b1 hsz hc).mono ?_
   rintro e v ⟨rfl,hb⟩
   have keep:∀j b,h.t.get j=some b→kE σ v j b:=fun j b hj=>(r.at_ j b hj).keep (r.lt j b hj) (.refl _) (hb.block _ (r.at_ j b hj).inside)
   exact ⟨rfl,⟨⟨.refl _,fun _ h=>.inl h,hb.size,hb.os,hb.tape,hb.output,fun i hi _=>hb.block i hi,fun j x hj=>.inr ⟨j,x,hj,fun h=>h,rfl⟩⟩,keep,r.lt,r.inj,r.g⟩,by simp [A.ok]⟩
  ·cases hs
 ·cases hs
theorem VQ {ρ2 ρ3:Ren} {bt u8 cc st ib:Nat} (C:Checks P cc bt) (L2:Lays.n169 P ρ2) (X2:Builder.Extra P ρ2) (L3:Lays.n137 P ρ3) (e2:ρ2.t 72=bt) (e3:ρ2.t 5=u8) (e5:ρ2.f 169=st) (e6:ρ3.f 137=ib) {bg:Option Nat} {g:Nat} {l:List A} (hl:Ints l) (hg:g<P.globals.size) (T:∀f,bg=some f→kZ P f g l) :
  Told P (xs bt u8 cc st ib bg g l):=by
 intro f x args h a k hx hs
 subst e2 e3 e5 e6
 unfold xs at hx
 cases h1:Nat.beq f cc with
 | true =>
  rw [h1] at hx
  obtain rfl:=some_inj hx
  rw [aY h1]
  exact Od C hs
 | false =>
  rw [h1,cond_false] at hx
  cases h2:Nat.beq f (ρ2.f 169) with
  | true =>
   rw [h2] at hx
   obtain rfl:=some_inj hx
   rw [aY h2]
   exact told_string L2 X2 hs
  | false =>
   rw [h2,cond_false] at hx
   cases h3:Nat.beq f (ρ3.f 137) with
   | true =>
    rw [h3] at hx
    obtain rfl:=some_inj hx
    rw [aY h3]
    exact Oe L3 hs
   | false =>
    rw [h3,cond_false] at hx
    cases h4:XZ bg f with
    | true =>
     rw [h4] at hx
     obtain rfl:=some_inj hx
     cases bg with
     | none=>cases h4
     | some b =>
      have:=aY (show Nat.beq f b=true from h4)
      subst this
      exact QS hl hg (T f rfl) hs
    | false=>rw [h4] at hx; cases hx
theorem layer (hm:P.follows .mixedOrders=true) {bt u8 cc st ib:Nat} {bg:Option Nat} {f n g:Nat} {l:List A} (hl:Ints l) (hg:g<P.globals.size) (hX:Told P (xs bt u8 cc st ib bg g l)) (en:Enters P f) {G:Nat} (hG:P.globals.size=G)
  (hr:∀ty,runs (ah P) (xs bt u8 cc st ib bg g l) n f (start g ty l G)=true):kZ P f g l :=
 ⟨en,fun w cs ty fr hb hs hc=>Ob hm hX (fun ty=>by rw [hG]; exact hr ty) hg hb hs fun k a ha=>⟨hc k a ha,by obtain ⟨_,_,rfl⟩:=hl a (List.mem_of_getElem? ha); simp [A.ok]⟩⟩
end
end Go.Proofs.YteemnmalikomgaaGreatDoor.Ev
namespace Go.Proofs.YteemnmalikomgaaGreatDoor.Ev
open Go.ChangeShapes Go.WideShapes Go.ChangeAt Go.RowKit Go.Proofs
def nL:List (Int×Int×Int)→List A
 | []=>[]
 | x::l=>.i .i32 x.1::.i .i32 x.2.1::.i .i64 x.2.2::nL l
def table:List A:=nL aU
theorem EM:∀l,(nL l).length=3*l.length
 | []=>rfl
 | x::l=>by simp only [nL,List.length_cons,EM l]; omega
theorem yg:∀ {l:List (Int×Int×Int)} {k:Nat} {a:A},(nL l)[k]? = some a→∃i x,l[i]? = some x∧(k=i*3∧a=.i .i32 x.1∨k=i*3+1∧a=.i .i32 x.2.1∨k=i*3+2∧a=.i .i64 x.2.2)
 | [],k,a,h=>by simp [nL] at h
 | x::l,k,a,h=>by
  match k,h with
  | 0,h=>simp [nL] at h; exact ⟨0,x,rfl,.inl ⟨rfl,h.symm⟩⟩
  | 1,h=>simp [nL] at h; exact ⟨0,x,rfl,.inr (.inl ⟨rfl,h.symm⟩)⟩
  | 2,h=>simp [nL] at h; exact ⟨0,x,rfl,.inr (.inr ⟨rfl,h.symm⟩)⟩
  | k+3,h =>
   obtain ⟨i,y,h1,h2⟩:=yg (l:=l) (k:=k) (a:=a) (by simpa [nL] using h)
   exact ⟨i+1,y,by simpa using h1,h2.imp (fun h=>⟨by omega,h.2⟩) (Or.imp (fun h=>⟨by omega,h.2⟩) (fun h=>⟨by omega,h.2⟩))⟩
theorem ints:Ints table:=fun a ha=>by
 obtain ⟨k,hk⟩:=List.mem_iff_getElem?.1 ha
 obtain ⟨i,x,_,h | h | h⟩:=yg hk
 ·exact ⟨_,_,h.2⟩
 ·exact ⟨_,_,h.2⟩
 ·exact ⟨_,_,h.2⟩
theorem UY:(Tryz.prog.info? 227).map (·.size)=some 2:=by kernel_rfl
theorem XO:liesAt Tryz.prog Tryz.prog.depth 227 (2 / Tryz.prog.cellsOf 227) 0 227 1=true:=by kernel_rfl
theorem Og (b:Nat) (w:World) (c0:w.cell? ⟨b,0,none⟩=some (.pointer (some ⟨b,0,none⟩))) :
  Calls Tryz.prog 208 #[.pointer (some ⟨b,0,none⟩)] w fun e w'=>e=.returned (.tuple #[])∧w'=w:=by
 obtain ⟨j,hj,_⟩:=Option.map_eq_some_iff.1 UY
 go_enter Tryz.func208,Tryz.ntmps208
 go_wp2
 rw [Lib.run_neq_ptr_same w _ Tryz.underlying225 hj]
 go_wp2
 go_end0
 exact ⟨rfl,rfl⟩
theorem Kj (b:Nat) (w:World) (c0:w.cell? ⟨b,0,none⟩=some (.pointer none)) (hsh:w.shape? b=some (227,2)) (f0:w.frozen? ⟨b,0,none⟩=false) :
  Calls Tryz.prog 208 #[.pointer (some ⟨b,0,none⟩)] w fun e w'=>e=.returned (.tuple #[])∧w'=w.setCell ⟨b,0,none⟩ (.pointer (some ⟨b,0,none⟩)):=by
 obtain ⟨j,hj,hjs⟩:=Option.map_eq_some_iff.1 UY
 go_enter Tryz.func208,Tryz.ntmps208
 go_wp2
 rw [Lib.run_to_unsafe w ⟨b,0,none⟩ Tryz.underlying225 Tryz.underlying313 hj (by rw [hjs]; decide) hsh (Nat.zero_lt_succ 1)]
 simp only [Result.andThen]
 rw [Oper.upon_value]
 go_wp2
 rw [run_callFunc_extern Tryz.func260 (by kernel_rfl) (by kernel_rfl) (by kernel_rfl) (e:=Extern.AbiNoEscape.same) (by kernel_rfl)]
 rw [Lib.run_noEscape]
 simp only [Result.andThen]
 rw [Oper.upon_value]
 go_wp2
 rw [Lib.run_from_unsafe w ⟨b,0,none⟩ Tryz.underlying313 Tryz.underlying225 hj hsh XO]
 simp only [Result.andThen]
 rw [Oper.upon_value]
 go_wp2
 go_end0
 exact ⟨rfl,rfl⟩
theorem checks:Checks Tryz.prog 208 227 :=
 ⟨⟨_,Tryz.func208,by kernel_rfl,by kernel_rfl⟩,Kj,Og⟩
theorem told {bg:Option Nat} (T:∀f,bg=some f→kZ Tryz.prog f 0 table):Told Tryz.prog (xs 227 5 208 170 114 bg 0 table) :=
 VQ checks Tryz.lays169 Tryz.Builder_Extra_169 Tryz.lays137 rfl rfl rfl rfl ints (by decide +kernel) T
theorem mixed:Tryz.prog.follows .mixedOrders=true:=by kernel_rfl
theorem kZ.at {f:Nat} (T:kZ Tryz.prog f 0 table) (w:World) (hs:dw w):Calls Tryz.prog f #[] w fun e v=>e=.returned (.bool true)∧Below w.heap.size w v:=by
 obtain ⟨cs,ty,fr,hb⟩:∃cs ty fr,w.heap[0]? = some (.cells cs ty fr):=by
  have h:=hs.first 0 (by omega)
  unfold World.cell? at h
  split at h
  ·rename_i cs ty fr hb; exact ⟨cs,ty,fr,hb⟩
  ·cases h
 have cell:∀k v,w.cell? ⟨0,k,none⟩=some v→cs[k]? = some v:=fun k v h=>by
  simp only [World.cell?,hb] at h
  simpa using h
 have hc:∀(k:Nat) (a:A),table[k]? = some a→cs[k]? = some (a.den (first Tryz.prog.globals.size)):=fun k a h=>by
  obtain ⟨i,x,h1,h2⟩:=yg h
  have hi:i<21:=(List.getElem?_eq_some_iff.1 h1).1
  have hx:aU.getD i (0,0,0)=x:=by rw [List.getD_eq_getElem?_getD,h1]; rfl
  rcases h2 with ⟨rfl,rfl⟩ | ⟨rfl,rfl⟩ | ⟨rfl,rfl⟩
  ·rw [cell _ _ (hs.first i hi)]; simp only [bH,hx,A.den]
  ·rw [cell _ _ (hs.last i hi)]; simp only [cK,hx,A.den]
  ·rw [cell _ _ (hs.wide i hi)]; simp only [yB,hx,A.den]
 refine T.2 w cs ty fr hb ?_ hc
 have hl:table.length=63:=EM aU
 have h62:=hc 62 table[62] (by simp [hl])
 have:=(Array.getElem?_eq_some_iff.1 h62).1
 omega
theorem Xl:kZ Tryz.prog 43 0 table :=
 layer (bg:=none) (n:=100000) mixed ints (by decide +kernel) (told (fun f h=>by cases h)) ⟨_,Tryz.func43,by kernel_rfl,by kernel_rfl⟩ rfl (fun _=>by kernel_rfl)
theorem Xm:kZ Tryz.prog 251 0 table :=
 layer (bg:=some 43) (n:=100000) mixed ints (by decide +kernel) (told (fun f h=>by obtain rfl:=some_inj h; exact Xl)) ⟨_,Tryz.func251,by kernel_rfl,by kernel_rfl⟩ rfl (fun _=>by kernel_rfl)
theorem Xn:kZ Tryz.prog 151 0 table :=
 layer (bg:=some 251) (n:=100000) mixed ints (by decide +kernel) (told (fun f h=>by obtain rfl:=some_inj h; exact Xm)) ⟨_,Tryz.func151,by kernel_rfl,by kernel_rfl⟩ rfl (fun _=>by kernel_rfl)
end Go.Proofs.YteemnmalikomgaaGreatDoor.Ev
namespace Go.Proofs.YteemnmalikomgaaGreatDoor.Ev
open Go.ChangeShapes Go.WideShapes Go.ChangeAt Go.RowKit
theorem Ul:kZ Tryz.prog 61 0 table :=
 layer (bg:=some 151) (n:=100000) mixed ints (by decide +kernel) (told (fun f h=>by obtain rfl:=some_inj h; exact Xn)) ⟨_,Tryz.func61,by kernel_rfl,by kernel_rfl⟩ rfl (fun _=>by kernel_rfl)
end Go.Proofs.YteemnmalikomgaaGreatDoor.Ev
namespace Go.Proofs.YteemnmalikomgaaGreatDoor.Ev
open Go.ChangeShapes Go.WideShapes Go.ChangeAt Go.RowKit
theorem VT:kZ Tryz.prog 21 0 table :=
 layer (bg:=some 61) (n:=100000) mixed ints (by decide +kernel) (told (fun f h=>by obtain rfl:=some_inj h; exact Ul)) ⟨_,Tryz.func21,by kernel_rfl,by kernel_rfl⟩ rfl (fun _=>by kernel_rfl)
end Go.Proofs.YteemnmalikomgaaGreatDoor.Ev
