import Derived.Test.YteemnmalikomgaaGreatDoorQSwRow0
set_option maxRecDepth 100000
set_option maxHeartbeats 800000
namespace Go.Proofs.YteemnmalikomgaaGreatDoor
open Go.ChangeShapes Go.WideShapes Go.ChangeAt Go.RowKit
theorem ug {r a:Int} (h0:0≤a) (h1:a≤255) (hw:eZ r=1):fC r a=[(r,1,a)]:=by simp [fC,Me,h0,h1,hw]
theorem V7 {r a:Int} (h0:0≤a) (h1:a≤255) (hw:eZ r=2):fC r a=[(r,2,a),(0,0,a)]:=by simp [fC,Me,h0,h1,hw]
theorem Xx {r a:Int} (hw:eZ r=0):fC r a=[]:=by simp [fC,hw]
theorem jq {w:World} {base base':Nat} {e:TypeId} {size n:Nat} {v:Value} {xs:List Value} (h:w.ownsRow base e size v n xs) (hb:base'≤base):w.ownsRow base' e size v n xs:=by
 refine ⟨h.1,?_⟩
 rcases h.2 with e | ⟨g,cap,cur,rfl,e2,r⟩
 ·exact .inl e
 ·exact .inr ⟨g,cap,cur,rfl,Nat.le_trans hb e2,r⟩
theorem fO {w:World} {B:Nat} {e:TypeId} {s n:Nat} {v:Value} {xs:List Value} (h:w.ownsRow B e s v n xs):∃A c,v=.slice A n c∧n≤c:=by
 rcases h.2 with ⟨rfl,h0⟩ | ⟨g,cap,cur,rfl,_,_,hc,_⟩
 ·rw [h0]; exact ⟨_,_,rfl,Nat.le_refl _⟩
 ·exact ⟨_,_,rfl,hc⟩
theorem FK (r a:Int) (hr0 : -2147483648≤r) (hr1:r≤2147483647) (h0:0≤a) (h1:a≤255) (w:World) :
  Calls Tryz.prog 38 #[.int .i32 r,.int .i64 a] w fun e w'=>OZ (fC r a) w e w':=by
 have F:=Fg r hr0 hr1 w
 have hwr:=wG r
 have hw:eZ r=0∨eZ r=1∨eZ r=2:=by omega
 clear hwr
 rcases hw with hw | hw | hw
 ·rw [Xx hw]
  rw [hw] at F
  have FH:=Lib.hid F
  clear F hw
  go_enter Tryz.func38,Tryz.ntmps38
  go_wp2_with fail
  refine FH.out.mono ?_
  rintro e w2 ⟨rfl,b2⟩
  have B2:=Lib.hid b2
  clear b2
  go_wp2
  go_ret
  exact ⟨_,rfl,World.ownsRow_nil _ _ _ _,B2.out⟩
 ·rw [ug h0 h1 hw]
  rw [hw] at F
  have FH:=Lib.hid F
  clear F hw
  go_enter Tryz.func38,Tryz.ntmps38
  go_wp2_with fail
  refine FH.out.mono ?_
  rintro e w2 ⟨rfl,b2⟩
  have B2:=Lib.hid b2
  clear b2
  go_wp2
  go_ret
  exact ⟨_,rfl,jq (KI w2 _ 3 1 #[.int .i32 r,.int .i64 1,.int .i64 a] rfl (by omega)) B2.out.size,B2.out.alloc B2.out.size _⟩
 ·rw [V7 h0 h1 hw]
  rw [hw] at F
  have FH:=Lib.hid F
  clear F hw
  go_enter Tryz.func38,Tryz.ntmps38
  go_wp2_with fail
  refine FH.out.mono ?_
  rintro e w2 ⟨rfl,b2⟩
  have B2:=Lib.hid b2
  clear b2
  go_wp2
  go_ret
  exact ⟨_,rfl,jq (KI w2 _ 3 2 #[.int .i32 r,.int .i64 2,.int .i64 a,.int .i32 0,.int .i64 0,.int .i64 a] rfl (by omega)) B2.out.size,B2.out.alloc B2.out.size _⟩
