import Derived.Test.YthhbpebihgjpjaaGreatDoorZ01
import Derived.Test.YthhbpebihgjpjaaGreatDoorChecked
import Derived.WalkLawsBesides
namespace Go.Proofs.YthhbpebihgjpjaaGreatDoor
set_option maxRecDepth 100000
set_option maxHeartbeats 20000000
set_option linter.all false
section
open Go.RowKit
theorem aja(x:Nat)(w:aj)(hx:x<4294967296):
  Calls Tryz.prog 278 #[.int .u32 x,.int .i64 2] w fun e w'=>e=.returned (.int .u32 (Sha.rQ x 2:Nat))/\w'=w:=by
 have hb:bits BinOp.and IntKind.u64 (IntKind.u64.wrap (-2)) 31=30:=by decide
 have ht:=Sha.rT x 2 hx
 go_enter Tryz.func278,Tryz.ntmps278
 go_wp2
 go_ret;refine⟨?_,rfl⟩;simp only[<-ht];rfl
theorem ajb(x:Nat)(w:aj)(hx:x<4294967296):
  Calls Tryz.prog 278 #[.int .u32 x,.int .i64 6] w fun e w'=>e=.returned (.int .u32 (Sha.rQ x 6:Nat))/\w'=w:=by
 have hb:bits BinOp.and IntKind.u64 (IntKind.u64.wrap (-6)) 31=26:=by decide
 have ht:=Sha.rT x 6 hx
 go_enter Tryz.func278,Tryz.ntmps278
 go_wp2
 go_ret;refine⟨?_,rfl⟩;simp only[<-ht];rfl
theorem ajc(x:Nat)(w:aj)(hx:x<4294967296):
  Calls Tryz.prog 278 #[.int .u32 x,.int .i64 7] w fun e w'=>e=.returned (.int .u32 (Sha.rQ x 7:Nat))/\w'=w:=by
 have hb:bits BinOp.and IntKind.u64 (IntKind.u64.wrap (-7)) 31=25:=by decide
 have ht:=Sha.rT x 7 hx
 go_enter Tryz.func278,Tryz.ntmps278
 go_wp2
 go_ret;refine⟨?_,rfl⟩;simp only[<-ht];rfl
theorem agq(x:Nat)(w:aj)(hx:x<4294967296):
  Calls Tryz.prog 278 #[.int .u32 x,.int .i64 11] w fun e w'=>e=.returned (.int .u32 (Sha.rQ x 11:Nat))/\w'=w:=by
 have hb:bits BinOp.and IntKind.u64 (IntKind.u64.wrap (-11)) 31=21:=by decide
 have ht:=Sha.rT x 11 hx
 go_enter Tryz.func278,Tryz.ntmps278
 go_wp2
 go_ret;refine⟨?_,rfl⟩;simp only[<-ht];rfl
theorem agr(x:Nat)(w:aj)(hx:x<4294967296):
  Calls Tryz.prog 278 #[.int .u32 x,.int .i64 13] w fun e w'=>e=.returned (.int .u32 (Sha.rQ x 13:Nat))/\w'=w:=by
 have hb:bits BinOp.and IntKind.u64 (IntKind.u64.wrap (-13)) 31=19:=by decide
 have ht:=Sha.rT x 13 hx
 go_enter Tryz.func278,Tryz.ntmps278
 go_wp2
 go_ret;refine⟨?_,rfl⟩;simp only[<-ht];rfl
theorem ags(x:Nat)(w:aj)(hx:x<4294967296):
  Calls Tryz.prog 278 #[.int .u32 x,.int .i64 17] w fun e w'=>e=.returned (.int .u32 (Sha.rQ x 17:Nat))/\w'=w:=by
 have hb:bits BinOp.and IntKind.u64 (IntKind.u64.wrap (-17)) 31=15:=by decide
 have ht:=Sha.rT x 17 hx
 go_enter Tryz.func278,Tryz.ntmps278
 go_wp2
 go_ret;refine⟨?_,rfl⟩;simp only[<-ht];rfl
theorem agt(x:Nat)(w:aj)(hx:x<4294967296):
  Calls Tryz.prog 278 #[.int .u32 x,.int .i64 18] w fun e w'=>e=.returned (.int .u32 (Sha.rQ x 18:Nat))/\w'=w:=by
 have hb:bits BinOp.and IntKind.u64 (IntKind.u64.wrap (-18)) 31=14:=by decide
 have ht:=Sha.rT x 18 hx
 go_enter Tryz.func278,Tryz.ntmps278
 go_wp2
 go_ret;refine⟨?_,rfl⟩;simp only[<-ht];rfl
theorem agu(x:Nat)(w:aj)(hx:x<4294967296):
  Calls Tryz.prog 278 #[.int .u32 x,.int .i64 19] w fun e w'=>e=.returned (.int .u32 (Sha.rQ x 19:Nat))/\w'=w:=by
 have hb:bits BinOp.and IntKind.u64 (IntKind.u64.wrap (-19)) 31=13:=by decide
 have ht:=Sha.rT x 19 hx
 go_enter Tryz.func278,Tryz.ntmps278
 go_wp2
 go_ret;refine⟨?_,rfl⟩;simp only[<-ht];rfl
theorem agv(x:Nat)(w:aj)(hx:x<4294967296):
  Calls Tryz.prog 278 #[.int .u32 x,.int .i64 22] w fun e w'=>e=.returned (.int .u32 (Sha.rQ x 22:Nat))/\w'=w:=by
 have hb:bits BinOp.and IntKind.u64 (IntKind.u64.wrap (-22)) 31=10:=by decide
 have ht:=Sha.rT x 22 hx
 go_enter Tryz.func278,Tryz.ntmps278
 go_wp2
 go_ret;refine⟨?_,rfl⟩;simp only[<-ht];rfl
theorem agw(x:Nat)(w:aj)(hx:x<4294967296):
  Calls Tryz.prog 278 #[.int .u32 x,.int .i64 25] w fun e w'=>e=.returned (.int .u32 (Sha.rQ x 25:Nat))/\w'=w:=by
 have hb:bits BinOp.and IntKind.u64 (IntKind.u64.wrap (-25)) 31=7:=by decide
 have ht:=Sha.rT x 25 hx
 go_enter Tryz.func278,Tryz.ntmps278
 go_wp2
 go_ret;refine⟨?_,rfl⟩;simp only[<-ht];rfl
