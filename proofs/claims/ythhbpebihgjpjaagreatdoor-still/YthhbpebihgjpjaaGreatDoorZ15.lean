import Derived.Test.YthhbpebihgjpjaaGreatDoorZ14
import Derived.Deep.RegionLaw
namespace Go.Proofs.YthhbpebihgjpjaaGreatDoor
set_option maxRecDepth 1000000
set_option maxHeartbeats 20000000
set_option linter.all false
section
open Go.RowKit
def Vh(d:bY)(o:lG):Int×bY:=if (nL d).down then (4,nL d) else (0,{nL d with seen:=fC (nL d).seen o,wait:=(nL d).wait++[o]})
theorem sV(d:bY):(nL d).seen=d.seen:=by unfold nL;split<;>rfl
theorem kN(d:bY):(nL d).wait=d.wait:=by unfold nL;split<;>rfl
def eP(d:bY)(name data:ah):Int×bY:=
 if eU name=false then (1,d)
 else if OA d ((data.size:Int)-((fZ d.seen name).size:Int)) then (3,d)
 else Vh d ⟨1,name,data⟩
def kQ(d:bY)(name data:ah):Int×bY:=
 if eU name=false then (1,d) else if OA d (data.size:Int) then (3,d) else Vh d ⟨2,name,data⟩
def tq(d:bY)(name:ah):Int×bY:=
 if eU name=false then (1,d) else if iW d.seen name=-1 then (2,d) else Vh d ⟨4,name,⟨#[]⟩⟩
def kR(d:bY)(frm aqB:ah):Int×bY:=
 if eU frm=false\/eU aqB=false then (1,d) else if iW d.seen frm=-1 then (2,d) else Vh d ⟨3,frm,aqB⟩
def uK(d:bY)(name:ah):ah×Int:=if iW d.seen name=-1 then (⟨#[]⟩,2) else (fZ d.seen name,0)
end
end Go.Proofs.YthhbpebihgjpjaaGreatDoor
