import Derived.Test.YthhbpebihgjpjaaGreatDoorZ14
import Derived.Deep.RegionLaw
namespace Go.Proofs.YthhbpebihgjpjaaGreatDoor
set_option maxRecDepth 1000000
set_option maxHeartbeats 20000000
set_option linter.all false
section
open Go.RowKit
def Vf(d:bS)(o:lu):Int×bS:=if (nJ d).down then (4,nJ d) else (0,{nJ d with seen:=fe (nJ d).seen o,wait:=(nJ d).wait++[o]})
theorem sP(d:bS):(nJ d).seen=d.seen:=by unfold nJ;split<;>rfl
theorem kK(d:bS):(nJ d).wait=d.wait:=by unfold nJ;split<;>rfl
def eu(d:bS)(name data:ah):Int×bS:=
 if eD name=false then (1,d)
 else if Oy d ((data.size:Int)-((fO d.seen name).size:Int)) then (3,d)
 else Vf d ⟨1,name,data⟩
def kM(d:bS)(name data:ah):Int×bS:=
 if eD name=false then (1,d) else if Oy d (data.size:Int) then (3,d) else Vf d ⟨2,name,data⟩
def sV(d:bS)(name:ah):Int×bS:=
 if eD name=false then (1,d) else if iQ d.seen name=-1 then (2,d) else Vf d ⟨4,name,⟨#[]⟩⟩
def jW(d:bS)(frm aqB:ah):Int×bS:=
 if eD frm=false\/eD aqB=false then (1,d) else if iQ d.seen frm=-1 then (2,d) else Vf d ⟨3,frm,aqB⟩
def uH(d:bS)(name:ah):ah×Int:=if iQ d.seen name=-1 then (⟨#[]⟩,2) else (fO d.seen name,0)
