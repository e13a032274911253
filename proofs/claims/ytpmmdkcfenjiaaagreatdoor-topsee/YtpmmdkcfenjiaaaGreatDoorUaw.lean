import Derived.Test.YtpmmdkcfenjiaaaGreatDoorUau
namespace Go.Proofs.YtpmmdkcfenjiaaaGreatDoor
open Value renaming slice->aj
open Option renaming some->bh,none->bj
open Go.RowKit
open Tr (Fo Nd)
def LV(P:Nat->Prop)(xs:List Value)(v:Value)(W:bD):Prop:=∃a c,v=aj a xs.length c/\(0<xs.length->∃g,a=bh ⟨g,0,bj⟩/\P g/\g<W.heap.size/\∀i,i<xs.length->W.cell? ⟨g,i,bj⟩=xs[i]?)
