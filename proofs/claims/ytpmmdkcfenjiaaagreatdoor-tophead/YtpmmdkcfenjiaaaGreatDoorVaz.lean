import Derived.Test.YtpmmdkcfenjiaaaGreatDoorVaw
namespace Go.Proofs.YtpmmdkcfenjiaaaGreatDoor
open Go.RowKit
open Tr (Fo Nd)
def LV (P:Nat->Prop)(xs:List Value)(v:Value)(W:bD):Prop:= ∃a c,v= .slice a xs.length c/\(0<xs.length-> ∃g,a=some ⟨g,0,none⟩/\P g/\g<W.heap.size/\ ∀i,i<xs.length->W.cell? ⟨g,i,none⟩=xs[i]?)
