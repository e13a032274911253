import Derived.Test.YtpmmdkcfenjiaaaGreatDoorVab
namespace Go.Proofs.YtpmmdkcfenjiaaaGreatDoor
open Go.RowKit
theorem lu (b:Nat): ∀(vs:List Value) (o:Nat) (w:bD) (k:Nat),k≠b->(w.setCells b o vs).heap[k]? =w.heap[k]?
 |[],_,_,_,_=>rfl
 |v::r,o,w,k,h=>by
  rw[World.setCells];exact(lu b r (o+1) _ k h).trans (dD _ _ _ _ h)
theorem dR (b:Nat){T:TypeId}: ∀(vs:List Value) (o:Nat) (w:bD) (C:Array Value),w.heap[b]? =some (.cells C T (0,0))-> ∃C',(w.setCells b o vs).heap[b]? =some (.cells C' T (0,0))/\C'.size=C.size
 |[],_,_,C,h=>⟨C,h,rfl⟩
 |v::r,o,w,C,h=>by
  rw[World.setCells];obtain⟨C',h1,h2⟩:=dR b r (o+1) _ _ (bC h o v);exact⟨C',h1,by rw[h2];simp⟩
theorem af.setCells {b:Nat}: ∀(vs:List Value) (o:Nat) {u w:bD},af b u w->af b u (w.setCells b o vs)
 |[],_,_,_,h=>h
 |v::r,o,u,w,h=>by rw[World.setCells];exact af.setCells r (o+1) (h.setCell o v)
