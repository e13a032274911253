import Derived.Test.YtpmmdkcfenjiaaaGreatDoorVbk
set_option linter.unusedVariables false
set_option linter.unusedSimpArgs false
namespace Go.Proofs.YtpmmdkcfenjiaaaGreatDoor
open Go.RowKit
open Kn (Pr Kp St us KB KJ VI EI KH)
structure KW (w:bD)(kb N:Nat)(d:Nat->Nat)(s:St)(W:bD):Prop where
 bF:Below w.heap.size w W
 kk:ak W w.heap.size s
 kh:KH N d s.k
 a0:s.A 0=kb
section
variable {w W W' : bD} {kb N : Nat} {d : Nat -> Nat} {s : St}
theorem KW.below (h:KW w kb N d s W)(b:Below W.heap.size W W'):KW w kb N d s W':=⟨h.bF.trans (b.mono h.bF.size),h.kk.below b,h.kh,h.a0⟩
theorem KW.step (h:KW w kb N d s W){s':St}{N':Nat}{d':Nat->Nat}(k:ak W' w.heap.size s')(f:KF s W s' W')(kh:KH N' d' s'.k):KW w kb N' d' s' W':=⟨f.behind h.kk h.bF (aL _) h.bF.size,k,kh,f.a0.trans h.a0⟩
end
theorem L5 (a:Option Addr)(b o n c m:Nat)(ax:Nat->eQ)(w:bD)(hm:m<=1000)(ha:0<n->a=some ⟨b,o,none⟩)(h: ∀i,i<n-> ∀j,j<8->w.cell? ⟨b,o+i*8+j,none⟩=some ((ax i).cell j)):Calls Tryz.prog 10 #[.slice a n c, .int .i64 (m:Int)] w fun e w'=> ∃v:Bool,e= .returned (.bool v)/\(v=true->n<=m/\ ∀i,i<n->(ax i).s.size<2^59)/\w'=w:=by
 by_cases l:n<=m
 ·refine(G5 a b o n c m ax w (by omega) (by omega) ha h).mono ?_;rintro e w' ⟨v,rfl,lt,hw⟩;refine⟨v,rfl,fun e=>⟨l,fun i hi=>?_⟩,hw⟩;subst e;rcases lt with q|q
  ·cases q
  ·have:=(q.2 i hi).1;omega
 ·refine(MU a n c m w (by omega)).mono ?_;rintro e w' ⟨rfl,hw⟩;exact⟨false,rfl,nofun,hw⟩
theorem Kv {a:Option Addr}{len:Nat}{w:bD}(h:tK w a len){P:Prop}(hP: ∀(b o:Nat) (ax:Nat->eQ),(0<len->a=some ⟨b,o,none⟩)->(∀i,i<len-> ∀j,j<8->w.cell? ⟨b,o+i*8+j,none⟩=some ((ax i).cell j))->P):P:=by
 by_cases h0:len=0
 ·subst h0;exact hP 0 0 (fun _=>⟨⟨#[]⟩,0,0,0,0,false,⟨#[]⟩,⟨#[]⟩⟩) (fun c=>aZ c (by omega)) (fun i hi=>aZ hi (by omega))
 ·obtain⟨b,o,ax,ha,hc⟩:=h.2 (by omega);exact hP b o ax (fun _=>ha) hc
