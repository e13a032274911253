import Derived.Test.YtpmmdkcfenjiaaaGreatDoorGas
namespace Go.Proofs.YtpmmdkcfenjiaaaGreatDoor
open Tryz (prog)
open Go.RowKit
open Kn (Pr Kp St us KB KJ VI EI KH)
structure KW (w:bD)(kb N:Nat)(d:Nat->Nat)(s:St)(W:bD):Prop where
 cZ:Below w.heap.size w W
 kk:bP W w.heap.size s
 kh:KH N d s.k
 a0:s.A 0=kb
section
variable {w W W':bD}{kb N:Nat}{d:Nat->Nat}{s:St}
theorem KW.below(h:KW w kb N d s W)(b:Below W.heap.size W W'):KW w kb N d s W':=⟨h.cZ.trans (b.mono h.cZ.size),h.kk.below b,h.kh,h.a0⟩
theorem KW.step(h:KW w kb N d s W){s':St}{N':Nat}{d':Nat->Nat}(k:bP W' w.heap.size s')(f:KF s W s' W')(kh:KH N' d' s'.k):KW w kb N' d' s' W':=⟨f.behind h.kk h.cZ (aL _) h.cZ.size,k,kh,f.a0.trans h.a0⟩
end
theorem Rl(a:Option Addr)(b o n c m:Nat)(ax:Nat->fU)(w:bD)(hm:m<=1000)(ha:0<n->a=some ⟨b,o,none⟩)(h:∀i,i<n->∀j,j<8->w.cell? ⟨b,o+i*8+j,none⟩=some ((ax i).cell j)):Calls prog 10 #[.slice a n c, .int .i64 (m:Int)] w λe w'=>∃v:Bool,e= .returned (.bool v)/\(v=true->n<=m/\∀i,i<n->(ax i).s.size<2^59)/\w'=w:=by
 by_cases l:n<=m
 .refine(Kq a b o n c m ax w bB bB ha h).mono ?_;rintro e w' ⟨v,rfl,lt,hw⟩;refine⟨v,rfl,λe=>⟨l,λi hi=>?_⟩,hw⟩;subst e;rcases lt with q|q
  .cases q
  .have:=(q.2 i hi).1;omega
 .refine(Rm a n c m w bB).mono ?_;rintro e w' ⟨rfl,hw⟩;exact⟨false,rfl,nofun,hw⟩
theorem Ng{a:Option Addr}{len:Nat}{w:bD}(h:vQ w a len){P:Prop}(hP:∀(b o:Nat) (ax:Nat->fU),(0<len->a=some ⟨b,o,none⟩)->(∀i,i<len->∀j,j<8->w.cell? ⟨b,o+i*8+j,none⟩=some ((ax i).cell j))->P):P:=by
 by_cases h0:len=0
 .subst h0;exact hP 0 0 (λ_=>⟨⟨#[]⟩,0,0,0,0,false,⟨#[]⟩,⟨#[]⟩⟩) (λc=>aZ c bB) (λi hi=>aZ hi bB)
 .obtain⟨b,o,ax,ha,hc⟩:=h.2 bB;exact hP b o ax (λ_=>ha) hc
section
variable {w W W':bD}{kb N:Nat}{d:Nat->Nat}{s:St}
theorem KW.act(h:KW w kb N d s W)(hN:N<880)(x:fU)(hs:x.s.size<2^59):Calls prog 12 #[.pointer (some ⟨kb,0,none⟩), .agg #[.string x.kind, .int .i64 x.a, .int .i64 x.b, .int .i64 x.c, .int .u64 x.key, .bool x.on, .string x.s, .string x.t]] W λe w'=>∃(n m E:Int) (t:bU) (s':St) (d':Nat->Nat),e= .returned (.agg #[.int .i64 n, .int .i64 m, .int .i64 E, .string t])/\(Kn.td N s.k x n E s'.k\/Kn.NK x/\Kn.rV s.k x s'.k)/\KF s W s' w'/\KW w kb (N+2) d' s' w':=by
 have:=QJ w.heap.size N d s W x h.kk h.kh hN h.cZ.size hs;rw[h.a0]at this;refine this.mono ?_;rintro e w' ⟨n,m,E,t,s',rfl,r,k,f⟩;obtain⟨d',q⟩:∃d',KH (N+2) d' s'.k:=r.elim h.kh.ac (λr=>h.kh.di r.2);exact⟨n,m,E,t,s',d',rfl,r,f,h.step k f q⟩
