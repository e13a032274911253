import Derived.Test.YtpmmdkcfenjiaaaGreatDoorVaz
import Derived.Test.YtpmmdkcfenjiaaaGreatDoorVay
set_option linter.unusedVariables false
set_option linter.unusedSimpArgs false
set_option maxRecDepth 100000
set_option maxHeartbeats 2000000
namespace Go.Proofs.YtpmmdkcfenjiaaaGreatDoor
open Go.RowKit
open Pp (Pi)
def Pp.fj:Nat->Pi:=fun _=>Pi.no
def Pp.zA:Array Value:=((List.range 120).map fun o=>if o%15<12 then Value.int .u8 0 else Value.int .i64 0).toArray
theorem Pp.wP (o:Nat)(h:o<120):Pp.zA[o]? =some (if o%15<12 then Value.int .u8 0 else Value.int .i64 0):=by simp[Pp.zA,h]
theorem Pp.zeroV (w:bD):(zeroValue 122).run Tryz.prog w= .ok (.agg Pp.zA) w:=by kernel_rfl
section
variable {ops : Array Oper} {rest : List Oper} {x : Oper} {a : Act} {w : bD} {Q : Exit -> Act -> bD -> Prop}
theorem Pp.Hu (hgd:x.guard=none)(ho:x.op= .build 122 #[])(h:wpList Tryz.prog ops Q rest (a.put x.dst (.agg Pp.zA)) w):wpList Tryz.prog ops Q (x::rest) a w:=
 wpList_plain hgd fun _ hK=>by
  unfold Oper.wp execOp;have hz:=Pp.zeroV w;simp only[ho];simp[go_sem,hz];exact hK _ _ h
end
theorem db.zero {w:bD}{b:Nat}{T:TypeId}(h:w.heap[b]? =some (.cells Pp.zA T (0,0))):db w b Pp.fj:=by
 refine⟨⟨_,T,h,by simp[Pp.zA]⟩,fun n hn j v hv=>?_,fun n hn=>?_,fun n hn=>?_,fun n hn=>?_,fun n hn=>aC _⟩
 ·exact aZ (Pp.mZ hv) (by show¬j<0;omega)
 ·rw[au h,Pp.wP _ (by omega),aI (by omega)];rfl
 ·rw[au h,Pp.wP _ (by omega),aI (by omega)];rfl
 ·rw[au h,Pp.wP _ (by omega),aI (by omega)];rfl
theorem Co (w:bD):db (w.alloc (.cells Pp.zA 122)) w.heap.size Pp.fj/\Below w.heap.size w (w.alloc (.cells Pp.zA 122)):=by
 exact⟨db.zero (heap_alloc_new w _),(aQ _ _).alloc (aL _) _⟩
open Fx (Fi)
open Tr (Fo Nd)
def Fx.hit (x:Fi)(k m:Nat):Nat:=if x.refs≠0/\x.kind=k/\x.num=m then 1 else 0
def Fx.cK (T:Nat->Fi)(k m:Nat):Nat->Nat
 |0=>0
 |n+1=>Fx.cK T k m n+Fx.hit (T n) k m
theorem Fx.Gc (T:Nat->Fi)(n:Nat)(x:Fi)(k m:Nat): ∀N,Fx.cK (Fx.put T n x) k m N+(if n<N then Fx.hit (T n) k m else 0)=Fx.cK T k m N+(if n<N then Fx.hit x k m else 0)
 |0=>by rw[aI (Nat.not_lt_zero n),aI (Nat.not_lt_zero n)];rfl
 |N+1=>by
  have ih:=Fx.Gc T n x k m N;show Fx.cK (Fx.put T n x) k m N+Fx.hit (Fx.put T n x N) k m+_=Fx.cK T k m N+Fx.hit (T N) k m+_;by_cases c:N=n
  ·subst c;rw[Fx.ai,aJ (Nat.lt_succ_self N),aJ (Nat.lt_succ_self N)];rw[aI (bV N),aI (bV N)]at ih;omega
  ·rw[Fx.ao _ _ _ _ c];by_cases d:n<N
   ·rw[aJ (by omega),aJ (by omega)];rw[aJ d,aJ d]at ih;omega
   ·rw[aI (by omega),aI (by omega)];rw[aI d,aI d]at ih;omega
theorem Fx.xe (T:Nat->Fi){n:Nat}(x:Fi)(k m:Nat)(hn:n<24):Fx.cK (Fx.put T n x) k m 24+Fx.hit (T n) k m=Fx.cK T k m 24+Fx.hit x k m:=by
 have:=Fx.Gc T n x k m 24;rw[aJ hn,aJ hn]at this;exact this
theorem Fx.Oe (x:Fi)(k m:Nat):Fx.hit x k m<=1:=by unfold Fx.hit;split<;>omega
theorem Fx.O0 (k m:Nat):Fx.hit Fi.no k m=0:=aI (fun d=>d.1 rfl)
theorem Fx.vk {x:Fi}(h:x.refs=0)(k m:Nat):Fx.hit x k m=0:=aI (fun d=>d.1 h)
theorem Fx.lE {x:Fi}(h:x.refs≠0):Fx.hit x x.kind x.num=1:=aJ ⟨h,rfl,rfl⟩
theorem Fx.Ja {x y:Fi}(h1:x.refs≠0)(h2:y.refs≠0)(hk:x.kind=y.kind)(hn:x.num=y.num)(k m:Nat):Fx.hit x k m=Fx.hit y k m:=by
 unfold Fx.hit;rw[hk,hn];by_cases c:y.kind=k/\y.num=m
 ·rw[aJ ⟨h1,c⟩,aJ ⟨h2,c⟩]
 ·rw[aI (fun d=>c d.2),aI (fun d=>c d.2)]
theorem Fx.mO {T:Nat->Fi}{k m:Nat}: ∀{N n:Nat},n<N->Fx.hit (T n) k m<=Fx.cK T k m N
 |0,n,h=>aZ h (Nat.not_lt_zero n)
 |N+1,n,h=>by
  show _<=Fx.cK T k m N+Fx.hit (T N) k m;by_cases c:n=N
  ·subst c;omega
  ·have:=Fx.mO (T:=T) (k:=k) (m:=m) (N:=N) (n:=n) (by omega);omega
theorem Fx.rz (T:Nat->Fi)(k m:Nat): ∀N,Fx.cK T k m N<=N
 |0=>aL 0
 |N+1=>by
  have:=Fx.rz T k m N;have:=Fx.Oe (T N) k m;show Fx.cK T k m N+Fx.hit (T N) k m<=N+1;omega
structure WI (T:Nat->Fi)(F:Fo)(S:Nat->Pi):Prop where
 no: ∀n,n<24->(T n).refs=0->T n=Fi.no
 kd: ∀n,n<24->(T n).refs≠0->(T n).kind=1\/(T n).kind=2\/(T n).kind=3
 nd: ∀n,n<24->(T n).refs≠0->(T n).kind=1->(T n).num<40/\(F.nd (T n).num).kind=1
 pn: ∀n,n<24->(T n).refs≠0->(T n).kind≠1->(T n).num<8
 ps: ∀n,n<24->(T n).pos<=40
 hl: ∀m,m<40->(F.nd m).held=Fx.cK T 1 m 24
 z0: ∀m,m<40->(F.nd m).kind=0->(F.nd m).held=0
 rd: ∀m,m<8->(S m).reads=Fx.cK T 2 m 24
 wt: ∀m,m<8->(S m).writes=Fx.cK T 3 m 24
structure WX (xx:Nat->Nat)(T:Nat->Fi)(F:Fo)(S:Nat->Pi):Prop where
 no: ∀n,n<24->(T n).refs=0->T n=Fi.no
 kd: ∀n,n<24->(T n).refs≠0->(T n).kind=1\/(T n).kind=2\/(T n).kind=3
 nd: ∀n,n<24->(T n).refs≠0->(T n).kind=1->(T n).num<40/\(F.nd (T n).num).kind=1
 pn: ∀n,n<24->(T n).refs≠0->(T n).kind≠1->(T n).num<8
 ps: ∀n,n<24->(T n).pos<=40
 hl: ∀m,m<40->(F.nd m).held=Fx.cK T 1 m 24+xx m
 z0: ∀m,m<40->(F.nd m).kind=0->(F.nd m).held=0
 rd: ∀m,m<8->(S m).reads=Fx.cK T 2 m 24
 wt: ∀m,m<8->(S m).writes=Fx.cK T 3 m 24
section
variable {xx : Nat -> Nat} {T : Nat -> Fi} {F G : Fo} {S : Nat -> Pi}
theorem WX.sm (h:WX xx T F S)(hx: ∀m,m<40->xx m<=600):Fx.Sm F S:=by
 refine⟨fun n hn=>?_,fun wr n hn=>?_⟩
 ·rw[h.hl n hn];have:=Fx.rz T 1 n 24;have:=hx n hn;omega
 ·unfold Pp.jv;cases wr
  ·show(S n).reads<_;rw[h.rd n hn];have:=Fx.rz T 2 n 24;omega
  ·show(S n).writes<_;rw[h.wt n hn];have:=Fx.rz T 3 n 24;omega
theorem WX.pz (h:WX xx T F S):Fx.Pz T:=fun n hn=>by
 have p:40<2^60:=by decide
 have:=h.ps n hn;omega
theorem WX.letE (h:WX xx T F S){n:Nat}(hn:n<24)(r:(T n).refs≠0)(k:(T n).kind=1):Tr.letE F ((T n).num:Int)=0:=by
 obtain⟨a,b⟩:=h.nd n hn r k;have c:=h.hl _ a;have d:=Fx.mO (T:=T) (k:=1) (m:=(T n).num) hn;have e:=Fx.lE r;rw[k]at e;have z:Tr.bh F ((T n).num:Int)=0:=by
  unfold Tr.bh;grind
 unfold Tr.letE;rw[aJ z,hU,aI (by omega)]
theorem WX.gd (h:WX xx T F S){n:Nat}(hn:n<24)(r:(T n).refs≠0)(k:(T n).kind≠1):Pp.gd S ((T n).num:Int) (decide ((T n).kind=3))=0:=by
 have a:=h.pn n hn r k;have e:=Fx.lE r;have tm:Pp.jv (S (T n).num) (decide ((T n).kind=3))≠0:=by
  rcases h.kd n hn r with c|c|c
  ·exact aZ c k
  ·rw[c];show(S (T n).num).reads≠0;rw[h.rd _ a];have d:=Fx.mO (T:=T) (k:=2) (m:=(T n).num) hn;rw[c]at e;omega
  ·rw[c];show(S (T n).num).writes≠0;rw[h.wt _ a];have d:=Fx.mO (T:=T) (k:=3) (m:=(T n).num) hn;rw[c]at e;omega
 have th:Pp.jJ (S (T n).num)=true:=by
  apply aO;unfold Pp.jv at tm;grind
 have z:Pp.iU S ((T n).num:Int)=0:=by
  unfold Pp.iU;rw[hU,aI (by omega),aJ th]
 unfold Pp.gd;rw[z,aI (fun d=>d rfl),hU,aI tm]
theorem WX.qt (h:WX xx T F S)(hh: ∀m,m<40->(G.nd m).held=(F.nd m).held)(hk: ∀m,m<40->(F.nd m).held≠0->(G.nd m).kind=(F.nd m).kind)(hz: ∀m,m<40->(G.nd m).kind=0->(G.nd m).held=0):WX xx T G S:=by
 refine⟨h.no,h.kd,fun n hn r k=>?_,h.pn,h.ps,fun m hm=>(hh m hm).trans (h.hl m hm),hz,h.rd,h.wt⟩;obtain⟨a,b⟩:=h.nd n hn r k;refine⟨a,?_⟩;rw[hk _ a ?_]
 ·exact b
 ·rw[h.hl _ a];have d:=Fx.mO (T:=T) (k:=1) (m:=(T n).num) hn;have e:=Fx.lE r;rw[k]at e;omega
theorem WX.K8 (h:WX xx T F S){R:Nat->Pi}(h1: ∀m,m<8->(R m).reads=(S m).reads/\(R m).writes=(S m).writes):WX xx T F R:=
 ⟨h.no,h.kd,h.nd,h.pn,h.ps,h.hl,h.z0,fun m hm=>(h1 m hm).1.trans (h.rd m hm),fun m hm=>(h1 m hm).2.trans (h.wt m hm)⟩
theorem WX.jE (h:WX xx T F S){n:Nat}(hn:n<24)(r:(T n).refs≠0)(x:Fi)(h1:x.refs≠0)(h2:x.kind=(T n).kind)(h3:x.num=(T n).num)(h4:x.pos<=40):WX xx (Fx.put T n x) F S:=by
 have cc: ∀k m,Fx.cK (Fx.put T n x) k m 24=Fx.cK T k m 24:=fun k m=>by
  have:=Fx.xe T x k m hn;rw[Fx.Ja h1 r h2 h3]at this;omega
 refine⟨fun m hm e=>?_,fun m hm e=>?_,fun m hm e k=>?_,fun m hm e k=>?_,fun m hm=>?_,fun m hm=>by rw[cc 1 m];exact h.hl m hm,h.z0,fun m hm=>(h.rd m hm).trans (cc 2 m).symm,fun m hm=>(h.wt m hm).trans (cc 3 m).symm⟩
 ·by_cases c:m=n
  ·subst c;rw[Fx.ai]at e;exact aZ e h1
  ·rw[Fx.ao _ _ _ _ c]at e|-;exact h.no m hm e
 ·by_cases c:m=n
  ·subst c;rw[Fx.ai,h2];exact h.kd m hm r
  ·rw[Fx.ao _ _ _ _ c]at e|-;exact h.kd m hm e
 ·by_cases c:m=n
  ·subst c;rw[Fx.ai]at k|-;rw[h3];exact h.nd m hm r (by rw[<-h2];exact k)
  ·rw[Fx.ao _ _ _ _ c]at e k|-;exact h.nd m hm e k
 ·by_cases c:m=n
  ·subst c;rw[Fx.ai]at k|-;rw[h3];exact h.pn m hm r (by rw[<-h2];exact k)
  ·rw[Fx.ao _ _ _ _ c]at e k|-;exact h.pn m hm e k
 ·by_cases c:m=n
  ·subst c;rw[Fx.ai];exact h4
  ·rw[Fx.ao _ _ _ _ c];exact h.ps m hm
theorem WX.node (h:WX xx T F S){K z:Nat}{wr:Bool}(hl:Fx.sd T K)(hz:Tr.bj F (z:Int) 1=0):WX xx (Fx.put T K ⟨1,z,wr,0,1⟩) (Tr.dc F (z:Int)) S:=by
 obtain⟨n,e,n40,_,k1⟩:=Tr.dY hz;obtain rfl:z=n:=by omega
 have ne:Tr.bh F (z:Int)=0:=by
  unfold Tr.bh;rw[hU,aI (by omega),aI (by omega)]
 have eh:Tr.dc F (z:Int)=F.put z {F.nd z with held:=(F.nd z).held+1}:=by unfold Tr.dc;rw[aJ ne,hU]
 have cc: ∀k m,Fx.cK (Fx.put T K ⟨1,z,wr,0,1⟩) k m 24=Fx.cK T k m 24+if k=1/\m=z then 1 else 0:=fun k m=>by
  have:=Fx.xe T ⟨1,z,wr,0,1⟩ k m hl.1;rw[Fx.vk hl.2.1]at this;have e2:Fx.hit ⟨1,z,wr,0,1⟩ k m=if k=1/\m=z then 1 else 0:=by
   unfold Fx.hit;grind
  omega
 have kk: ∀m,((F.put z {F.nd z with held:=(F.nd z).held+1}).nd m).kind=(F.nd m).kind:=fun m=>by
  by_cases c:m=z
  ·subst c;rw[Tr.ai]
  ·rw[Tr.ao _ _ _ _ c]
 rw[eh];refine⟨fun m hm e=>?_,fun m hm e=>?_,fun m hm e k=>?_,fun m hm e k=>?_,fun m hm=>?_,fun m hm=>?_,fun m hm e=>?_,fun m hm=>?_,fun m hm=>?_⟩
 ·by_cases c:m=K
  ·subst c;rw[Fx.ai]at e;exact aZ e (Nat.succ_ne_zero 0)
  ·rw[Fx.ao _ _ _ _ c]at e|-;exact h.no m hm e
 ·by_cases c:m=K
  ·subst c;rw[Fx.ai];exact .inl rfl
  ·rw[Fx.ao _ _ _ _ c]at e|-;exact h.kd m hm e
 ·rw[kk];by_cases c:m=K
  ·subst c;rw[Fx.ai];exact⟨n40,k1⟩
  ·rw[Fx.ao _ _ _ _ c]at e k|-;exact h.nd m hm e k
 ·by_cases c:m=K
  ·subst c;rw[Fx.ai]at k;exact aZ rfl k
  ·rw[Fx.ao _ _ _ _ c]at e k|-;exact h.pn m hm e k
 ·by_cases c:m=K
  ·subst c;rw[Fx.ai];exact aC _
  ·rw[Fx.ao _ _ _ _ c];exact h.ps m hm
 ·rw[cc];by_cases c:m=z
  ·subst c;rw[Tr.ai,aJ ⟨rfl,rfl⟩];show(F.nd m).held+1=_;rw[h.hl m hm];omega
  ·rw[Tr.ao _ _ _ _ c,aI (fun d=>c d.2)];exact h.hl m hm
 ·rw[kk]at e;by_cases c:m=z
  ·subst c;omega
  ·rw[Tr.ao _ _ _ _ c];exact h.z0 m hm e
 ·rw[cc,aI (fun d=>aZ d.1 (by decide))];exact h.rd m hm
 ·rw[cc,aI (fun d=>aZ d.1 (by decide))];exact h.wt m hm
theorem WX.gone (h:WX xx T F S){n:Nat}(hn:n<24)(r:(T n).refs≠0):WX xx (Fx.put T n Fi.no) (Fx.ta F (T n)) (Fx.ur S (T n)):=by
 have cc: ∀k m,Fx.cK (Fx.put T n Fi.no) k m 24+Fx.hit (T n) k m=Fx.cK T k m 24:=fun k m=>by
  have:=Fx.xe T Fi.no k m hn;rw[Fx.O0]at this;omega
 have no: ∀m,m<24->(Fx.put T n Fi.no m).refs=0->Fx.put T n Fi.no m=Fi.no:=fun m hm e=>by
  by_cases c:m=n
  ·subst c;rw[Fx.ai]
  ·rw[Fx.ao _ _ _ _ c]at e|-;exact h.no m hm e
 have up: ∀m,m<24->(Fx.put T n Fi.no m).refs≠0->m≠n/\Fx.put T n Fi.no m=T m:=fun m hm e=>by
  by_cases c:m=n
  ·subst c;rw[Fx.ai]at e;exact aZ rfl e
  ·exact⟨c,Fx.ao _ _ _ _ c⟩
 have ps: ∀m,m<24->(Fx.put T n Fi.no m).pos<=40:=fun m hm=>by
  by_cases c:m=n
  ·subst c;rw[Fx.ai];exact aC _
  ·rw[Fx.ao _ _ _ _ c];exact h.ps m hm
 by_cases k:(T n).kind=1
 ·obtain⟨a,b⟩:=h.nd n hn r k;have le:=h.letE hn r k;have h1:=Fx.lE r;rw[k]at h1;have eC: ∀m q,q≠1\/m≠(T n).num->Fx.cK (Fx.put T n Fi.no) q m 24=Fx.cK T q m 24:=fun m q d=>by
   have:=cc q m;have e0:Fx.hit (T n) q m=0:=aI (fun e=>by
    rcases d with d|d
    ·exact d (by rw[<-e.2.1,k])
    ·exact d e.2.2.symm)
   omega
  have own:=cc 1 (T n).num;have e1:Fx.ta F (T n)=Tr.cZ F ((T n).num:Int):=aJ k;have e2:Fx.ur S (T n)=S:=aJ k;rw[e1,e2];generalize hm0:(T n).num=m0 at*;have hl0:=h.hl m0 a;have eT:Tr.cZ F (m0:Int)=Tr.kV (F.put m0 {F.nd m0 with held:=(F.nd m0).held-1}) m0:=by unfold Tr.cZ;rw[aJ le,hU]
  rw[eT];by_cases sw:(F.nd m0).bE=0/\(F.nd m0).held-1=0
  ·rw[Tr.CW (by rw[Tr.ai];exact sw)];have nd: ∀q,q≠m0->(((F.put m0 {F.nd m0 with held:=(F.nd m0).held-1}).put m0 Nd.no).nd q)=F.nd q:=fun q hq=>by rw[Tr.ao _ _ _ _ hq,Tr.ao _ _ _ _ hq]
   refine⟨no,fun m hm e=>?_,fun m hm e k2=>?_,fun m hm e k2=>?_,ps,fun m hm=>?_,fun m hm e=>?_,fun m hm=>?_,fun m hm=>?_⟩
   ·have y:=(up m hm e).2;rw[y]at e|-;exact h.kd m hm e
   ·obtain⟨x,y⟩:=up m hm e;rw[y]at e k2|-;obtain⟨p,q⟩:=h.nd m hm e k2;refine⟨p,?_⟩;by_cases c:(T m).num=m0
    ·exfalso;have g:=Fx.mO (T:=Fx.put T n Fi.no) (k:=1) (m:=m0) hm;rw[y]at g;have g2:=Fx.lE e;rw[k2,c]at g2;omega
    ·rw[nd _ c];exact q
   ·have y:=(up m hm e).2;rw[y]at e k2|-;exact h.pn m hm e k2
   ·by_cases c:m=m0
    ·subst c;rw[Tr.ai];show 0=_;omega
    ·rw[nd _ c,eC m 1 (.inr c)];exact h.hl m hm
   ·by_cases c:m=m0
    ·subst c;rw[Tr.ai];rfl
    ·rw[nd _ c]at e|-;exact h.z0 m hm e
   ·rw[eC m 2 (.inl (by decide))];exact h.rd m hm
   ·rw[eC m 3 (.inl (by decide))];exact h.wt m hm
  ·rw[Tr.AQ (by rw[Tr.ai];exact sw)];refine⟨no,fun m hm e=>?_,fun m hm e k2=>?_,fun m hm e k2=>?_,ps,fun m hm=>?_,fun m hm e=>?_,fun m hm=>?_,fun m hm=>?_⟩
   ·have y:=(up m hm e).2;rw[y]at e|-;exact h.kd m hm e
   ·obtain⟨x,y⟩:=up m hm e;rw[y]at e k2|-;obtain⟨p,q⟩:=h.nd m hm e k2;refine⟨p,?_⟩;by_cases c:(T m).num=m0
    ·rw[c,Tr.ai];exact b
    ·rw[Tr.ao _ _ _ _ c];exact q
   ·have y:=(up m hm e).2;rw[y]at e k2|-;exact h.pn m hm e k2
   ·by_cases c:m=m0
    ·subst c;rw[Tr.ai];show(F.nd m).held-1=_;omega
    ·rw[Tr.ao _ _ _ _ c,eC m 1 (.inr c)];exact h.hl m hm
   ·by_cases c:m=m0
    ·subst c;rw[Tr.ai]at e;grind
    ·rw[Tr.ao _ _ _ _ c]at e|-;exact h.z0 m hm e
   ·rw[eC m 2 (.inl (by decide))];exact h.rd m hm
   ·rw[eC m 3 (.inl (by decide))];exact h.wt m hm
 ·have a:=h.pn n hn r k;have oe:=h.gd hn r k;have h1:=Fx.lE r;have eC: ∀m q,q≠(T n).kind\/m≠(T n).num->Fx.cK (Fx.put T n Fi.no) q m 24=Fx.cK T q m 24:=fun m q d=>by
   have:=cc q m;have e0:Fx.hit (T n) q m=0:=aI (fun e=>by
    rcases d with d|d
    ·exact d e.2.1.symm
    ·exact d e.2.2.symm)
   omega
  have own:=cc (T n).kind (T n).num;have e1:Fx.ta F (T n)=F:=aI k;have e2:Fx.ur S (T n)=Pp.oH S ((T n).num:Int) (decide ((T n).kind=3)):=aI k;have hk:=h.kd n hn r;rw[e1,e2];have eD:Pp.oH S ((T n).num:Int) (decide ((T n).kind=3))=Pp.put S (T n).num (Pp.less (S (T n).num) (decide ((T n).kind=3))):=by unfold Pp.oH;rw[aJ oe,hU]
  have rl:=h.rd _ a;have wl:=h.wt _ a;rw[eD];have less: ∀x:Pi,∀wr,(Pp.less x wr).reads=(Pp.kP x wr (Pp.jv x wr-1)).reads/\(Pp.less x wr).writes=(Pp.kP x wr (Pp.jv x wr-1)).writes:=fun x wr=>by
   unfold Pp.less;split
   ·exact⟨rfl,rfl⟩
   ·rename_i c;have:Pp.jJ (Pp.kP x wr (Pp.jv x wr-1))=false:=by simpa using c
    have:=of_decide_eq_false this;exact⟨by show 0=_;omega,by show 0=_;omega⟩
  refine⟨no,fun m hm e=>?_,fun m hm e k2=>?_,fun m hm e k2=>?_,ps,fun m hm=>?_,h.z0,fun m hm=>?_,fun m hm=>?_⟩
  ·have y:=(up m hm e).2;rw[y]at e|-;exact h.kd m hm e
  ·have y:=(up m hm e).2;rw[y]at e k2|-;exact h.nd m hm e k2
  ·have y:=(up m hm e).2;rw[y]at e k2|-;exact h.pn m hm e k2
  ·rw[eC m 1 (.inl (fun d=>k d.symm))];exact h.hl m hm
  ·by_cases c:m=(T n).num
   ·rw[c,Pp.ai,(less _ _).1];rcases hk with d|d|d
    ·exact aZ d k
    ·rw[d]at own h1|-;show(S (T n).num).reads-1=_;omega
    ·rw[eC _ 2 (.inl (by omega))];rw[d];exact rl
   ·rw[Pp.ao _ _ _ _ c,eC m 2 (.inr c)];exact h.rd m hm
  ·by_cases c:m=(T n).num
   ·rw[c,Pp.ai,(less _ _).2];rcases hk with d|d|d
    ·exact aZ d k
    ·rw[eC _ 3 (.inl (by omega))];rw[d];exact wl
    ·rw[d]at own h1|-;show(S (T n).num).writes-1=_;omega
   ·rw[Pp.ao _ _ _ _ c,eC m 3 (.inr c)];exact h.wt m hm
end
section
variable {xx : Nat -> Nat} {T : Nat -> Fi} {F G : Fo} {S : Nat -> Pi}
theorem WX.entry (h:WX xx T F S){K q n:Nat}{R:Nat->Pi}(hl:Fx.sd T K)(hq:q=2\/q=3)(n8:n<8)(h2: ∀m,m<8->(R m).reads=(S m).reads+if q=2/\m=n then 1 else 0)(h3: ∀m,m<8->(R m).writes=(S m).writes+if q=3/\m=n then 1 else 0):WX xx (Fx.put T K ⟨q,n,false,0,1⟩) F R:=by
 have cc: ∀k m,Fx.cK (Fx.put T K ⟨q,n,false,0,1⟩) k m 24=Fx.cK T k m 24+if k=q/\m=n then 1 else 0:=fun k m=>by
  have:=Fx.xe T ⟨q,n,false,0,1⟩ k m hl.1;rw[Fx.vk hl.2.1]at this;grind [Fx.cK,Fx.xe,Fx.vk,Fx.hit]
 refine⟨fun m hm e=>?_,fun m hm e=>?_,fun m hm e k=>?_,fun m hm e k=>?_,fun m hm=>?_,fun m hm=>?_,h.z0,fun m hm=>?_,fun m hm=>?_⟩
 ·by_cases c:m=K
  ·subst c;rw[Fx.ai]at e;exact aZ e (Nat.succ_ne_zero 0)
  ·rw[Fx.ao _ _ _ _ c]at e|-;exact h.no m hm e
 ·by_cases c:m=K
  ·subst c;rw[Fx.ai];exact .inr hq
  ·rw[Fx.ao _ _ _ _ c]at e|-;exact h.kd m hm e
 ·by_cases c:m=K
  ·subst c;rw[Fx.ai]at k;have:q=1:=k;omega
  ·rw[Fx.ao _ _ _ _ c]at e k|-;exact h.nd m hm e k
 ·by_cases c:m=K
  ·subst c;rw[Fx.ai];exact n8
  ·rw[Fx.ao _ _ _ _ c]at e k|-;exact h.pn m hm e k
 ·by_cases c:m=K
  ·subst c;rw[Fx.ai];exact aC _
  ·rw[Fx.ao _ _ _ _ c];exact h.ps m hm
 ·rw[cc,aI (by omega)];exact h.hl m hm
 ·rw[cc,h2 m hm,h.rd m hm];by_cases c:q=2/\m=n
  ·rw[aJ c,aJ ⟨c.1.symm,c.2⟩]
  ·rw[aI c,aI (fun d=>c ⟨d.1.symm,d.2⟩)]
 ·rw[cc,h3 m hm,h.wt m hm];by_cases c:q=3/\m=n
  ·rw[aJ c,aJ ⟨c.1.symm,c.2⟩]
  ·rw[aI c,aI (fun d=>c ⟨d.1.symm,d.2⟩)]
theorem WX.pipe (h:WX xx T F S){a c n:Nat}(hf:Pp.fF S n 0)(h1:Fx.sd T a)(h2:Fx.sd (Fx.put T a ⟨2,n,false,0,1⟩) c):WX xx (Fx.put (Fx.put T a ⟨2,n,false,0,1⟩) c ⟨3,n,false,0,1⟩) F (Pp.iS S n 0):=by
 have n8:n<8/\Pp.jJ (S n)=false:=by
  rcases hf with⟨_,x,y,_⟩|⟨x,_⟩
  ·exact⟨x,y⟩
  omega
 have z:(S n).reads=0/\(S n).writes=0:=by
  have:=n8.2;have:=of_decide_eq_false this;omega
 have eM:Pp.iS S n 0=Pp.put S n ⟨⟨#[]⟩,1,1⟩:=aJ rfl;rw[eM];have s1:=h.entry (q:=2) (R:=Pp.put S n ⟨⟨#[]⟩,1,0⟩) h1 (.inl rfl) n8.1 (fun m hm=>by
  by_cases d:m=n
  ·subst d;rw[Pp.ai,aJ ⟨rfl,rfl⟩,z.1]
  ·rw[Pp.ao _ _ _ _ d,aI (fun e=>d e.2)];rfl) (fun m hm=>by
  rw[aI (fun e=>aZ e.1 (by decide))];by_cases d:m=n
  ·subst d;rw[Pp.ai,z.2]
  ·rw[Pp.ao _ _ _ _ d];rfl)
 refine s1.entry (q:=3) h2 (.inr rfl) n8.1 (fun m hm=>?_) (fun m hm=>?_)
 ·rw[aI (fun e=>aZ e.1 (by decide))];by_cases d:m=n
  ·subst d;rw[Pp.ai,Pp.ai]
  ·rw[Pp.ao _ _ _ _ d,Pp.ao _ _ _ _ d];rfl
 ·by_cases d:m=n
  ·subst d;rw[Pp.ai,Pp.ai,aJ ⟨rfl,rfl⟩]
  ·rw[Pp.ao _ _ _ _ d,Pp.ao _ _ _ _ d,aI (fun e=>d e.2)];rfl
theorem WX.Ht {n k:Nat}{s:bU}(F:Fo)(m:Nat):((Tr.jC F n s k).nd m).held=(F.nd m).held/\((Tr.jC F n s k).nd m).kind=(F.nd m).kind:=by
 have one: ∀m,((F.put n (Tr.gT (F.nd n) s k)).nd m).held=(F.nd m).held/\((F.put n (Tr.gT (F.nd n) s k)).nd m).kind=(F.nd m).kind:=fun m=>by
  by_cases c:m=n
  ·subst c;rw[Tr.ai];exact⟨rfl,rfl⟩
  ·rw[Tr.ao _ _ _ _ c];exact⟨rfl,rfl⟩
 unfold Tr.jC;split
 ·by_cases c:m=k
  ·subst c;rw[Tr.ai];exact one m
  ·rw[Tr.ao _ _ _ _ c];exact one m
 ·exact one m
theorem WX.Ou (h:WX xx T F S){z kz E:Int}{s:bU}{K:Nat}(hm:Tr.rk F z s kz K E G):WX xx T G S:=by
 rcases hm with⟨_,_,_,_,rfl⟩|⟨kk,e,_,⟨_,_,_,rfl⟩|⟨_,k,e2,hf,⟨_,_,_,rfl⟩|⟨e0,_,_,rfl⟩⟩⟩
 ·exact h
 ·exact h
 ·exact h
 ·obtain⟨k40,k0⟩:k<40/\(F.nd k).kind=0:=by
   rcases hf with⟨_,x,y,_⟩|⟨x,_⟩
   ·exact⟨x,y⟩
   ·omega
  have hk:=h.z0 k k40 k0;have kz0:kz.toNat≠0:=by omega
  have cut: ∀m,((Tr.iS F z.toNat s kz.toNat k).nd m).held=(F.nd m).held/\(((Tr.iS F z.toNat s kz.toNat k).nd m).kind=if m=k then kz.toNat else(F.nd m).kind):=fun m=>by
   unfold Tr.iS;obtain⟨x,y⟩:=WX.Ht (n:=z.toNat) (k:=k) (s:=s) (F.put k (dS kz.toNat (F.nd z.toNat).tree 0)) m;rw[x,y];by_cases c:m=k
   ·subst c;rw[Tr.ai,aJ rfl];exact⟨hk.symm,rfl⟩
   ·rw[Tr.ao _ _ _ _ c,aI c];exact⟨rfl,rfl⟩
  refine h.qt (fun m _=>(cut m).1) (fun m hm hh=>?_) (fun m hm e=>?_)
  ·rw[(cut m).2,aI (fun c=>by subst c;exact hh hk)]
  ·rw[(cut m).2]at e;rw[(cut m).1];by_cases c:m=k
   ·rw[aJ c]at e;exact aZ e kz0
   ·rw[aI c]at e;exact h.z0 m hm e
theorem WX.rem (h:WX xx T F S){z E:Int}{s:bU}(hm:Tr.wX F z s E G):WX xx T G S:=by
 obtain⟨K,e,_,⟨_,_,rfl⟩|⟨_,⟨_,_,_,rfl⟩|⟨_,_,i,_,rfl⟩⟩⟩:=hm
 ·exact h
 ·exact h
 ·have one: ∀m,(((F.put z.toNat (Tr.dJ (F.nd z.toNat) i)).put K {(F.put z.toNat (Tr.dJ (F.nd z.toNat) i)).nd K with bE:=(F.nd K).bE-1}).nd m).held=(F.nd m).held/\(((F.put z.toNat (Tr.dJ (F.nd z.toNat) i)).put K {(F.put z.toNat (Tr.dJ (F.nd z.toNat) i)).nd K with bE:=(F.nd K).bE-1}).nd m).kind=(F.nd m).kind:=fun m=>by
   have two:((F.put z.toNat (Tr.dJ (F.nd z.toNat) i)).nd m).held=(F.nd m).held/\((F.put z.toNat (Tr.dJ (F.nd z.toNat) i)).nd m).kind=(F.nd m).kind:=by
    by_cases c:m=z.toNat
    ·subst c;rw[Tr.ai];exact⟨rfl,rfl⟩
    ·rw[Tr.ao _ _ _ _ c];exact⟨rfl,rfl⟩
   by_cases c:m=K
   ·subst c;rw[Tr.ai];exact two
   ·rw[Tr.ao _ _ _ _ c];exact two
  unfold Tr.uS Tr.kV;split
  ·rename_i c;refine h.qt (fun m hm=>?_) (fun m hm hh=>?_) (fun m hm e=>?_)
   ·by_cases d:m=K
    ·subst d;rw[Tr.ai,<-(one m).1,c.2];rfl
    ·rw[Tr.ao _ _ _ _ d];exact(one m).1
   ·by_cases d:m=K
    ·subst d;rw[<-(one m).1]at hh;exact aZ c.2 hh
    ·rw[Tr.ao _ _ _ _ d];exact(one m).2
   ·by_cases d:m=K
    ·subst d;rw[Tr.ai];rfl
    ·rw[Tr.ao _ _ _ _ d]at e|-;rw[(one m).2]at e;rw[(one m).1];exact h.z0 m hm e
  ·refine h.qt (fun m hm=>(one m).1) (fun m hm _=>(one m).2) (fun m hm e=>?_);rw[(one m).2]at e;rw[(one m).1];exact h.z0 m hm e
theorem WX.zd (h:WX xx T F S)(z a:Int)(s:bU):WX xx T (Tr.dF F z a s) S:=by
 unfold Tr.dF;split
 ·have one: ∀m,((F.put z.toNat (Tr.xY (F.nd z.toNat) a.toNat s)).nd m).held=(F.nd m).held/\((F.put z.toNat (Tr.xY (F.nd z.toNat) a.toNat s)).nd m).kind=(F.nd m).kind:=fun m=>by
   by_cases c:m=z.toNat
   ·subst c;rw[Tr.ai];exact⟨rfl,rfl⟩
   ·rw[Tr.ao _ _ _ _ c];exact⟨rfl,rfl⟩
  refine h.qt (fun m hm=>(one m).1) (fun m hm _=>(one m).2) (fun m hm e=>?_);rw[(one m).2]at e;rw[(one m).1];exact h.z0 m hm e
 ·exact h
theorem WX.O1 (h:WX xx T F S)(z m:Int):WX xx T F (Pp.mM S z m):=by
 unfold Pp.mM;split
 ·refine h.K8 (fun q hq=>?_);by_cases c:q=z.toNat
  ·subst c;rw[Pp.ai];exact⟨rfl,rfl⟩
  ·rw[Pp.ao _ _ _ _ c];exact⟨rfl,rfl⟩
 ·exact h
theorem WX.Qp (h:WX xx T F S)(z:Int)(s:bU):WX xx T F (Pp.dF S z s):=by
 unfold Pp.dF;split
 ·refine h.K8 (fun q hq=>?_);by_cases c:q=z.toNat
  ·subst c;rw[Pp.ai];exact⟨rfl,rfl⟩
  ·rw[Pp.ao _ _ _ _ c];exact⟨rfl,rfl⟩
 ·exact h
end
open Mo (Wh Mt)
open Mv (Me Bk)
open Sg (S1)
open Kn (Pr Kp St us KB)
namespace Kn
def jH (k:Kp)(m:Nat):Nat->Nat
 |0=>0
 |s+1=>jH k m s+if k.ht s=true then Mo.tc (k.tb s) m else 0
def iG (k:Kp)(m:Nat):Nat:=jH k m 6
structure KJ (X:Nat->Prop)(N:Nat)(k:Kp):Prop where
 sp: ∃d,Sp.Inv k.sp d
 gr: ∃Wy,Gr.Tree k.gr Wy N
 me:Mv.eZ k.bk 20 (fun n=>(k.p n).mem)
 wx:WX (iG k) k.fi k.fo k.pi
 rf: ∀n,n<24->(k.fi n).refs<=8*N
 ok:Tr.Ok k.fo
 tb: ∀s,s<6->k.ht s=true->Mo.Rg (k.tb s)/\(k.tb s).ms.length<=6
 st: ∀n,n<20->(k.p n).st<=2
 hs: ∀n,n<20->(k.p n).has=true->(k.p n).st=1
 lv: ∀n,n<20-> ¬X n->(k.p n).st=1->(k.p n).has=true
 of: ∀n,n<20->(k.sp.of n≠0↔(k.p n).st≠0)
 ht: ∀s,s<6->k.ht s=k.sp.here s
 nm: ∀n,n<20->(k.p n).has=false->(k.p n).mem=Mv.kX
theorem Ds {k:Kp}(h: ∀s,s<6->k.ht s=true->Mo.Rg (k.tb s)/\(k.tb s).ms.length<=6)(m:Nat): ∀s,s<=6->jH k m s<=13*s
 |0,_=>aL 0
 |s+1,hs=>by
  have ih:=Ds h m s (by omega);show jH k m s+_<=_;by_cases c:k.ht s=true
  ·rw[aJ c];have:=Mo.PF (k.tb s) (h s (by omega) c).2 m;omega
  ·rw[aI c];omega
section
variable {X : Nat -> Prop} {N : Nat} {k : Kp}
theorem KJ.tx (h:KJ X N k)(m:Nat):iG k m<=78:=Ds h.tb m 6 (aL _)
theorem KJ.sm (h:KJ X N k):Fx.Sm k.fo k.pi:=h.wx.sm (fun m _=>by have:=h.tx m;omega)
theorem KJ.hb (h:KJ X N k):Tr.Hb k.fo 102:=fun n hn=>by
 rw[h.wx.hl n hn];have:=Fx.rz k.fi 1 n 24;have:=h.tx n;omega
theorem KJ.mono (h:KJ X N k){Y:Nat->Prop}{M:Nat}(hX: ∀n,n<20->X n->Y n)(hM:N<=M):KJ Y M k:=
 ⟨h.sp,(by obtain⟨Wy,g⟩:=h.gr;exact⟨Wy,g.mono hM⟩),h.me,h.wx,fun n hn=>by have:=h.rf n hn;omega,h.ok,h.tb,h.st,h.hs,fun n hn hx=>h.lv n hn (fun c=>hx (hX n hn c)),h.of,h.ht,h.nm⟩
theorem KJ.AR (h:KJ X N k){n:Nat}{x:Pr}(h1:x.st=(k.p n).st)(h2:x.has=(k.p n).has)(h3:x.mem=(k.p n).mem):KJ X N (k.put n x):=by
 have e: ∀m,((k.put n x).p m).st=(k.p m).st/\((k.put n x).p m).has=(k.p m).has/\((k.put n x).p m).mem=(k.p m).mem:=fun m=>by
  by_cases c:m=n
  ·subst c;rw[ai];exact⟨h1,h2,h3⟩
  ·rw[ao _ _ _ _ c];exact⟨rfl,rfl,rfl⟩
 exact⟨h.sp,h.gr,by rw[show(fun m=>((k.put n x).p m).mem)=fun m=>(k.p m).mem from funext fun m=>(e m).2.2];exact h.me,h.wx,h.rf,h.ok,h.tb,fun m hm=>by rw[(e m).1];exact h.st m hm,fun m hm=>by rw[(e m).1,(e m).2.1];exact h.hs m hm,fun m hm=>by rw[(e m).1,(e m).2.1];exact h.lv m hm,fun m hm=>by rw[(e m).1];exact h.of m hm,h.ht,fun m hm=>by rw[(e m).2.1,(e m).2.2];exact h.nm m hm⟩
def cN (k:Kp)(n:Nat)(a m:Int):Kp:=if Mv.pC a m=0 then{bR k n (Mv.nA (k.p n).mem a m) (Mv.nG (k.p n).mem k.bk a m)with gr:=Gr.gA k.gr (k.p n).bP 0 (Mv.wJ (k.p n).mem a m:Int)}else k
def ym (k:Kp)(n:Nat)(a m:Int):Int:=if Mv.pC a m=0 then Gr.jP k.gr (k.p n).bP 0 (Mv.wJ (k.p n).mem a m:Int)else Mv.pC a m
theorem mu {t:Nat->Gr.Gp}{Wy:Nat->List (Fin 10)}{c:Nat}(h:Gr.Tree t Wy c)(g p q:Int):Gr.Tree (Gr.gA t g p q) Wy c:=by
 unfold Gr.gA;by_cases e:Gr.jP t g p q=0
 ·rw[aJ e];have hr:Gr.dU t g p q=0:=by
   unfold Gr.jP at e;by_cases r:Gr.dU t g p q=0
   ·exact r
   ·rw[aI r]at e;exact aZ e r
  obtain⟨n,rfl,hn,hh,hp,hq⟩:=Gr.lx hr;rw[hU];unfold Gr.jP at e;rw[aJ hr,hU]at e;have o:=h.own n hn;obtain⟨hp,hq⟩:=Gr.oA hr;by_cases l:p<=(t n).op/\q<=(t n).oq
  ·exact h.lV (aL _) ⟨by omega,by omega⟩ ⟨by omega,by omega⟩
  ·rw[aI l]at e;omega
 ·rw[aI e];exact h
theorem KJ.lf (h:KJ X N k){t:Nat->Gr.Gp}(g: ∃Wy,Gr.Tree t Wy N):KJ X N {k with gr:=t}:=⟨h.sp,g,h.me,h.wx,h.rf,h.ok,h.tb,h.st,h.hs,h.lv,h.of,h.ht,h.nm⟩
theorem KJ.bR (h:KJ X N k){n:Nat}{m:Me}{b:Bk}(hn:n<20)(hh:(k.p n).has=true)(w:Mv.eZ b 20 (Mv.jc (fun n=>(k.p n).mem) n m)):KJ X N (bR k n m b):=by
 have e: ∀j,((Kn.bR k n m b).p j).st=(k.p j).st/\((Kn.bR k n m b).p j).has=(k.p j).has:=fun j=>by
  by_cases c:j=n
  ·subst c;rw[show(Kn.bR k j m b).p j={k.p j with mem:=m}from ai _ _ _];exact⟨rfl,rfl⟩
  ·rw[show(Kn.bR k n m b).p j=k.p j from ao _ _ _ _ c];exact⟨rfl,rfl⟩
 have e2:(fun j=>((Kn.bR k n m b).p j).mem)=Mv.jc (fun n=>(k.p n).mem) n m:=funext fun j=>by
  by_cases c:j=n
  ·subst c;rw[show(Kn.bR k j m b).p j={k.p j with mem:=m}from ai _ _ _,Mv.fp]
  ·rw[show(Kn.bR k n m b).p j=k.p j from ao _ _ _ _ c,Mv.ic _ _ _ _ c]
 exact⟨h.sp,h.gr,by rw[e2];exact w,h.wx,h.rf,h.ok,h.tb,fun m hm=>by rw[(e m).1];exact h.st m hm,fun m hm=>by rw[(e m).1,(e m).2];exact h.hs m hm,fun m hm=>by rw[(e m).1,(e m).2];exact h.lv m hm,fun m hm=>by rw[(e m).1];exact h.of m hm,h.ht,fun j hj=>by
  by_cases c:j=n
  ·subst c;intro q;rw[(e j).2,hh]at q;cases q
  ·rw[show(Kn.bR k n m b).p j=k.p j from ao _ _ _ _ c];exact h.nm j hj⟩
theorem KJ.KZ (h:KJ X N k){n:Nat}(hn:n<20)(hh:(k.p n).has=true)(a m:Int):KJ X N (cN k n a m):=by
 unfold cN;by_cases c:Mv.pC a m=0
 ·rw[aJ c];have w:Mv.eZ (Mv.nG (k.p n).mem k.bk a m) 20 (Mv.jc (fun n=>(k.p n).mem) n (Mv.nA (k.p n).mem a m)):=by
   unfold Mv.pC at c;unfold Mv.nG Mv.nA;cases hb:Mv.jS a m
   ·obtain⟨x,j,rfl,rfl,hx,h1,h2⟩:=Mv.sN hb;rw[aI (by decide),aI (by decide),hU,hU];exact h.me.Le (i:=n) hn j h2
   ·rw[hb,aJ rfl]at c;omega
  refine(h.bR hn hh w).lf ?_;obtain⟨Wy,g⟩:=h.gr;exact⟨Wy,mu g _ _ _⟩
 ·rw[aI c];exact h
def iO (k:Kp)(z:Int):Kp:={k with fi:=Fx.ry k.fi z,fo:=Fx.qT k.fi k.fo z,pi:=Fx.sv k.fi k.pi z}
theorem KJ.PX (h:KJ X N k)(z:Int):KJ X N (iO k z):=by
 have key:WX (iG k) (Fx.ry k.fi z) (Fx.qT k.fi k.fo z) (Fx.sv k.fi k.pi z)/\(∀n,n<24->(Fx.ry k.fi z n).refs<=(k.fi n).refs)/\Tr.Ok (Fx.qT k.fi k.fo z):=by
  unfold Fx.ry Fx.qT Fx.sv;by_cases c:Fx.cE k.fi z=0
  ·obtain⟨n,rfl,hn,r⟩:=Fx.jz c;rw[hU,aJ c];by_cases d:(k.fi n).refs=1
   ·rw[aJ d,aJ ⟨c,d⟩,aJ ⟨c,d⟩];refine⟨h.wx.gone hn r,fun m _=>?_,?_⟩
    ·by_cases e:m=n
     ·subst e;rw[Fx.ai];exact aC _
     ·rw[Fx.ao _ _ _ _ e];exact aL _
    ·unfold Fx.ta;split
     ·exact h.ok.cZ _
     ·exact h.ok
   ·rw[aI d,aI (fun e=>d e.2),aI (fun e=>d e.2)];refine⟨h.wx.jE hn r _ (by show(k.fi n).refs-1≠0;omega) rfl rfl (h.wx.ps n hn),fun m _=>?_,h.ok⟩;by_cases e:m=n
    ·subst e;rw[Fx.ai];show(k.fi m).refs-1<=_;omega
    ·rw[Fx.ao _ _ _ _ e];exact aL _
  ·rw[aI c,aI (fun e=>c e.1),aI (fun e=>c e.1)];exact⟨h.wx,fun _ _=>aL _,h.ok⟩
 exact⟨h.sp,h.gr,h.me,key.1,fun n hn=>aH (key.2.1 n hn) (h.rf n hn),key.2.2,h.tb,h.st,h.hs,h.lv,h.of,h.ht,h.nm⟩
def da (k:Kp)(n:Nat)(fd:Nat->Int):Nat->Kp
 |0=>k
 |j+1=>if fd j= -1 then da k n fd j else eS (iO (da k n fd j) (fd j)) n j (-1)
theorem KJ.da (h:KJ X N k)(n:Nat)(fd:Nat->Int): ∀j,KJ X N (da k n fd j)
 |0=>h
 |j+1=>by
  show KJ X N (if fd j= -1 then _ else _);split
  ·exact h.da n fd j
  ·exact((h.da n fd j).PX _).AR rfl rfl rfl
theorem vM (k:Kp)(n:Nat)(fd:Nat->Int): ∀j m,((da k n fd j).p m).st=(k.p m).st/\((da k n fd j).p m).has=(k.p m).has/\((da k n fd j).p m).mem=(k.p m).mem/\((da k n fd j).p m).box=(k.p m).box/\((da k n fd j).p m).bP=(k.p m).bP/\((da k n fd j).p m).par=(k.p m).par/\((da k n fd j).p m).code=(k.p m).code
 |0,_=>⟨rfl,rfl,rfl,rfl,rfl,rfl,rfl⟩
 |j+1,m=>by
  have ih:=vM k n fd j;show(((if fd j= -1 then Kn.da k n fd j else eS (iO (Kn.da k n fd j) (fd j)) n j (-1)):Kp).p m).st=_/\_;by_cases c:fd j= -1
  ·have e:Kn.da k n fd (j+1)=Kn.da k n fd j:=aJ c;rw[aJ c,e];exact ih m
  ·have e:Kn.da k n fd (j+1)=eS (iO (Kn.da k n fd j) (fd j)) n j (-1):=aI c;rw[aI c,e];unfold eS;by_cases d:m=n
   ·subst d;rw[ai];exact ih m
   ·rw[ao _ _ _ _ d];exact ih m
end
def pY (k:Kp)(n:Nat)(m':Wf.M):Kp:=
 let k1:=da (cN k n 0 16) n (k.p n).fd 6
 {k1 with sc:=m'}.put n {k1.p n with has:=false,mem:=Mv.kX,box:=Sg.fj}
def fL (k:Kp)(n:Nat)(k':Kp):Prop:= ∃m',Wf.Ha k.sc n m'/\k'=pY k n m'
end Kn
open Kn (Pr Kp St us KB KJ)
theorem Kn.nC (k:Kp)(n:Nat)(m:Me)(b:Bk):(Kn.bR k n m b).p n={k.p n with mem:=m}:=Kn.ai _ _ _
section
variable (base : Nat) (s : St) (w : bD)
theorem vL (n:Nat)(a m:Int)(h:ak w base s)(hn:n<20)(hh:(s.k.p n).has=true)(C:Mv.xp (s.k.p n).mem s.k.bk)(hS:Gr.Small s.k.gr):
  Calls Tryz.prog 78 #[.pointer (some ⟨s.A 0,0,none⟩), .pointer (some ⟨s.A 0,n*12,none⟩), .int .i64 a, .int .i64 m] w fun e w'=>e= .returned (aq (Kn.ym s.k n a m))/\ak w' base {s with k:=Kn.cN s.k n a m}/\KF s w {s with k:=Kn.cN s.k n a m} w':=by
 have c4:=h.qQ n hn hh;have UM:=hZ (Dv (s.A (9+n)) (s.A 4) (s.A 5) a m (s.k.p n).mem s.k.bk w (h.ub hn hh) C);obtain⟨kb,hkb⟩:=nJ (s.A 0);have HK:=hZ hkb;have H:=hZ h;have HS:=hZ hS;have HH:=hZ hh;rw[hkb]at c4|-;clear h hS hh C;by_cases c:Mv.pC a m=0
 ·have E:Hid (Kn.ym s.k n a m=Gr.jP s.k.gr (s.k.p n).bP 0 (Mv.wJ (s.k.p n).mem a m:Int)/\Kn.cN s.k n a m={Kn.bR s.k n (Mv.nA (s.k.p n).mem a m) (Mv.nG (s.k.p n).mem s.k.bk a m)with gr:=Gr.gA s.k.gr (s.k.p n).bP 0 (Mv.wJ (s.k.p n).mem a m:Int)}):=hZ ⟨aJ c,aJ c⟩;rw[c]at UM;clear c;go_in
  go_wp2_with fail
  refine UM.out.mono ?_;rintro e w1 ⟨rfl,u1,f1⟩;have S1:=hZ (H.out.vO hn HH.out u1 f1);clear u1 f1 c4;rw[aa];go_upto_region 4 with fail
  have KF1:Hid (∀W,ak W base {s with k:=Kn.bR s.k n (Mv.nA (s.k.p n).mem a m) (Mv.nG (s.k.p n).mem s.k.bk a m)}->W.cell? ⟨kb,247,none⟩=some (.pointer (some ⟨s.A 2,0,none⟩))/\W.cell? ⟨kb,n*12+2,none⟩=some (.int .i64 (s.k.p n).bP)):=hZ (fun W hW=>by
   have e1:=hW.sr;have e2:=hW.pU n hn;rw[Kn.nC]at e2;rw[<-HK.out];exact⟨e1,e2⟩)
  have K0:=hZ (KF1.out w1 S1.out.1);have UC:=hZ (Gr.jT (s.A 2) (s.k.p n).bP 0 (Mv.wJ (s.k.p n).mem a m:Int) s.k.gr w1.drew S1.out.1.drew.gr HS.out);obtain⟨gz,hgz⟩:=nJ ((s.k.p n).bP);obtain⟨cz,hcz⟩:=nJ ((Mv.wJ (s.k.p n).mem a m:Int));obtain⟨g2,hg2⟩:=nJ (s.A 2);rw[hgz,hcz,hg2]at UC;rw[hgz,hg2]at K0;rw[hcz];have HG:=hZ (aK hgz (aK hcz hg2));clear hgz hcz hg2;obtain⟨y1,y2⟩:=K0.out;go_region_held3 (fun w'=>w'.cell? ⟨kb,247,none⟩=some (.pointer (some ⟨g2,0,none⟩))/\w'.cell? ⟨kb,n*12+2,none⟩=some (.int .i64 gz)) (first|exact K0.out|exact K4.out) (
   (go_at_call 67;refine UC.out.mono ?_;rintro e w4 ⟨rfl,t4,f4⟩;have S4:Hid (ak w4 base {s with k:=Kn.cN s.k n a m}/\KF s w {s with k:=Kn.cN s.k n a m} w4):=hZ (by
     obtain⟨e1,e2,e3⟩:=HG.out;rw[<-e1,<-e2]at t4;rw[<-e3]at t4 f4;have q:=S1.out.1.drew.lf t4 f4.wI;rw[E.out.2];exact⟨q.1,S1.out.2.trans ((KF.drew _ _).trans q.2)⟩);have K4:Hid (w4.cell? ⟨kb,247,none⟩=some (.pointer (some ⟨g2,0,none⟩))/\w4.cell? ⟨kb,n*12+2,none⟩=some (.int .i64 gz)):=hZ (by
     obtain⟨e1,e2,e3⟩:=HG.out;have q1:=S4.out.1.sr;have q2:=S4.out.1.pU n hn;rw[E.out.2]at q2;have q3:w4.cell? ⟨s.A 0,n*12+2,none⟩=some (.int .i64 ((Kn.bR s.k n (Mv.nA (s.k.p n).mem a m) (Mv.nG (s.k.p n).mem s.k.bk a m)).p n).bP):=q2;rw[Kn.nC]at q3;rw[<-HK.out,<-e1,<-e3];exact⟨q1,q3⟩);clear t4 f4))
  go_wp2
  go_ret
  obtain⟨e1,e2,e3⟩:=HG.out;rw[E.out.1,e1,e2];exact⟨rfl,S4.out⟩
 ·have E:Hid (Kn.ym s.k n a m=Mv.pC a m/\Kn.cN s.k n a m=s.k):=hZ ⟨aI c,aI c⟩;have E2:=hZ (aj c);have M0:Hid (Mv.nA (s.k.p n).mem a m=(s.k.p n).mem/\Mv.nG (s.k.p n).mem s.k.bk a m=s.k.bk):=hZ (by
   unfold Mv.pC at c;unfold Mv.nA Mv.nG;cases hb:Mv.jS a m
   ·rw[hb,aI (by decide)]at c;exact aZ rfl c
   ·rw[aJ rfl,aJ rfl];exact⟨rfl,rfl⟩)
  clear c;go_in
  go_wp2_with fail
  refine UM.out.mono ?_;rintro e w1 ⟨rfl,u1,f1⟩;have S1:Hid (ak w1 base s/\KF s w s w1):=hZ (by
   rw[M0.out.1,M0.out.2]at u1;have q:=H.out.vO hn HH.out u1 f1;have e:({s with k:=Kn.bR s.k n (s.k.p n).mem s.k.bk}:St)=s:=by
    have:Kn.bR s.k n (s.k.p n).mem s.k.bk=s.k:=by
     unfold Kn.bR Kp.put;have:(fun m=>if m=n then{s.k.p n with mem:=(s.k.p n).mem}else s.k.p m)=s.k.p:=funext fun m=>by
      by_cases c:m=n
      ·rw[aJ c,c]
      ·rw[aI c]
     rw[this]
    rw[this]
   rw[e]at q;exact q)
  clear u1 f1 c4;rw[E2.out];generalize (Mv.wJ (s.k.p n).mem a m:Int)=cz;go_wp2
  go_ret
  rw[E.out.1,E.out.2,E2.out];exact⟨rfl,S1.out⟩
end
def kE (f:Nat->Int):Array Value:=((List.range 6).map fun i=>Value.int .i64 (f i)).toArray
theorem oP (f:Nat->Int):(kE f).size=6:=by simp[kE]
theorem zM (f:Nat->Int)(i:Nat)(h:i<6):(kE f)[i]? =some (.int .i64 (f i)):=by simp[kE,h]
theorem uV (f:Nat->Int)(x:Nat)(h:x<6)(w:bD):Sem.run Tryz.prog (Instr.index 72 (Value.agg (kE f)) (Value.int IntKind.i64 x)) w= .ok (.int .i64 (f x)) w:=by
 have hu:Tryz.prog.underlying 72=some (.array 6 3):=by kernel_rfl
 have h1:(x:Int)<6:=by omega
 simp[Instr.index,Sem.run_bind,run_underlying hu,go_sem];rw[aJ h,zM f x h];rfl
theorem ak.fds {w:bD}{base:Nat}{s:St}(h:ak w base s){n:Nat}(hn:n<20)(j:Nat)(hj:j<(kE (s.k.p n).fd).size):w.cell? ⟨s.A 0,n*12+6+j,none⟩=(kE (s.k.p n).fd)[j]? :=by
 rw[oP]at hj;rw[zM _ j hj];exact h.oN n j hn hj
namespace Kn
theorem Aw (k:Kp)(n:Nat)(a m:Int)(j:Nat):((cN k n a m).p j).fd=(k.p j).fd/\((cN k n a m).p j).has=(k.p j).has/\((cN k n a m).p j).st=(k.p j).st/\((cN k n a m).p j).box=(k.p j).box/\((cN k n a m).p j).bP=(k.p j).bP/\((cN k n a m).p j).par=(k.p j).par/\((cN k n a m).p j).code=(k.p j).code:=by
 have key: ∀(x:Me) (b:Bk),((bR k n x b).p j).fd=(k.p j).fd/\((bR k n x b).p j).has=(k.p j).has/\((bR k n x b).p j).st=(k.p j).st/\((bR k n x b).p j).box=(k.p j).box/\((bR k n x b).p j).bP=(k.p j).bP/\((bR k n x b).p j).par=(k.p j).par/\((bR k n x b).p j).code=(k.p j).code:=fun x b=>by
  by_cases c:j=n
  ·subst c;rw[nC];exact⟨rfl,rfl,rfl,rfl,rfl,rfl,rfl⟩
  ·rw[show(bR k n x b).p j=k.p j from ao _ _ _ _ c];exact⟨rfl,rfl,rfl,rfl,rfl,rfl,rfl⟩
 unfold cN;split
 ·exact key _ (Mv.nG (k.p n).mem k.bk a m)
 ·exact⟨rfl,rfl,rfl,rfl,rfl,rfl,rfl⟩
theorem Nu (k:Kp)(n:Nat)(a m:Int):(cN k n a m).sc=k.sc:=by unfold cN;split<;>rfl
theorem xK (k:Kp)(n:Nat)(fd:Nat->Int): ∀j,(da k n fd j).sc=k.sc
 |0=>rfl
 |j+1=>by
  show(if fd j= -1 then _ else _:Kp).sc=_;split
  ·exact xK k n fd j
  ·exact xK k n fd j
end Kn
theorem ak.bare {w:bD}{base:Nat}{s:St}(h:ak w base s){n:Nat}(hn:n<20)(m:Me)(X:Nat->S1)(hm:(s.k.p n).has=true):
  ak ((w.setCell ⟨s.A 0,n*12+4,none⟩ (.pointer none)).setCell ⟨s.A 0,n*12+5,none⟩ (.pointer none)) base {s with k:=s.k.put n {s.k.p n with has:=false,mem:=m,box:=X}}/\
   KF s w {s with k:=s.k.put n {s.k.p n with has:=false,mem:=m,box:=X}} ((w.setCell ⟨s.A 0,n*12+4,none⟩ (.pointer none)).setCell ⟨s.A 0,n*12+5,none⟩ (.pointer none)):=by
 obtain⟨C,e,sz⟩:=h.kT;have f:af (s.A 0) w ((w.setCell ⟨s.A 0,n*12+4,none⟩ (.pointer none)).setCell ⟨s.A 0,n*12+5,none⟩ (.pointer none)):=((af.refl _ _).setCell _ _).setCell _ _;have e1:=bC e (n*12+4) (.pointer none);have o:=h.others (az (by omega)) f;have hp: ∀j,((s.k.put n {s.k.p n with has:=false,mem:=m,box:=X}).p j).has=true->j≠n/\(s.k.put n {s.k.p n with has:=false,mem:=m,box:=X}).p j=s.k.p j:=fun j hj=>by
  by_cases c:j=n
  ·subst c;rw[Kn.ai]at hj;cases hj
  ·exact⟨c,Kn.ao _ _ _ _ c⟩
 have pu: ∀i,us {s with k:=s.k.put n {s.k.p n with has:=false,mem:=m,box:=X}} i->us s i:=fun i hi=>by
  rcases hi with hi|⟨h1,h2,h3⟩|⟨h1,h2,h3⟩|hi|hi
  ·exact .inl hi
  ·have q:=hp _ h3;have h4:((s.k.put n {s.k.p n with has:=false,mem:=m,box:=X}).p (i-9)).has=true:=h3;rw[q.2]at h4;exact .inr (.inl ⟨h1,h2,h4⟩)
  ·have q:=hp _ h3;have h4:((s.k.put n {s.k.p n with has:=false,mem:=m,box:=X}).p (i-29)).has=true:=h3;rw[q.2]at h4;exact .inr (.inr (.inl ⟨h1,h2,h4⟩))
  ·exact .inr (.inr (.inr (.inl hi)))
  ·exact .inr (.inr (.inr (.inr hi)))
 refine⟨⟨⟨_,bC e1 _ _,by simpa using sz⟩,fun x hx=>?_,h.sp.same (o 1 (az (by omega)) (by omega)),(o 2 (az (by omega)) (by omega)).trans h.gr,h.sc.same (o 3 (az (by omega)) (by omega)),h.bk.same (o 4 (az (by omega)) (by omega)) (o 5 (az (by omega)) (by omega)),h.fi.same (o 8 (az (by omega)) (by omega)),h.fo.same (o 6 (az (by omega)) (by omega)),h.pi.same (o 7 (az (by omega)) (by omega)),
  fun j hj jh=>?_,fun j hj jh=>?_,
  fun n hn hh=>(h.tb n hn hh).same (o _ (Kn.ja hn hh) (by omega)) (fun g eg=>by have:=o _ (Kn.iT hn hh eg) (by omega);rwa [h.ro n hn hh g eg]at this),h.ro,fun i j hi hj=>h.inj i j (pu i hi) (pu j hj),fun i hi=>h.low i (pu i hi)⟩,KF.one _ (az (by omega)) f rfl pu⟩
 ·rw[Kn.vD];by_cases c5:x=n*12+5
  ·subst c5;rw[cL e1 _ _ (by simp;omega),aJ ⟨by omega,by omega⟩,show(n*12+5)%12=5 by omega];rfl
  ·rw[cC e1 _ _ _ (bQ c5)];by_cases c4:x=n*12+4
   ·subst c4;rw[cL e _ _ (by omega),aJ ⟨by omega,by omega⟩,show(n*12+4)%12=4 by omega];rfl
   ·rw[cC e _ _ _ (bQ c4),h.dC x hx];by_cases d:x<240/\x/12=n
    ·rw[aJ d];unfold Kn.kc Kn.pc Kn.dV;rw[aJ d.1,d.2,aI (show¬x%12=4 by omega),aI (show¬x%12=5 by omega),aI (show¬x%12=4 by omega),aI (show¬x%12=5 by omega)]
    ·rw[aI d]
 ·have q:=hp j jh;rw[q.2]at jh|-;exact(h.me j hj jh).same (o _ (Kn.gP hj jh) (by omega))
 ·have q:=hp j jh;rw[q.2]at jh|-;exact(h.bx j hj jh).same (o _ (Kn.iQ hj jh) (by omega))
section
variable (base : Nat) (s : St) (w : bD) (X : Nat -> Prop) (N : Nat)
theorem wU (n:Nat)(h:ak w base s)(hj:KJ X N s.k)(hN:N<=900)(hn:n<20)(hh:(s.k.p n).has=true):
  Calls Tryz.prog 148 #[.pointer (some ⟨s.A 0,0,none⟩), .int .i64 n] w fun e w'=> ∃k',e= .returned (.tuple #[])/\Kn.fL s.k n k'/\ak w' base {s with k:=k'}/\KF s w {s with k:=k'} w':=by
 have hnI:(n:Int)<20:=by omega
 have UM:=hZ (vL base s w n 0 16 h hn hh (hj.me.bG (i:=n) hn) (by obtain⟨Wy,g⟩:=hj.gr;exact g.small (by omega)));obtain⟨kb,hkb⟩:=nJ (s.A 0);have HK:=hZ hkb;have HJ:=hZ (hj.KZ hn hh 0 16);have HH:=hZ hh;have HN:=hZ hN;rw[hkb]at UM|-;clear h hj hh;go_in
 go_wp2_with fail
 refine UM.out.mono ?_;rintro e w1 ⟨rfl,k1,f1⟩;generalize aq (Kn.ym s.k n 0 16)=ev;have S1:=hZ (aK k1 f1);clear k1 f1 hN;have FD:Hid (((Kn.cN s.k n 0 16).p n).fd=(s.k.p n).fd):=hZ (Kn.Aw s.k n 0 16 n).1;obtain⟨fd,hfd⟩:=nJ ((s.k.p n).fd);have HFD:=hZ hfd;have LD:Hid (∀j,j<(kE fd).size->w1.cell? ⟨kb,n*12+6+j,none⟩=(kE fd)[j]?):=hZ (fun j hj=>by
  have q:=S1.out.1.fds hn j (by rw[FD.out,hfd];exact hj);rw[FD.out,hfd]at q;rw[<-HK.out];exact q)
 have hsz:Hid ((Tryz.prog.info? 72).map (·.size)=some (kE fd).size):=hZ (by rw[oP];kernel_rfl);clear hfd;go_wp2_with (refine jb rfl 72 _ rfl kb (n*12+6) rfl (kE fd) 6 3 LD.out (by kernel_rfl) hsz.out ?_)
 go_loopw [5,6,19] (fun _ _ i wr=> ∃(j:Nat),i= .int .i64 j/\j<=6/\Hid (ak wr base {s with k:=Kn.da (Kn.cN s.k n 0 16) n fd j}/\KF s w {s with k:=Kn.da (Kn.cN s.k n 0 16) n fd j} wr)) (fun _ _ i _=>6-(intOf i).toNat)
 case atStart=>exact⟨0,rfl,by omega,S1⟩
 case round=>
  clear S1 LD;obtain⟨j,rfl,hj6,S⟩:=hrel;have JJ:=hZ (HJ.out.da n fd j);by_cases hlt:j<6
  ·have hltI:(j:Int)<6:=by omega
   have hix:=uV fd j hlt wr;have SU:Hid (Kn.da (Kn.cN s.k n 0 16) n fd (j+1)=if fd j= -1 then Kn.da (Kn.cN s.k n 0 16) n fd j else Kn.eS (Kn.iO (Kn.da (Kn.cN s.k n 0 16) n fd j) (fd j)) n j (-1)):=hZ rfl;generalize Kn.da (Kn.cN s.k n 0 16) n fd j=kj at*;obtain⟨z,hz⟩:=nJ (fd j);rw[hz]at SU hix;clear hz;by_cases hz1:z= -1
   ·subst hz1;rw[aJ rfl]at SU;go_wp2
    go_roundw
    case rel=>exact⟨j+1,by go_num,by omega,by rw[SU.out];exact S⟩
    case measure=>simp[intOf];omega
   ·have z1:(z== -1)=false:=by simpa using hz1
    rw[aI hz1]at SU;have cF:=S.out.1.rC;rw[show({s with k:=kj}:St).A 0=kb from HK.out]at cF;have CL:=hZ (v7 (s.A 8) (s.A 6) (s.A 7) z kj.fi kj.fo kj.pi wr S.out.1.fx JJ.out.sm (fun m hm=>by have:=JJ.out.rf m hm;have:=HN.out;omega));obtain⟨f8,hf8⟩:=nJ (s.A 8);have H8:=hZ hf8;rw[show({s with k:=kj}:St).A 8=f8 from hf8]at cF;rw[hf8]at CL;clear hf8;clear hz1;go_wp2_with fail
    refine CL.out.mono ?_;rintro e w2 ⟨rfl,u2,f2⟩;generalize aq (Fx.cE kj.fi z)=ev2;have S2:Hid (ak w2 base {s with k:=Kn.iO kj z}/\KF s w {s with k:=Kn.iO kj z} w2):=hZ (by
     rw[<-H8.out]at u2 f2;have q:=S.out.1.tA u2 f2;exact⟨q.1,S.out.2.trans q.2⟩)
    clear u2 f2 cF;have c6:=S2.out.1.oN n j hn hlt;rw[show({s with k:=Kn.iO kj z}:St).A 0=kb from HK.out]at c6;have fz:=S2.out.1.frozen;rw[show({s with k:=Kn.iO kj z}:St).A 0=kb from HK.out]at fz;have S3:Hid (ak (w2.setCell ⟨kb,n*12+6+j,none⟩ (.int .i64 (-1))) base {s with k:=Kn.da (Kn.cN s.k n 0 16) n fd (j+1)}/\KF s w {s with k:=Kn.da (Kn.cN s.k n 0 16) n fd (j+1)} (w2.setCell ⟨kb,n*12+6+j,none⟩ (.int .i64 (-1)))):=hZ (by
     have q:=S2.out.1.pg hn hlt (-1);rw[show({s with k:=Kn.iO kj z}:St).A 0=kb from HK.out]at q;rw[SU.out];exact⟨q.1,S2.out.2.trans q.2⟩)
    generalize ((({s with k:=Kn.iO kj z}:St).k.p n).fd j)=zz at*;go_wp2
    go_roundw
    case rel=>exact⟨j+1,by go_num,by omega,S3⟩
    case measure=>simp[intOf];omega
  ·obtain rfl:j=6:=by omega
   have hltI: ¬((6:Nat):Int)<6:=by omega
   have SC:Hid ((Kn.da (Kn.cN s.k n 0 16) n fd 6).sc=s.k.sc):=hZ (by rw[Kn.xK,Kn.Nu]);have PH:Hid (((Kn.da (Kn.cN s.k n 0 16) n fd 6).p n).has=true):=hZ (by rw[(Kn.vM _ n fd 6 n).2.1,(Kn.Aw s.k n 0 16 n).2.1];exact HH.out);have SK:Hid (∀m',Kn.pY s.k n m'=({Kn.da (Kn.cN s.k n 0 16) n fd 6 with sc:=m'}).put n {(Kn.da (Kn.cN s.k n 0 16) n fd 6).p n with has:=false,mem:=Mv.kX,box:=Sg.fj}):=hZ (fun m'=>by unfold Kn.pY;rw[HFD.out]);generalize Kn.da (Kn.cN s.k n 0 16) n fd 6=kj at*;have cS:=S.out.1.LM;rw[show({s with k:=kj}:St).A 0=kb from HK.out]at cS;have DT:=hZ (Wf.Bc (s.A 3) kj.sc wr (n:Int) S.out.1.sc);obtain⟨f3,hf3⟩:=nJ (s.A 3);have H3:=hZ hf3;rw[show({s with k:=kj}:St).A 3=f3 from hf3]at cS;rw[hf3]at DT;clear hf3;go_wp2_with fail
   refine DT.out.mono ?_;rintro e w2 ⟨⟨E2,rfl⟩,u2,f2⟩;obtain⟨m',d2⟩: ∃m',Wf.Ha kj.sc (n:Int) m':=⟨_,rfl⟩;rw[<-d2]at u2;generalize aq E2=ev2;have S2:Hid (ak w2 base {s with k:={kj with sc:=m'}}/\KF s w {s with k:={kj with sc:=m'}} w2):=hZ (by
    rw[<-H3.out]at u2 f2;have q:=S.out.1.nX u2 f2;exact⟨q.1,S.out.2.trans q.2⟩)
   have D2:=hZ d2;clear u2 f2 d2 cS;have c4:=S2.out.1.qQ n hn PH.out;have c5:=S2.out.1.qS n hn PH.out;have fz:=S2.out.1.frozen;rw[show({s with k:={kj with sc:=m'}}:St).A 0=kb from HK.out]at c4 c5 fz;have FIN:Hid (ak ((w2.setCell ⟨kb,n*12+4,none⟩ (.pointer none)).setCell ⟨kb,n*12+5,none⟩ (.pointer none)) base {s with k:=Kn.pY s.k n m'}/\KF s w {s with k:=Kn.pY s.k n m'} ((w2.setCell ⟨kb,n*12+4,none⟩ (.pointer none)).setCell ⟨kb,n*12+5,none⟩ (.pointer none))):=hZ (by
    have q:=S2.out.1.bare hn Mv.kX Sg.fj PH.out;rw[show({s with k:={kj with sc:=m'}}:St).A 0=kb from HK.out]at q;rw[SK.out m'];exact⟨q.1,S2.out.2.trans q.2⟩)
   go_wp2_with fail
   go_end0
   exact⟨_,rfl,⟨m',by rw[<-SC.out];exact D2.out,rfl⟩,FIN.out⟩
