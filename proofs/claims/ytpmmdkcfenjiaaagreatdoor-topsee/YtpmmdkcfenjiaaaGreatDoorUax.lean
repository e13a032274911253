import Derived.Test.YtpmmdkcfenjiaaaGreatDoorUaw
import Derived.Test.YtpmmdkcfenjiaaaGreatDoorUav
set_option maxRecDepth 100000
set_option maxHeartbeats 2000000
set_option linter.unusedVariables false
set_option linter.unusedSimpArgs false
namespace Go.Proofs.YtpmmdkcfenjiaaaGreatDoor
open Value renaming int->aa,pointer->ai,tuple->ao,agg->au
open IntKind renaming i64->az,u8->bc
open Ending renaming returned->bf
open Obj renaming cells->bg
open Option renaming some->bh,none->bj
open Tryz (prog)
open Go.RowKit
open Pp (Pi)
def Pp.fS:Nat->Pi:=λ_=>Pi.no
def Pp.zA:Array Value:=((List.range 120).map λo=>if o%15<12 then aa bc 0 else aa .i64 0).toArray
theorem Pp.yH(o:Nat)(h:o<120):Pp.zA[o]? =bh (if o%15<12 then aa bc 0 else aa .i64 0):=by simp[Pp.zA,h]
theorem Pp.zeroV(w:bD):(zeroValue 122).run prog w= .ok (au Pp.zA) w:=by kernel_rfl
section
variable {ops:Array Oper}{rest:List Oper}{x:Oper}{a:Act}{w:bD}{Q:Exit->Act->bD->Prop}
theorem Pp.Kz(hgd:x.guard=bj)(ho:x.op= .build 122 #[])(h:wpList prog ops Q rest (a.put x.dst (au Pp.zA)) w):wpList prog ops Q (x::rest) a w:=
 wpList_plain hgd λ_ hK=>by
  unfold Oper.wp execOp;have hz:=Pp.zeroV w;simp only[ho];simp[go_sem,hz];exact hK _ _ h
end
theorem dH.zero{w:bD}{b:Nat}{T:TypeId}(h:w.heap[b]? =bh (bg Pp.zA T (0,0))):dH w b Pp.fS:=by
 refine⟨⟨_,T,h,by simp[Pp.zA]⟩,λn hn j v hv=>?_,λn hn=>?_,λn hn=>?_,λn hn=>?_,λn hn=>aC _⟩
 .exact aZ (Pp.ow hv) (by show¬j<0;omega)
 .rw[bO h,Pp.yH _ bu,nJ];rfl
 .rw[bO h,Pp.yH _ bu,nJ];rfl
 .rw[bO h,Pp.yH _ bu,nJ];rfl
theorem D6(w:bD):dH (w.alloc (bg Pp.zA 122)) w.heap.size Pp.fS/\Below w.heap.size w (w.alloc (bg Pp.zA 122)):=by
 exact⟨dH.zero (heap_alloc_new w _),(aQ _ _).alloc (aL _) _⟩
open Fx (Fi)
open Tr (Fo Nd)
def Fx.hit(x:Fi)(k m:Nat):Nat:=if x.refs≠0/\x.kind=k/\x.num=m then 1 else 0
def Fx.cK(T:Nat->Fi)(k m:Nat):Nat->Nat
 |0=>0
 |n+1=>Fx.cK T k m n+Fx.hit (T n) k m
theorem Fx.IA(T:Nat->Fi)(n:Nat)(x:Fi)(k m:Nat):∀N,Fx.cK (Fx.put T n x) k m N+(if n<N then Fx.hit (T n) k m else 0)=Fx.cK T k m N+(if n<N then Fx.hit x k m else 0)
 |0=>by rw[aI (Nat.not_lt_zero n),aI (Nat.not_lt_zero n)];rfl
 |N+1=>by
  have ih:=Fx.IA T n x k m N;show Fx.cK (Fx.put T n x) k m N+Fx.hit (Fx.put T n x N) k m+_=Fx.cK T k m N+Fx.hit (T N) k m+_;by_cases c:N=n
  .subst c;rw[Fx.bF,aJ (Nat.lt_succ_self N),aJ (Nat.lt_succ_self N)];rw[aI (bV N),aI (bV N)]at ih;omega
  .rw[Fx.bM _ _ _ _ c];by_cases d:n<N
   .rw[nK,nK];rw[aJ d,aJ d]at ih;omega
   .rw[nJ,nJ];rw[aI d,aI d]at ih;omega
theorem Fx.xB(T:Nat->Fi){n:Nat}(x:Fi)(k m:Nat)(hn:n<24):Fx.cK (Fx.put T n x) k m 24+Fx.hit (T n) k m=Fx.cK T k m 24+Fx.hit x k m:=by
 have:=Fx.IA T n x k m 24;rw[aJ hn,aJ hn]at this;exact this
theorem Fx.Q4(x:Fi)(k m:Nat):Fx.hit x k m<=1:=by unfold Fx.hit;split<;>omega
theorem Fx.Q6(k m:Nat):Fx.hit Fi.no k m=0:=aI (λd=>d.1 rfl)
theorem Fx.wa{x:Fi}(h:x.refs=0)(k m:Nat):Fx.hit x k m=0:=aI (λd=>d.1 h)
theorem Fx.mj{x:Fi}(h:x.refs≠0):Fx.hit x x.kind x.num=1:=aJ ⟨h,rfl,rfl⟩
theorem Fx.LU{x y:Fi}(h1:x.refs≠0)(h2:y.refs≠0)(hk:x.kind=y.kind)(hn:x.num=y.num)(k m:Nat):Fx.hit x k m=Fx.hit y k m:=by
 unfold Fx.hit;rw[hk,hn];by_cases c:y.kind=k/\y.num=m
 .rw[aJ ⟨h1,c⟩,aJ ⟨h2,c⟩]
 .rw[aI (λd=>c d.2),aI (λd=>c d.2)]
theorem Fx.qz{T:Nat->Fi}{k m:Nat}:∀{N n:Nat},n<N->Fx.hit (T n) k m<=Fx.cK T k m N
 |0,n,h=>aZ h (Nat.not_lt_zero n)
 |N+1,n,h=>by
  show _<=Fx.cK T k m N+Fx.hit (T N) k m;by_cases c:n=N
  .subst c;omega
  .have:=Fx.qz (T:=T) (k:=k) (m:=m) (N:=N) (n:=n) bu;omega
theorem Fx.sf(T:Nat->Fi)(k m:Nat):∀N,Fx.cK T k m N<=N
 |0=>aL 0
 |N+1=>by
  have:=Fx.sf T k m N;have:=Fx.Q4 (T N) k m;show Fx.cK T k m N+Fx.hit (T N) k m<=N+1;omega
structure WX (xx:Nat->Nat)(T:Nat->Fi)(F:Fo)(S:Nat->Pi):Prop where
 no:∀n,n<24->(T n).refs=0->T n=Fi.no
 kd:∀n,n<24->(T n).refs≠0->(T n).kind=1\/(T n).kind=2\/(T n).kind=3
 nd:∀n,n<24->(T n).refs≠0->(T n).kind=1->(T n).num<40/\(F.nd (T n).num).kind=1
 pn:∀n,n<24->(T n).refs≠0->(T n).kind≠1->(T n).num<8
 ps:∀n,n<24->(T n).pos<=40
 hl:∀m,m<40->(F.nd m).held=Fx.cK T 1 m 24+xx m
 z0:∀m,m<40->(F.nd m).kind=0->(F.nd m).held=0
 rd:∀m,m<8->(S m).reads=Fx.cK T 2 m 24
 wt:∀m,m<8->(S m).writes=Fx.cK T 3 m 24
section
variable {xx:Nat->Nat}{T:Nat->Fi}{F G:Fo}{S:Nat->Pi}
theorem WX.sm(h:WX xx T F S)(hx:∀m,m<40->xx m<=600):Fx.Sm F S:=by
 refine⟨λn hn=>?_,λwr n hn=>?_⟩
 .rw[h.hl n hn];have:=Fx.sf T 1 n 24;have:=hx n hn;omega
 .unfold Pp.jX;cases wr
  .show(S n).reads<_;rw[h.rd n hn];have:=Fx.sf T 2 n 24;omega
  .show(S n).writes<_;rw[h.wt n hn];have:=Fx.sf T 3 n 24;omega
theorem WX.pz(h:WX xx T F S):Fx.Pz T:=λn hn=>by
 have p:40<2^60:=by decide
 have:=h.ps n hn;omega
theorem WX.letE(h:WX xx T F S){n:Nat}(hn:n<24)(r:(T n).refs≠0)(k:(T n).kind=1):Tr.letE F ((T n).num:Int)=0:=by
 obtain⟨a,b⟩:=h.nd n hn r k;have c:=h.hl _ a;have d:=Fx.qz (T:=T) (k:=1) (m:=(T n).num) hn;have e:=Fx.mj r;rw[k]at e;have z:Tr.cA F ((T n).num:Int)=0:=by
  unfold Tr.cA;grind
 unfold Tr.letE;rw[aJ z,hZ,nJ]
theorem WX.gW(h:WX xx T F S){n:Nat}(hn:n<24)(r:(T n).refs≠0)(k:(T n).kind≠1):Pp.gW S ((T n).num:Int) (decide ((T n).kind=3))=0:=by
 have a:=h.pn n hn r k;have e:=Fx.mj r;have tm:Pp.jX (S (T n).num) (decide ((T n).kind=3))≠0:=by
  rcases h.kd n hn r with c|c|c
  .exact aZ c k
  .rw[c];show(S (T n).num).reads≠0;rw[h.rd _ a];have d:=Fx.qz (T:=T) (k:=2) (m:=(T n).num) hn;rw[c]at e;omega
  .rw[c];show(S (T n).num).writes≠0;rw[h.wt _ a];have d:=Fx.qz (T:=T) (k:=3) (m:=(T n).num) hn;rw[c]at e;omega
 have th:Pp.lC (S (T n).num)=true:=by
  apply aO;unfold Pp.jX at tm;grind
 have z:Pp.jA S ((T n).num:Int)=0:=by
  unfold Pp.jA;rw[hZ,nJ,aJ th]
 unfold Pp.gW;rw[z,aI (λd=>d rfl),hZ,aI tm]
theorem WX.ry(h:WX xx T F S)(hh:∀m,m<40->(G.nd m).held=(F.nd m).held)(hk:∀m,m<40->(F.nd m).held≠0->(G.nd m).kind=(F.nd m).kind)(hz:∀m,m<40->(G.nd m).kind=0->(G.nd m).held=0):WX xx T G S:=by
 refine⟨h.no,h.kd,λn hn r k=>?_,h.pn,h.ps,λm hm=>(hh m hm).trans (h.hl m hm),hz,h.rd,h.wt⟩;obtain⟨a,b⟩:=h.nd n hn r k;refine⟨a,?_⟩;rw[hk _ a ?_]
 .exact b
 .rw[h.hl _ a];have d:=Fx.qz (T:=T) (k:=1) (m:=(T n).num) hn;have e:=Fx.mj r;rw[k]at e;omega
theorem WX.Oj(h:WX xx T F S){R:Nat->Pi}(h1:∀m,m<8->(R m).reads=(S m).reads/\(R m).writes=(S m).writes):WX xx T F R:=
 ⟨h.no,h.kd,h.nd,h.pn,h.ps,h.hl,h.z0,λm hm=>(h1 m hm).1.trans (h.rd m hm),λm hm=>(h1 m hm).2.trans (h.wt m hm)⟩
theorem WX.jU(h:WX xx T F S){n:Nat}(hn:n<24)(r:(T n).refs≠0)(x:Fi)(h1:x.refs≠0)(h2:x.kind=(T n).kind)(h3:x.num=(T n).num)(h4:x.pos<=40):WX xx (Fx.put T n x) F S:=by
 have cc:∀k m,Fx.cK (Fx.put T n x) k m 24=Fx.cK T k m 24:=λk m=>by
  have:=Fx.xB T x k m hn;rw[Fx.LU h1 r h2 h3]at this;omega
 refine⟨λm hm e=>?_,λm hm e=>?_,λm hm e k=>?_,λm hm e k=>?_,λm hm=>?_,λm hm=>by rw[cc 1 m];exact h.hl m hm,h.z0,λm hm=>(h.rd m hm).trans (cc 2 m).symm,λm hm=>(h.wt m hm).trans (cc 3 m).symm⟩
 .by_cases c:m=n
  .subst c;rw[Fx.bF]at e;exact aZ e h1
  .rw[Fx.bM _ _ _ _ c]at e|-;exact h.no m hm e
 .by_cases c:m=n
  .subst c;rw[Fx.bF,h2];exact h.kd m hm r
  .rw[Fx.bM _ _ _ _ c]at e|-;exact h.kd m hm e
 .by_cases c:m=n
  .subst c;rw[Fx.bF]at k|-;rw[h3];exact h.nd m hm r (by rw[<-h2];exact k)
  .rw[Fx.bM _ _ _ _ c]at e k|-;exact h.nd m hm e k
 .by_cases c:m=n
  .subst c;rw[Fx.bF]at k|-;rw[h3];exact h.pn m hm r (by rw[<-h2];exact k)
  .rw[Fx.bM _ _ _ _ c]at e k|-;exact h.pn m hm e k
 .by_cases c:m=n
  .subst c;rw[Fx.bF];exact h4
  .rw[Fx.bM _ _ _ _ c];exact h.ps m hm
theorem WX.node(h:WX xx T F S){K z:Nat}{wr:Bool}(hl:Fx.ti T K)(hz:Tr.cD F (z:Int) 1=0):WX xx (Fx.put T K ⟨1,z,wr,0,1⟩) (Tr.dB F (z:Int)) S:=by
 obtain⟨n,e,n40,_,k1⟩:=Tr.eZ hz;obtain rfl:z=n:=bu
 have ne:Tr.cA F (z:Int)=0:=by
  unfold Tr.cA;rw[hZ,nJ,nJ]
 have eh:Tr.dB F (z:Int)=F.put z {F.nd z with held:=(F.nd z).held+1}:=by unfold Tr.dB;rw[aJ ne,hZ]
 have cc:∀k m,Fx.cK (Fx.put T K ⟨1,z,wr,0,1⟩) k m 24=Fx.cK T k m 24+if k=1/\m=z then 1 else 0:=λk m=>by
  have:=Fx.xB T ⟨1,z,wr,0,1⟩ k m hl.1;rw[Fx.wa hl.2.1]at this;have e2:Fx.hit ⟨1,z,wr,0,1⟩ k m=if k=1/\m=z then 1 else 0:=by
   unfold Fx.hit;grind
  omega
 have kk:∀m,((F.put z {F.nd z with held:=(F.nd z).held+1}).nd m).kind=(F.nd m).kind:=λm=>by
  by_cases c:m=z
  .subst c;rw[Tr.bF]
  .rw[Tr.bM _ _ _ _ c]
 rw[eh];refine⟨λm hm e=>?_,λm hm e=>?_,λm hm e k=>?_,λm hm e k=>?_,λm hm=>?_,λm hm=>?_,λm hm e=>?_,λm hm=>?_,λm hm=>?_⟩
 .by_cases c:m=K
  .subst c;rw[Fx.bF]at e;exact aZ e (Nat.succ_ne_zero 0)
  .rw[Fx.bM _ _ _ _ c]at e|-;exact h.no m hm e
 .by_cases c:m=K
  .subst c;rw[Fx.bF];exact .inl rfl
  .rw[Fx.bM _ _ _ _ c]at e|-;exact h.kd m hm e
 .rw[kk];by_cases c:m=K
  .subst c;rw[Fx.bF];exact⟨n40,k1⟩
  .rw[Fx.bM _ _ _ _ c]at e k|-;exact h.nd m hm e k
 .by_cases c:m=K
  .subst c;rw[Fx.bF]at k;exact aZ rfl k
  .rw[Fx.bM _ _ _ _ c]at e k|-;exact h.pn m hm e k
 .by_cases c:m=K
  .subst c;rw[Fx.bF];exact aC _
  .rw[Fx.bM _ _ _ _ c];exact h.ps m hm
 .rw[cc];by_cases c:m=z
  .subst c;rw[Tr.bF,aJ ⟨rfl,rfl⟩];show(F.nd m).held+1=_;rw[h.hl m hm];omega
  .rw[Tr.bM _ _ _ _ c,aI (λd=>c d.2)];exact h.hl m hm
 .rw[kk]at e;by_cases c:m=z
  .subst c;omega
  .rw[Tr.bM _ _ _ _ c];exact h.z0 m hm e
 .rw[cc,aI (λd=>aZ d.1 bA)];exact h.rd m hm
 .rw[cc,aI (λd=>aZ d.1 bA)];exact h.wt m hm
theorem WX.gone(h:WX xx T F S){n:Nat}(hn:n<24)(r:(T n).refs≠0):WX xx (Fx.put T n Fi.no) (Fx.tP F (T n)) (Fx.vK S (T n)):=by
 have cc:∀k m,Fx.cK (Fx.put T n Fi.no) k m 24+Fx.hit (T n) k m=Fx.cK T k m 24:=λk m=>by
  have:=Fx.xB T Fi.no k m hn;rw[Fx.Q6]at this;omega
 have no:∀m,m<24->(Fx.put T n Fi.no m).refs=0->Fx.put T n Fi.no m=Fi.no:=λm hm e=>by
  by_cases c:m=n
  .subst c;rw[Fx.bF]
  .rw[Fx.bM _ _ _ _ c]at e|-;exact h.no m hm e
 have up:∀m,m<24->(Fx.put T n Fi.no m).refs≠0->m≠n/\Fx.put T n Fi.no m=T m:=λm hm e=>by
  by_cases c:m=n
  .subst c;rw[Fx.bF]at e;exact aZ rfl e
  .exact⟨c,Fx.bM _ _ _ _ c⟩
 have ps:∀m,m<24->(Fx.put T n Fi.no m).pos<=40:=λm hm=>by
  by_cases c:m=n
  .subst c;rw[Fx.bF];exact aC _
  .rw[Fx.bM _ _ _ _ c];exact h.ps m hm
 by_cases k:(T n).kind=1
 .obtain⟨a,b⟩:=h.nd n hn r k;have le:=h.letE hn r k;have h1:=Fx.mj r;rw[k]at h1;have fT:∀m q,q≠1\/m≠(T n).num->Fx.cK (Fx.put T n Fi.no) q m 24=Fx.cK T q m 24:=λm q d=>by
   have:=cc q m;have e0:Fx.hit (T n) q m=0:=aI (λe=>by
    rcases d with d|d
    .exact d (by rw[<-e.2.1,k])
    .exact d e.2.2.symm)
   omega
  have own:=cc 1 (T n).num;have e1:Fx.tP F (T n)=Tr.dq F ((T n).num:Int):=aJ k;have e2:Fx.vK S (T n)=S:=aJ k;rw[e1,e2];generalize hm0:(T n).num=m0 at*;have hl0:=h.hl m0 a;have eT:Tr.dq F (m0:Int)=Tr.lB (F.put m0 {F.nd m0 with held:=(F.nd m0).held-1}) m0:=by unfold Tr.dq;rw[aJ le,hZ]
  rw[eT];by_cases sw:(F.nd m0).cJ=0/\(F.nd m0).held-1=0
  .rw[Tr.Fq (by rw[Tr.bF];exact sw)];have nd:∀q,q≠m0->(((F.put m0 {F.nd m0 with held:=(F.nd m0).held-1}).put m0 Nd.no).nd q)=F.nd q:=λq hq=>by rw[Tr.bM _ _ _ _ hq,Tr.bM _ _ _ _ hq]
   refine⟨no,λm hm e=>?_,λm hm e k2=>?_,λm hm e k2=>?_,ps,λm hm=>?_,λm hm e=>?_,λm hm=>?_,λm hm=>?_⟩
   .have y:=(up m hm e).2;rw[y]at e|-;exact h.kd m hm e
   .obtain⟨x,y⟩:=up m hm e;rw[y]at e k2|-;obtain⟨p,q⟩:=h.nd m hm e k2;refine⟨p,?_⟩;by_cases c:(T m).num=m0
    .exfalso;have g:=Fx.qz (T:=Fx.put T n Fi.no) (k:=1) (m:=m0) hm;rw[y]at g;have g2:=Fx.mj e;rw[k2,c]at g2;omega
    .rw[nd _ c];exact q
   .have y:=(up m hm e).2;rw[y]at e k2|-;exact h.pn m hm e k2
   .by_cases c:m=m0
    .subst c;rw[Tr.bF];show 0=_;omega
    .rw[nd _ c,fT m 1 (.inr c)];exact h.hl m hm
   .by_cases c:m=m0
    .subst c;rw[Tr.bF];rfl
    .rw[nd _ c]at e|-;exact h.z0 m hm e
   .rw[fT m 2 (.inl bA)];exact h.rd m hm
   .rw[fT m 3 (.inl bA)];exact h.wt m hm
  .rw[Tr.Dd (by rw[Tr.bF];exact sw)];refine⟨no,λm hm e=>?_,λm hm e k2=>?_,λm hm e k2=>?_,ps,λm hm=>?_,λm hm e=>?_,λm hm=>?_,λm hm=>?_⟩
   .have y:=(up m hm e).2;rw[y]at e|-;exact h.kd m hm e
   .obtain⟨x,y⟩:=up m hm e;rw[y]at e k2|-;obtain⟨p,q⟩:=h.nd m hm e k2;refine⟨p,?_⟩;by_cases c:(T m).num=m0
    .rw[c,Tr.bF];exact b
    .rw[Tr.bM _ _ _ _ c];exact q
   .have y:=(up m hm e).2;rw[y]at e k2|-;exact h.pn m hm e k2
   .by_cases c:m=m0
    .subst c;rw[Tr.bF];show(F.nd m).held-1=_;omega
    .rw[Tr.bM _ _ _ _ c,fT m 1 (.inr c)];exact h.hl m hm
   .by_cases c:m=m0
    .subst c;rw[Tr.bF]at e;grind
    .rw[Tr.bM _ _ _ _ c]at e|-;exact h.z0 m hm e
   .rw[fT m 2 (.inl bA)];exact h.rd m hm
   .rw[fT m 3 (.inl bA)];exact h.wt m hm
 .have a:=h.pn n hn r k;have oe:=h.gW hn r k;have h1:=Fx.mj r;have fT:∀m q,q≠(T n).kind\/m≠(T n).num->Fx.cK (Fx.put T n Fi.no) q m 24=Fx.cK T q m 24:=λm q d=>by
   have:=cc q m;have e0:Fx.hit (T n) q m=0:=aI (λe=>by
    rcases d with d|d
    .exact d e.2.1.symm
    .exact d e.2.2.symm)
   omega
  have own:=cc (T n).kind (T n).num;have e1:Fx.tP F (T n)=F:=aI k;have e2:Fx.vK S (T n)=Pp.pJ S ((T n).num:Int) (decide ((T n).kind=3)):=aI k;have hk:=h.kd n hn r;rw[e1,e2];have eD:Pp.pJ S ((T n).num:Int) (decide ((T n).kind=3))=Pp.put S (T n).num (Pp.less (S (T n).num) (decide ((T n).kind=3))):=by unfold Pp.pJ;rw[aJ oe,hZ]
  have rl:=h.rd _ a;have wl:=h.wt _ a;rw[eD];have less:∀x:Pi,∀wr,(Pp.less x wr).reads=(Pp.lJ x wr (Pp.jX x wr-1)).reads/\(Pp.less x wr).writes=(Pp.lJ x wr (Pp.jX x wr-1)).writes:=λx wr=>by
   unfold Pp.less;split
   .exact⟨rfl,rfl⟩
   .rename_i c;have:Pp.lC (Pp.lJ x wr (Pp.jX x wr-1))=false:=by simpa using c
    have:=of_decide_eq_false this;exact⟨by show 0=_;omega,by show 0=_;omega⟩
  refine⟨no,λm hm e=>?_,λm hm e k2=>?_,λm hm e k2=>?_,ps,λm hm=>?_,h.z0,λm hm=>?_,λm hm=>?_⟩
  .have y:=(up m hm e).2;rw[y]at e|-;exact h.kd m hm e
  .have y:=(up m hm e).2;rw[y]at e k2|-;exact h.nd m hm e k2
  .have y:=(up m hm e).2;rw[y]at e k2|-;exact h.pn m hm e k2
  .rw[fT m 1 (.inl (λd=>k d.symm))];exact h.hl m hm
  .by_cases c:m=(T n).num
   .rw[c,Pp.bF,(less _ _).1];rcases hk with d|d|d
    .exact aZ d k
    .rw[d]at own h1|-;show(S (T n).num).reads-1=_;omega
    .rw[fT _ 2 (.inl bu)];rw[d];exact rl
   .rw[Pp.bM _ _ _ _ c,fT m 2 (.inr c)];exact h.rd m hm
  .by_cases c:m=(T n).num
   .rw[c,Pp.bF,(less _ _).2];rcases hk with d|d|d
    .exact aZ d k
    .rw[fT _ 3 (.inl bu)];rw[d];exact wl
    .rw[d]at own h1|-;show(S (T n).num).writes-1=_;omega
   .rw[Pp.bM _ _ _ _ c,fT m 3 (.inr c)];exact h.wt m hm
end
section
variable {xx:Nat->Nat}{T:Nat->Fi}{F G:Fo}{S:Nat->Pi}
theorem WX.entry(h:WX xx T F S){K q n:Nat}{R:Nat->Pi}(hl:Fx.ti T K)(hq:q=2\/q=3)(n8:n<8)(h2:∀m,m<8->(R m).reads=(S m).reads+if q=2/\m=n then 1 else 0)(h3:∀m,m<8->(R m).writes=(S m).writes+if q=3/\m=n then 1 else 0):WX xx (Fx.put T K ⟨q,n,false,0,1⟩) F R:=by
 have cc:∀k m,Fx.cK (Fx.put T K ⟨q,n,false,0,1⟩) k m 24=Fx.cK T k m 24+if k=q/\m=n then 1 else 0:=λk m=>by
  have:=Fx.xB T ⟨q,n,false,0,1⟩ k m hl.1;rw[Fx.wa hl.2.1]at this;grind [Fx.cK,Fx.xB,Fx.wa,Fx.hit]
 refine⟨λm hm e=>?_,λm hm e=>?_,λm hm e k=>?_,λm hm e k=>?_,λm hm=>?_,λm hm=>?_,h.z0,λm hm=>?_,λm hm=>?_⟩
 .by_cases c:m=K
  .subst c;rw[Fx.bF]at e;exact aZ e (Nat.succ_ne_zero 0)
  .rw[Fx.bM _ _ _ _ c]at e|-;exact h.no m hm e
 .by_cases c:m=K
  .subst c;rw[Fx.bF];exact .inr hq
  .rw[Fx.bM _ _ _ _ c]at e|-;exact h.kd m hm e
 .by_cases c:m=K
  .subst c;rw[Fx.bF]at k;have:q=1:=k;omega
  .rw[Fx.bM _ _ _ _ c]at e k|-;exact h.nd m hm e k
 .by_cases c:m=K
  .subst c;rw[Fx.bF];exact n8
  .rw[Fx.bM _ _ _ _ c]at e k|-;exact h.pn m hm e k
 .by_cases c:m=K
  .subst c;rw[Fx.bF];exact aC _
  .rw[Fx.bM _ _ _ _ c];exact h.ps m hm
 .rw[cc,nJ];exact h.hl m hm
 .rw[cc,h2 m hm,h.rd m hm];by_cases c:q=2/\m=n
  .rw[aJ c,aJ ⟨c.1.symm,c.2⟩]
  .rw[aI c,aI (λd=>c ⟨d.1.symm,d.2⟩)]
 .rw[cc,h3 m hm,h.wt m hm];by_cases c:q=3/\m=n
  .rw[aJ c,aJ ⟨c.1.symm,c.2⟩]
  .rw[aI c,aI (λd=>c ⟨d.1.symm,d.2⟩)]
theorem WX.pipe(h:WX xx T F S){a c n:Nat}(hf:Pp.gq S n 0)(h1:Fx.ti T a)(h2:Fx.ti (Fx.put T a ⟨2,n,false,0,1⟩) c):WX xx (Fx.put (Fx.put T a ⟨2,n,false,0,1⟩) c ⟨3,n,false,0,1⟩) F (Pp.jz S n 0):=by
 have n8:n<8/\Pp.lC (S n)=false:=by
  rcases hf with⟨_,x,y,_⟩|⟨x,_⟩
  .exact⟨x,y⟩
  omega
 have z:(S n).reads=0/\(S n).writes=0:=by
  have:=n8.2;have:=of_decide_eq_false this;omega
 have eM:Pp.jz S n 0=Pp.put S n ⟨⟨#[]⟩,1,1⟩:=aJ rfl;rw[eM];have s1:=h.entry (q:=2) (R:=Pp.put S n ⟨⟨#[]⟩,1,0⟩) h1 (.inl rfl) n8.1 (λm hm=>by
  by_cases d:m=n
  .subst d;rw[Pp.bF,aJ ⟨rfl,rfl⟩,z.1]
  .rw[Pp.bM _ _ _ _ d,aI (λe=>d e.2)];rfl) (λm hm=>by
  rw[aI (λe=>aZ e.1 bA)];by_cases d:m=n
  .subst d;rw[Pp.bF,z.2]
  .rw[Pp.bM _ _ _ _ d];rfl)
 refine s1.entry (q:=3) h2 (.inr rfl) n8.1 (λm hm=>?_) (λm hm=>?_)
 .rw[aI (λe=>aZ e.1 bA)];by_cases d:m=n
  .subst d;rw[Pp.bF,Pp.bF]
  .rw[Pp.bM _ _ _ _ d,Pp.bM _ _ _ _ d];rfl
 .by_cases d:m=n
  .subst d;rw[Pp.bF,Pp.bF,aJ ⟨rfl,rfl⟩]
  .rw[Pp.bM _ _ _ _ d,Pp.bM _ _ _ _ d,aI (λe=>d e.2)];rfl
theorem WX.Jy{n k:Nat}{s:bU}(F:Fo)(m:Nat):((Tr.km F n s k).nd m).held=(F.nd m).held/\((Tr.km F n s k).nd m).kind=(F.nd m).kind:=by
 have one:∀m,((F.put n (Tr.iF (F.nd n) s k)).nd m).held=(F.nd m).held/\((F.put n (Tr.iF (F.nd n) s k)).nd m).kind=(F.nd m).kind:=λm=>by
  by_cases c:m=n
  .subst c;rw[Tr.bF];exact⟨rfl,rfl⟩
  .rw[Tr.bM _ _ _ _ c];exact⟨rfl,rfl⟩
 unfold Tr.km;split
 .by_cases c:m=k
  .subst c;rw[Tr.bF];exact one m
  .rw[Tr.bM _ _ _ _ c];exact one m
 .exact one m
theorem WX.Rq(h:WX xx T F S){z kz E:Int}{s:bU}{K:Nat}(hm:Tr.rW F z s kz K E G):WX xx T G S:=by
 rcases hm with⟨_,_,_,_,rfl⟩|⟨kk,e,_,⟨_,_,_,rfl⟩|⟨_,k,e2,hf,⟨_,_,_,rfl⟩|⟨e0,_,_,rfl⟩⟩⟩
 .exact h
 .exact h
 .exact h
 .obtain⟨k40,k0⟩:k<40/\(F.nd k).kind=0:=by
   rcases hf with⟨_,x,y,_⟩|⟨x,_⟩
   .exact⟨x,y⟩
   .omega
  have hk:=h.z0 k k40 k0;have kz0:kz.toNat≠0:=bu
  have cut:∀m,((Tr.jz F z.toNat s kz.toNat k).nd m).held=(F.nd m).held/\(((Tr.jz F z.toNat s kz.toNat k).nd m).kind=if m=k then kz.toNat else(F.nd m).kind):=λm=>by
   unfold Tr.jz;obtain⟨x,y⟩:=WX.Jy (n:=z.toNat) (k:=k) (s:=s) (F.put k (eR kz.toNat (F.nd z.toNat).tree 0)) m;rw[x,y];by_cases c:m=k
   .subst c;rw[Tr.bF,aJ rfl];exact⟨hk.symm,rfl⟩
   .rw[Tr.bM _ _ _ _ c,aI c];exact⟨rfl,rfl⟩
  refine h.ry (λm _=>(cut m).1) (λm hm hh=>?_) (λm hm e=>?_)
  .rw[(cut m).2,aI (λc=>by subst c;exact hh hk)]
  .rw[(cut m).2]at e;rw[(cut m).1];by_cases c:m=k
   .rw[aJ c]at e;exact aZ e kz0
   .rw[aI c]at e;exact h.z0 m hm e
theorem WX.rem(h:WX xx T F S){z E:Int}{s:bU}(hm:Tr.xk F z s E G):WX xx T G S:=by
 obtain⟨K,e,_,⟨_,_,rfl⟩|⟨_,⟨_,_,_,rfl⟩|⟨_,_,i,_,rfl⟩⟩⟩:=hm
 .exact h
 .exact h
 .have one:∀m,(((F.put z.toNat (Tr.eE (F.nd z.toNat) i)).put K {(F.put z.toNat (Tr.eE (F.nd z.toNat) i)).nd K with cJ:=(F.nd K).cJ-1}).nd m).held=(F.nd m).held/\(((F.put z.toNat (Tr.eE (F.nd z.toNat) i)).put K {(F.put z.toNat (Tr.eE (F.nd z.toNat) i)).nd K with cJ:=(F.nd K).cJ-1}).nd m).kind=(F.nd m).kind:=λm=>by
   have two:((F.put z.toNat (Tr.eE (F.nd z.toNat) i)).nd m).held=(F.nd m).held/\((F.put z.toNat (Tr.eE (F.nd z.toNat) i)).nd m).kind=(F.nd m).kind:=by
    by_cases c:m=z.toNat
    .subst c;rw[Tr.bF];exact⟨rfl,rfl⟩
    .rw[Tr.bM _ _ _ _ c];exact⟨rfl,rfl⟩
   by_cases c:m=K
   .subst c;rw[Tr.bF];exact two
   .rw[Tr.bM _ _ _ _ c];exact two
  unfold Tr.wC Tr.lB;split
  .rename_i c;refine h.ry (λm hm=>?_) (λm hm hh=>?_) (λm hm e=>?_)
   .by_cases d:m=K
    .subst d;rw[Tr.bF,<-(one m).1,c.2];rfl
    .rw[Tr.bM _ _ _ _ d];exact(one m).1
   .by_cases d:m=K
    .subst d;rw[<-(one m).1]at hh;exact aZ c.2 hh
    .rw[Tr.bM _ _ _ _ d];exact(one m).2
   .by_cases d:m=K
    .subst d;rw[Tr.bF];rfl
    .rw[Tr.bM _ _ _ _ d]at e|-;rw[(one m).2]at e;rw[(one m).1];exact h.z0 m hm e
  .refine h.ry (λm hm=>(one m).1) (λm hm _=>(one m).2) (λm hm e=>?_);rw[(one m).2]at e;rw[(one m).1];exact h.z0 m hm e
theorem WX.Dy(h:WX xx T F S)(z a:Int)(s:bU):WX xx T (Tr.eA F z a s) S:=by
 unfold Tr.eA;split
 .have one:∀m,((F.put z.toNat (Tr.zC (F.nd z.toNat) a.toNat s)).nd m).held=(F.nd m).held/\((F.put z.toNat (Tr.zC (F.nd z.toNat) a.toNat s)).nd m).kind=(F.nd m).kind:=λm=>by
   by_cases c:m=z.toNat
   .subst c;rw[Tr.bF];exact⟨rfl,rfl⟩
   .rw[Tr.bM _ _ _ _ c];exact⟨rfl,rfl⟩
  refine h.ry (λm hm=>(one m).1) (λm hm _=>(one m).2) (λm hm e=>?_);rw[(one m).2]at e;rw[(one m).1];exact h.z0 m hm e
 .exact h
theorem WX.RJ(h:WX xx T F S)(z m:Int):WX xx T F (Pp.nM S z m):=by
 unfold Pp.nM;split
 .refine h.Oj (λq hq=>?_);by_cases c:q=z.toNat
  .subst c;rw[Pp.bF];exact⟨rfl,rfl⟩
  .rw[Pp.bM _ _ _ _ c];exact⟨rfl,rfl⟩
 .exact h
theorem WX.TZ(h:WX xx T F S)(z:Int)(s:bU):WX xx T F (Pp.eA S z s):=by
 unfold Pp.eA;split
 .refine h.Oj (λq hq=>?_);by_cases c:q=z.toNat
  .subst c;rw[Pp.bF];exact⟨rfl,rfl⟩
  .rw[Pp.bM _ _ _ _ c];exact⟨rfl,rfl⟩
 .exact h
end
open Mo (Wh Mt)
open Mv (Me Bk)
open Sg (S1)
open Kn (Pr Kp St us KB)
namespace Kn
def kv(k:Kp)(m:Nat):Nat->Nat
 |0=>0
 |s+1=>kv k m s+if k.ht s=true then Mo.tc (k.tb s) m else 0
def jq(k:Kp)(m:Nat):Nat:=kv k m 6
structure KJ (X:Nat->Prop)(N:Nat)(k:Kp):Prop where
 sp:∃d,Sp.Inv k.sp d
 gr:∃Wy,Gr.Tree k.gr Wy N
 me:Mv.fP k.bk 20 (λn=>(k.p n).mem)
 wx:WX (jq k) k.fi k.fo k.pi
 rf:∀n,n<24->(k.fi n).refs<=8*N
 ok:Tr.Ok k.fo
 tb:∀s,s<6->k.ht s=true->Mo.Rg (k.tb s)/\(k.tb s).ms.length<=6
 st:∀n,n<20->(k.p n).st<=2
 hs:∀n,n<20->(k.p n).has=true->(k.p n).st=1
 lv:∀n,n<20->¬X n->(k.p n).st=1->(k.p n).has=true
 of:∀n,n<20->(k.sp.of n≠0↔(k.p n).st≠0)
 ht:∀s,s<6->k.ht s=k.sp.here s
 nm:∀n,n<20->(k.p n).has=false->(k.p n).mem=Mv.lQ
theorem Fs{k:Kp}(h:∀s,s<6->k.ht s=true->Mo.Rg (k.tb s)/\(k.tb s).ms.length<=6)(m:Nat):∀s,s<=6->kv k m s<=13*s
 |0,_=>aL 0
 |s+1,hs=>by
  have ih:=Fs h m s bu;show kv k m s+_<=_;by_cases c:k.ht s=true
  .rw[aJ c];have:=Mo.Tc (k.tb s) (h s bu c).2 m;omega
  .rw[aI c];omega
section
variable {X:Nat->Prop}{N:Nat}{k:Kp}
theorem KJ.tx(h:KJ X N k)(m:Nat):jq k m<=78:=Fs h.tb m 6 (aL _)
theorem KJ.sm(h:KJ X N k):Fx.Sm k.fo k.pi:=h.wx.sm (λm _=>by have:=h.tx m;omega)
theorem KJ.hb(h:KJ X N k):Tr.Hb k.fo 102:=λn hn=>by
 rw[h.wx.hl n hn];have:=Fx.sf k.fi 1 n 24;have:=h.tx n;omega
theorem KJ.mono(h:KJ X N k){Y:Nat->Prop}{M:Nat}(hX:∀n,n<20->X n->Y n)(hM:N<=M):KJ Y M k:=
 ⟨h.sp,(by obtain⟨Wy,g⟩:=h.gr;exact⟨Wy,g.mono hM⟩),h.me,h.wx,λn hn=>by have:=h.rf n hn;omega,h.ok,h.tb,h.st,h.hs,λn hn hx=>h.lv n hn (λc=>hx (hX n hn c)),h.of,h.ht,h.nm⟩
theorem KJ.Cz(h:KJ X N k){n:Nat}{x:Pr}(h1:x.st=(k.p n).st)(h2:x.has=(k.p n).has)(h3:x.mem=(k.p n).mem):KJ X N (k.put n x):=by
 have e:∀m,((k.put n x).p m).st=(k.p m).st/\((k.put n x).p m).has=(k.p m).has/\((k.put n x).p m).mem=(k.p m).mem:=λm=>by
  by_cases c:m=n
  .subst c;rw[bF];exact⟨h1,h2,h3⟩
  .rw[bM _ _ _ _ c];exact⟨rfl,rfl,rfl⟩
 exact⟨h.sp,h.gr,by rw[show(λm=>((k.put n x).p m).mem)=λm=>(k.p m).mem from funext λm=>(e m).2.2];exact h.me,h.wx,h.rf,h.ok,h.tb,λm hm=>by rw[(e m).1];exact h.st m hm,λm hm=>by rw[(e m).1,(e m).2.1];exact h.hs m hm,λm hm=>by rw[(e m).1,(e m).2.1];exact h.lv m hm,λm hm=>by rw[(e m).1];exact h.of m hm,h.ht,λm hm=>by rw[(e m).2.1,(e m).2.2];exact h.nm m hm⟩
def dD(k:Kp)(n:Nat)(a m:Int):Kp:=if Mv.qP a m=0 then{cT k n (Mv.oV (k.p n).mem a m) (Mv.oU (k.p n).mem k.bk a m)with gr:=Gr.eU k.gr (k.p n).cN 0 (Mv.yo (k.p n).mem a m:Int)}else k
def zs(k:Kp)(n:Nat)(a m:Int):Int:=if Mv.qP a m=0 then Gr.gR k.gr (k.p n).cN 0 (Mv.yo (k.p n).mem a m:Int)else Mv.qP a m
theorem nR{t:Nat->Gr.Gp}{Wy:Nat->List (Fin 10)}{c:Nat}(h:Gr.Tree t Wy c)(g p q:Int):Gr.Tree (Gr.eU t g p q) Wy c:=by
 unfold Gr.eU;by_cases e:Gr.gR t g p q=0
 .rw[aJ e];have hr:Gr.eS t g p q=0:=by
   unfold Gr.gR at e;by_cases r:Gr.eS t g p q=0
   .exact r
   .rw[aI r]at e;exact aZ e r
  obtain⟨n,rfl,hn,hh,hp,hq⟩:=Gr.mD hr;rw[hZ];unfold Gr.gR at e;rw[aJ hr,hZ]at e;have o:=h.own n hn;obtain⟨hp,hq⟩:=Gr.nN hr;by_cases l:p<=(t n).op/\q<=(t n).oq
  .exact h.np (aL _) ⟨by omega,bu⟩ ⟨by omega,bu⟩
  .rw[aI l]at e;omega
 .rw[aI e];exact h
theorem KJ.jF(h:KJ X N k){t:Nat->Gr.Gp}(g:∃Wy,Gr.Tree t Wy N):KJ X N {k with gr:=t}:=⟨h.sp,g,h.me,h.wx,h.rf,h.ok,h.tb,h.st,h.hs,h.lv,h.of,h.ht,h.nm⟩
theorem KJ.cT(h:KJ X N k){n:Nat}{m:Me}{b:Bk}(hn:n<20)(hh:(k.p n).has=true)(w:Mv.fP b 20 (Mv.jJ (λn=>(k.p n).mem) n m)):KJ X N (cT k n m b):=by
 have e:∀j,((Kn.cT k n m b).p j).st=(k.p j).st/\((Kn.cT k n m b).p j).has=(k.p j).has:=λj=>by
  by_cases c:j=n
  .subst c;rw[show(Kn.cT k j m b).p j={k.p j with mem:=m}from bF _ _ _];exact⟨rfl,rfl⟩
  .rw[show(Kn.cT k n m b).p j=k.p j from bM _ _ _ _ c];exact⟨rfl,rfl⟩
 have e2:(λj=>((Kn.cT k n m b).p j).mem)=Mv.jJ (λn=>(k.p n).mem) n m:=funext λj=>by
  by_cases c:j=n
  .subst c;rw[show(Kn.cT k j m b).p j={k.p j with mem:=m}from bF _ _ _,Mv.fW]
  .rw[show(Kn.cT k n m b).p j=k.p j from bM _ _ _ _ c,Mv.iW _ _ _ _ c]
 exact⟨h.sp,h.gr,by rw[e2];exact w,h.wx,h.rf,h.ok,h.tb,λm hm=>by rw[(e m).1];exact h.st m hm,λm hm=>by rw[(e m).1,(e m).2];exact h.hs m hm,λm hm=>by rw[(e m).1,(e m).2];exact h.lv m hm,λm hm=>by rw[(e m).1];exact h.of m hm,h.ht,λj hj=>by
  by_cases c:j=n
  .subst c;intro q;rw[(e j).2,hh]at q;cases q
  .rw[show(Kn.cT k n m b).p j=k.p j from bM _ _ _ _ c];exact h.nm j hj⟩
theorem KJ.Oz(h:KJ X N k){n:Nat}(hn:n<20)(hh:(k.p n).has=true)(a m:Int):KJ X N (dD k n a m):=by
 unfold dD;by_cases c:Mv.qP a m=0
 .rw[aJ c];have w:Mv.fP (Mv.oU (k.p n).mem k.bk a m) 20 (Mv.jJ (λn=>(k.p n).mem) n (Mv.oV (k.p n).mem a m)):=by
   unfold Mv.qP at c;unfold Mv.oU Mv.oV;cases hb:Mv.kK a m
   .obtain⟨x,j,rfl,rfl,hx,h1,h2⟩:=Mv.tn hb;rw[aI bA,aI bA,hZ,hZ];exact h.me.OA (i:=n) hn j h2
   .rw[hb,aJ rfl]at c;omega
  refine(h.cT hn hh w).jF ?_;obtain⟨Wy,g⟩:=h.gr;exact⟨Wy,nR g _ _ _⟩
 .rw[aI c];exact h
def jH(k:Kp)(z:Int):Kp:={k with fi:=Fx.sv k.fi z,fo:=Fx.su k.fi k.fo z,pi:=Fx.tE k.fi k.pi z}
theorem KJ.Tt(h:KJ X N k)(z:Int):KJ X N (jH k z):=by
 have key:WX (jq k) (Fx.sv k.fi z) (Fx.su k.fi k.fo z) (Fx.tE k.fi k.pi z)/\(∀n,n<24->(Fx.sv k.fi z n).refs<=(k.fi n).refs)/\Tr.Ok (Fx.su k.fi k.fo z):=by
  unfold Fx.sv Fx.su Fx.tE;by_cases c:Fx.dj k.fi z=0
  .obtain⟨n,rfl,hn,r⟩:=Fx.jZ c;rw[hZ,aJ c];by_cases d:(k.fi n).refs=1
   .rw[aJ d,aJ ⟨c,d⟩,aJ ⟨c,d⟩];refine⟨h.wx.gone hn r,λm _=>?_,?_⟩
    .by_cases e:m=n
     .subst e;rw[Fx.bF];exact aC _
     .rw[Fx.bM _ _ _ _ e];exact aL _
    .unfold Fx.tP;split
     .exact h.ok.dq _
     .exact h.ok
   .rw[aI d,aI (λe=>d e.2),aI (λe=>d e.2)];refine⟨h.wx.jU hn r _ (by show(k.fi n).refs-1≠0;omega) rfl rfl (h.wx.ps n hn),λm _=>?_,h.ok⟩;by_cases e:m=n
    .subst e;rw[Fx.bF];show(k.fi m).refs-1<=_;omega
    .rw[Fx.bM _ _ _ _ e];exact aL _
  .rw[aI c,aI (λe=>c e.1),aI (λe=>c e.1)];exact⟨h.wx,λ_ _=>aL _,h.ok⟩
 exact⟨h.sp,h.gr,h.me,key.1,λn hn=>aH (key.2.1 n hn) (h.rf n hn),key.2.2,h.tb,h.st,h.hs,h.lv,h.of,h.ht,h.nm⟩
def dO(k:Kp)(n:Nat)(fd:Nat->Int):Nat->Kp
 |0=>k
 |j+1=>if fd j= -1 then dO k n fd j else fH (jH (dO k n fd j) (fd j)) n j (-1)
theorem KJ.dO(h:KJ X N k)(n:Nat)(fd:Nat->Int):∀j,KJ X N (dO k n fd j)
 |0=>h
 |j+1=>by
  show KJ X N (if fd j= -1 then _ else _);split
  .exact h.dO n fd j
  .exact((h.dO n fd j).Tt _).Cz rfl rfl rfl
theorem yj(k:Kp)(n:Nat)(fd:Nat->Int):∀j m,((dO k n fd j).p m).st=(k.p m).st/\((dO k n fd j).p m).has=(k.p m).has/\((dO k n fd j).p m).mem=(k.p m).mem/\((dO k n fd j).p m).box=(k.p m).box/\((dO k n fd j).p m).cN=(k.p m).cN/\((dO k n fd j).p m).par=(k.p m).par/\((dO k n fd j).p m).code=(k.p m).code
 |0,_=>⟨rfl,rfl,rfl,rfl,rfl,rfl,rfl⟩
 |j+1,m=>by
  have ih:=yj k n fd j;show(((if fd j= -1 then Kn.dO k n fd j else fH (jH (Kn.dO k n fd j) (fd j)) n j (-1)):Kp).p m).st=_/\_;by_cases c:fd j= -1
  .have e:Kn.dO k n fd (j+1)=Kn.dO k n fd j:=aJ c;rw[aJ c,e];exact ih m
  .have e:Kn.dO k n fd (j+1)=fH (jH (Kn.dO k n fd j) (fd j)) n j (-1):=aI c;rw[aI c,e];unfold fH;by_cases d:m=n
   .subst d;rw[bF];exact ih m
   .rw[bM _ _ _ _ d];exact ih m
end
def rj(k:Kp)(n:Nat)(m':Wf.M):Kp:=
 let k1:=dO (dD k n 0 16) n (k.p n).fd 6
 {k1 with sc:=m'}.put n {k1.p n with has:=false,mem:=Mv.lQ,box:=Sg.fS}
def gZ(k:Kp)(n:Nat)(k':Kp):Prop:=∃m',Wf.Ik k.sc n m'/\k'=rj k n m'
end Kn
open Kn (Pr Kp St us KB KJ)
theorem Kn.pW(k:Kp)(n:Nat)(m:Me)(b:Bk):(Kn.cT k n m b).p n={k.p n with mem:=m}:=Kn.bF _ _ _
section
variable (UE:Nat)(s:St)(w:bD)
theorem xT(n:Nat)(a m:Int)(h:bH w UE s)(hn:n<20)(hh:(s.k.p n).has=true)(C:Mv.wZ (s.k.p n).mem s.k.bk)(hS:Gr.Small s.k.gr):
  Calls prog 78 #[ai (bh ⟨s.A 0,0,bj⟩),ai (bh ⟨s.A 0,n*12,bj⟩),aa az a,aa az m] w λe w'=>e=bf (bG (Kn.zs s.k n a m))/\bH w' UE {s with k:=Kn.dD s.k n a m}/\KF s w {s with k:=Kn.dD s.k n a m} w':=by
 have c4:=h.qR n hn hh;have UM:=hJ (Ie (s.A (9+n)) (s.A 4) (s.A 5) a m (s.k.p n).mem s.k.bk w (h.ub hn hh) C);obtain⟨kb,hkb⟩:=hU (s.A 0);have HK:=hJ hkb;have H:=hJ h;have HS:=hJ hS;have HH:=hJ hh;rw[hkb]at c4|-;by_cases c:Mv.qP a m=0
 .have E:Hid (Kn.zs s.k n a m=Gr.gR s.k.gr (s.k.p n).cN 0 (Mv.yo (s.k.p n).mem a m:Int)/\Kn.dD s.k n a m={Kn.cT s.k n (Mv.oV (s.k.p n).mem a m) (Mv.oU (s.k.p n).mem s.k.bk a m)with gr:=Gr.eU s.k.gr (s.k.p n).cN 0 (Mv.yo (s.k.p n).mem a m:Int)}):=hJ ⟨aJ c,aJ c⟩;rw[c]at UM;go_in
  go_wp2_with fail
  refine sC UM.v ?_;rintro w1 ⟨u1,f1⟩;have S1:=hJ (H.xZ hn HH.v u1 f1);rw[bB];go_upto_region 4 with fail
  have KF1:Hid (∀W,bH W UE {s with k:=Kn.cT s.k n (Mv.oV (s.k.p n).mem a m) (Mv.oU (s.k.p n).mem s.k.bk a m)}->W.cell? ⟨kb,247,bj⟩=bh (ai (bh ⟨s.A 2,0,bj⟩))/\W.cell? ⟨kb,n*12+2,bj⟩=bh (aa az (s.k.p n).cN)):=hJ (λW hW=>by
   have e1:=hW.oS;have e2:=hW.pF n hn;rw[Kn.pW]at e2;rw[<-HK.v];exact⟨e1,e2⟩)
  have K0:=hJ (KF1.v w1 S1.1);have UC:=hJ (Gr.ir (s.A 2) (s.k.p n).cN 0 (Mv.yo (s.k.p n).mem a m:Int) s.k.gr w1.drew S1.1.drew.gr HS.v);obtain⟨gz,hgz⟩:=hU ((s.k.p n).cN);obtain⟨cz,hcz⟩:=hU ((Mv.yo (s.k.p n).mem a m:Int));obtain⟨g2,hg2⟩:=hU (s.A 2);rw[hgz,hcz,hg2]at UC;rw[hgz,hg2]at K0;rw[hcz];have HG:=hJ (aK hgz (aK hcz hg2));obtain⟨y1,y2⟩:=K0.v;go_region_held3 (λw'=>w'.cell? ⟨kb,247,bj⟩=bh (ai (bh ⟨g2,0,bj⟩))/\w'.cell? ⟨kb,n*12+2,bj⟩=bh (aa az gz)) (first|exact K0.v|exact K4.v) (
   (go_at_call 67;refine sC UC.v ?_;rintro w4 ⟨t4,f4⟩;have S4:Hid (bH w4 UE {s with k:=Kn.dD s.k n a m}/\KF s w {s with k:=Kn.dD s.k n a m} w4):=hJ (by
     obtain⟨e1,e2,e3⟩:=HG.v;rw[<-e1,<-e2]at t4;rw[<-e3]at t4 f4;have q:=S1.1.drew.jF t4 f4.rM;rw[E.2];exact⟨q.1,S1.2.trans ((KF.drew _ _).trans q.2)⟩);have K4:Hid (w4.cell? ⟨kb,247,bj⟩=bh (ai (bh ⟨g2,0,bj⟩))/\w4.cell? ⟨kb,n*12+2,bj⟩=bh (aa az gz)):=hJ (by
     obtain⟨e1,e2,e3⟩:=HG.v;have q1:=S4.1.oS;have q2:=S4.1.pF n hn;rw[E.2]at q2;have q3:w4.cell? ⟨s.A 0,n*12+2,bj⟩=bh (aa az ((Kn.cT s.k n (Mv.oV (s.k.p n).mem a m) (Mv.oU (s.k.p n).mem s.k.bk a m)).p n).cN):=q2;rw[Kn.pW]at q3;rw[<-HK.v,<-e1,<-e3];exact⟨q1,q3⟩)))
  go_wp2
  go_ret
  obtain⟨e1,e2,e3⟩:=HG.v;rw[E.1,e1,e2];exact⟨rfl,S4.v⟩
 .have E:Hid (Kn.zs s.k n a m=Mv.qP a m/\Kn.dD s.k n a m=s.k):=hJ ⟨aI c,aI c⟩;have E2:=hJ (bC c);have M0:Hid (Mv.oV (s.k.p n).mem a m=(s.k.p n).mem/\Mv.oU (s.k.p n).mem s.k.bk a m=s.k.bk):=hJ (by
   unfold Mv.qP at c;unfold Mv.oV Mv.oU;cases hb:Mv.kK a m
   .rw[hb,aI bA]at c;exact aZ rfl c
   .rw[aJ rfl,aJ rfl];exact⟨rfl,rfl⟩)
  go_in
  go_wp2_with fail
  refine sC UM.v ?_;rintro w1 ⟨u1,f1⟩;have S1:Hid (bH w1 UE s/\KF s w s w1):=hJ (by
   rw[M0.1,M0.2]at u1;have q:=H.xZ hn HH.v u1 f1;have e:({s with k:=Kn.cT s.k n (s.k.p n).mem s.k.bk}:St)=s:=by
    have:Kn.cT s.k n (s.k.p n).mem s.k.bk=s.k:=by
     unfold Kn.cT Kp.put;have:(λm=>if m=n then{s.k.p n with mem:=(s.k.p n).mem}else s.k.p m)=s.k.p:=funext λm=>by
      by_cases c:m=n
      .rw[aJ c,c]
      .rw[aI c]
     rw[this]
    rw[this]
   rw[e]at q;exact q)
  rw[E2.v];generalize (Mv.yo (s.k.p n).mem a m:Int)=cz;go_wp2
  go_ret
  rw[E.1,E.2,E2.v];exact⟨rfl,S1.v⟩
end
def ly(f:Nat->Int):Array Value:=((List.range 6).map λi=>aa az (f i)).toArray
theorem pK(f:Nat->Int):(ly f).size=6:=by simp[ly]
theorem BG(f:Nat->Int)(i:Nat)(h:i<6):(ly f)[i]? =bh (aa az (f i)):=by simp[ly,h]
theorem wg(f:Nat->Int)(x:Nat)(h:x<6)(w:bD):Sem.run prog (Instr.index 72 (au (ly f)) (aa az x)) w= .ok (aa az (f x)) w:=by
 have hu:prog.underlying 72=bh (.array 6 3):=by kernel_rfl
 have h1:(x:Int)<6:=bu
 simp[Instr.index,Sem.run_bind,run_underlying hu,go_sem];rw[aJ h,BG f x h];rfl
theorem bH.fds{w:bD}{UE:Nat}{s:St}(h:bH w UE s){n:Nat}(hn:n<20)(j:Nat)(hj:j<(ly (s.k.p n).fd).size):w.cell? ⟨s.A 0,n*12+6+j,bj⟩=(ly (s.k.p n).fd)[j]? :=by
 rw[pK]at hj;rw[BG _ j hj];exact h.pE n j hn hj
namespace Kn
theorem Dj(k:Kp)(n:Nat)(a m:Int)(j:Nat):((dD k n a m).p j).fd=(k.p j).fd/\((dD k n a m).p j).has=(k.p j).has/\((dD k n a m).p j).st=(k.p j).st/\((dD k n a m).p j).box=(k.p j).box/\((dD k n a m).p j).cN=(k.p j).cN/\((dD k n a m).p j).par=(k.p j).par/\((dD k n a m).p j).code=(k.p j).code:=by
 have key:∀(x:Me) (b:Bk),((cT k n x b).p j).fd=(k.p j).fd/\((cT k n x b).p j).has=(k.p j).has/\((cT k n x b).p j).st=(k.p j).st/\((cT k n x b).p j).box=(k.p j).box/\((cT k n x b).p j).cN=(k.p j).cN/\((cT k n x b).p j).par=(k.p j).par/\((cT k n x b).p j).code=(k.p j).code:=λx b=>by
  by_cases c:j=n
  .subst c;rw[pW];exact⟨rfl,rfl,rfl,rfl,rfl,rfl,rfl⟩
  .rw[show(cT k n x b).p j=k.p j from bM _ _ _ _ c];exact⟨rfl,rfl,rfl,rfl,rfl,rfl,rfl⟩
 unfold dD;split
 .exact key _ (Mv.oU (k.p n).mem k.bk a m)
 .exact⟨rfl,rfl,rfl,rfl,rfl,rfl,rfl⟩
theorem Qp(k:Kp)(n:Nat)(a m:Int):(dD k n a m).sc=k.sc:=by unfold dD;split<;>rfl
theorem zp(k:Kp)(n:Nat)(fd:Nat->Int):∀j,(dO k n fd j).sc=k.sc
 |0=>rfl
 |j+1=>by
  show(if fd j= -1 then _ else _:Kp).sc=_;split
  .exact zp k n fd j
  .exact zp k n fd j
end Kn
theorem bH.bare{w:bD}{UE:Nat}{s:St}(h:bH w UE s){n:Nat}(hn:n<20)(m:Me)(X:Nat->S1)(hm:(s.k.p n).has=true):
  bH ((w.setCell ⟨s.A 0,n*12+4,bj⟩ (ai bj)).setCell ⟨s.A 0,n*12+5,bj⟩ (ai bj)) UE {s with k:=s.k.put n {s.k.p n with has:=false,mem:=m,box:=X}}/\
   KF s w {s with k:=s.k.put n {s.k.p n with has:=false,mem:=m,box:=X}} ((w.setCell ⟨s.A 0,n*12+4,bj⟩ (ai bj)).setCell ⟨s.A 0,n*12+5,bj⟩ (ai bj)):=by
 obtain⟨C,e,sz⟩:=h.lO;have f:bE (s.A 0) w ((w.setCell ⟨s.A 0,n*12+4,bj⟩ (ai bj)).setCell ⟨s.A 0,n*12+5,bj⟩ (ai bj)):=((bE.refl _ _).setCell _ _).setCell _ _;have e1:=cE e (n*12+4) (ai bj);have o:=h.others bS f;have hp:∀j,((s.k.put n {s.k.p n with has:=false,mem:=m,box:=X}).p j).has=true->j≠n/\(s.k.put n {s.k.p n with has:=false,mem:=m,box:=X}).p j=s.k.p j:=λj hj=>by
  by_cases c:j=n
  .subst c;rw[Kn.bF]at hj;cases hj
  .exact⟨c,Kn.bM _ _ _ _ c⟩
 have pu:∀i,us {s with k:=s.k.put n {s.k.p n with has:=false,mem:=m,box:=X}} i->us s i:=λi hi=>by
  rcases hi with hi|⟨h1,h2,h3⟩|⟨h1,h2,h3⟩|hi|hi
  .exact .inl hi
  .have q:=hp _ h3;have h4:((s.k.put n {s.k.p n with has:=false,mem:=m,box:=X}).p (i-9)).has=true:=h3;rw[q.2]at h4;exact .inr (.inl ⟨h1,h2,h4⟩)
  .have q:=hp _ h3;have h4:((s.k.put n {s.k.p n with has:=false,mem:=m,box:=X}).p (i-29)).has=true:=h3;rw[q.2]at h4;exact .inr (.inr (.inl ⟨h1,h2,h4⟩))
  .exact .inr (.inr (.inr (.inl hi)))
  .exact .inr (.inr (.inr (.inr hi)))
 refine⟨⟨⟨_,cE e1 _ _,by simpa using sz⟩,λx hx=>?_,h.sp.same (o 1 bS bu),(o 2 bS bu).trans h.gr,h.sc.same (o 3 bS bu),h.bk.same (o 4 bS bu) (o 5 bS bu),h.fi.same (o 8 bS bu),h.fo.same (o 6 bS bu),h.pi.same (o 7 bS bu),
  λj hj jh=>?_,λj hj jh=>?_,
  λn hn hh=>(h.tb n hn hh).same (o _ (Kn.jL hn hh) bu) (λg eg=>by have:=o _ (Kn.jD hn hh eg) bu;rwa [h.ro n hn hh g eg]at this),h.ro,λi j hi hj=>h.inj i j (pu i hi) (pu j hj),λi hi=>h.low i (pu i hi)⟩,KF.one _ bS f rfl pu⟩
 .rw[Kn.xO];by_cases c5:x=n*12+5
  .subst c5;rw[du e1 _ _ (by simp;omega),aJ ⟨by omega,bu⟩,show(n*12+5)%12=5 by omega];rfl
  .rw[da e1 _ _ _ (bQ c5)];by_cases c4:x=n*12+4
   .subst c4;rw[du e _ _ bu,aJ ⟨by omega,bu⟩,show(n*12+4)%12=4 by omega];rfl
   .rw[da e _ _ _ (bQ c4),h.dQ x hx];by_cases d:x<240/\x/12=n
    .rw[aJ d];unfold Kn.kc Kn.pc Kn.eW;rw[aJ d.1,d.2,aI (show¬x%12=4 by omega),aI (show¬x%12=5 by omega),aI (show¬x%12=4 by omega),aI (show¬x%12=5 by omega)]
    .rw[aI d]
 .have q:=hp j jh;rw[q.2]at jh|-;exact(h.me j hj jh).same (o _ (Kn.iD hj jh) bu)
 .have q:=hp j jh;rw[q.2]at jh|-;exact(h.bx j hj jh).same (o _ (Kn.jC hj jh) bu)
section
variable (UE:Nat)(s:St)(w:bD)(X:Nat->Prop)(N:Nat)
theorem xS(n:Nat)(h:bH w UE s)(hj:KJ X N s.k)(hN:N<=900)(hn:n<20)(hh:(s.k.p n).has=true):
  Calls prog 148 #[ai (bh ⟨s.A 0,0,bj⟩),aa az n] w λe w'=>∃k',e=bf (ao #[])/\Kn.gZ s.k n k'/\bH w' UE {s with k:=k'}/\KF s w {s with k:=k'} w':=by
 have hnI:(n:Int)<20:=bu
 have UM:=hJ (xT UE s w n 0 16 h hn hh (hj.me.cL (i:=n) hn) (by obtain⟨Wy,g⟩:=hj.gr;exact g.small bu));obtain⟨kb,hkb⟩:=hU (s.A 0);have HK:=hJ hkb;have HJ:=hJ (hj.Oz hn hh 0 16);have HH:=hJ hh;have HN:=hJ hN;rw[hkb]at UM|-;go_in
 go_wp2_with fail
 refine UM.mono ?_;rintro e w1 ⟨rfl,k1,f1⟩;generalize bG (Kn.zs s.k n 0 16)=ev;have S1:=hJ (aK k1 f1);have FD:Hid (((Kn.dD s.k n 0 16).p n).fd=(s.k.p n).fd):=hJ (Kn.Dj s.k n 0 16 n).1;obtain⟨fd,hfd⟩:=hU ((s.k.p n).fd);have HFD:=hJ hfd;have LD:Hid (∀j,j<(ly fd).size->w1.cell? ⟨kb,n*12+6+j,bj⟩=(ly fd)[j]?):=hJ (λj hj=>by
  have q:=S1.1.fds hn j (by rw[FD.v,hfd];exact hj);rw[FD.v,hfd]at q;rw[<-HK.v];exact q)
 have hsz:Hid ((prog.info? 72).map (·.size)=bh (ly fd).size):=hJ (by rw[pK];kernel_rfl);go_wp2_with (refine iX rfl 72 _ rfl kb (n*12+6) rfl (ly fd) 6 3 LD.v bw hsz.v ?_)
 go_loopw [5,6,19] (λ_ _ i wr=>∃(j:Nat),i=aa az j/\j<=6/\Hid (bH wr UE {s with k:=Kn.dO (Kn.dD s.k n 0 16) n fd j}/\KF s w {s with k:=Kn.dO (Kn.dD s.k n 0 16) n fd j} wr)) (λ_ _ i _=>6-(intOf i).toNat)
 case atStart=>exact⟨0,rfl,bu,S1⟩
 case round=>
  obtain⟨j,rfl,hj6,S⟩:=hrel;have JJ:=hJ (HJ.dO n fd j);by_cases hlt:j<6
  .have hltI:(j:Int)<6:=bu
   have hix:=wg fd j hlt wr;have SU:Hid (Kn.dO (Kn.dD s.k n 0 16) n fd (j+1)=if fd j= -1 then Kn.dO (Kn.dD s.k n 0 16) n fd j else Kn.fH (Kn.jH (Kn.dO (Kn.dD s.k n 0 16) n fd j) (fd j)) n j (-1)):=hJ rfl;generalize Kn.dO (Kn.dD s.k n 0 16) n fd j=kj at*;obtain⟨z,hz⟩:=hU (fd j);rw[hz]at SU hix;by_cases hz1:z= -1
   .subst hz1;rw[aJ rfl]at SU;go_wp2
    go_roundw
    case rel=>exact⟨j+1,by go_num,bu,by rw[SU.v];exact S⟩
    case measure=>simp[intOf];omega
   .have z1:(z== -1)=false:=by simpa using hz1
    rw[aI hz1]at SU;have cF:=S.1.sY;rw[show({s with k:=kj}:St).A 0=kb from HK.v]at cF;have CL:=hJ (yF (s.A 8) (s.A 6) (s.A 7) z kj.fi kj.fo kj.pi wr S.1.fx JJ.sm (λm hm=>by have:=JJ.rf m hm;have:=HN.v;omega));obtain⟨f8,hf8⟩:=hU (s.A 8);have H8:=hJ hf8;rw[show({s with k:=kj}:St).A 8=f8 from hf8]at cF;rw[hf8]at CL;go_wp2_with fail
    refine CL.mono ?_;rintro e w2 ⟨rfl,u2,f2⟩;generalize bG (Fx.dj kj.fi z)=ev2;have S2:Hid (bH w2 UE {s with k:=Kn.jH kj z}/\KF s w {s with k:=Kn.jH kj z} w2):=hJ (by
     rw[<-H8.v]at u2 f2;have q:=S.1.vm u2 f2;exact⟨q.1,S.2.trans q.2⟩)
    have c6:=S2.1.pE n j hn hlt;rw[show({s with k:=Kn.jH kj z}:St).A 0=kb from HK.v]at c6;have fz:=S2.1.frozen;rw[show({s with k:=Kn.jH kj z}:St).A 0=kb from HK.v]at fz;have S3:Hid (bH (w2.setCell ⟨kb,n*12+6+j,bj⟩ (aa az (-1))) UE {s with k:=Kn.dO (Kn.dD s.k n 0 16) n fd (j+1)}/\KF s w {s with k:=Kn.dO (Kn.dD s.k n 0 16) n fd (j+1)} (w2.setCell ⟨kb,n*12+6+j,bj⟩ (aa az (-1)))):=hJ (by
     have q:=S2.1.qJ hn hlt (-1);rw[show({s with k:=Kn.jH kj z}:St).A 0=kb from HK.v]at q;rw[SU.v];exact⟨q.1,S2.2.trans q.2⟩)
    generalize ((({s with k:=Kn.jH kj z}:St).k.p n).fd j)=zz at*;go_wp2
    go_roundw
    case rel=>exact⟨j+1,by go_num,bu,S3⟩
    case measure=>simp[intOf];omega
  .obtain rfl:j=6:=bu
   have hltI:¬((6:Nat):Int)<6:=bu
   have SC:Hid ((Kn.dO (Kn.dD s.k n 0 16) n fd 6).sc=s.k.sc):=hJ (by rw[Kn.zp,Kn.Qp]);have PH:Hid (((Kn.dO (Kn.dD s.k n 0 16) n fd 6).p n).has=true):=hJ (by rw[(Kn.yj _ n fd 6 n).2.1,(Kn.Dj s.k n 0 16 n).2.1];exact HH.v);have SK:Hid (∀m',Kn.rj s.k n m'=({Kn.dO (Kn.dD s.k n 0 16) n fd 6 with sc:=m'}).put n {(Kn.dO (Kn.dD s.k n 0 16) n fd 6).p n with has:=false,mem:=Mv.lQ,box:=Sg.fS}):=hJ (λm'=>by unfold Kn.rj;rw[HFD.v]);generalize Kn.dO (Kn.dD s.k n 0 16) n fd 6=kj at*;have cS:=S.1.xD;rw[show({s with k:=kj}:St).A 0=kb from HK.v]at cS;have DT:=hJ (Wf.Bz (s.A 3) kj.sc wr (n:Int) S.1.sc);obtain⟨f3,hf3⟩:=hU (s.A 3);have H3:=hJ hf3;rw[show({s with k:=kj}:St).A 3=f3 from hf3]at cS;rw[hf3]at DT;go_wp2_with fail
   refine DT.mono ?_;rintro e w2 ⟨⟨E2,rfl⟩,u2,f2⟩;obtain⟨m',d2⟩:∃m',Wf.Ik kj.sc (n:Int) m':=⟨_,rfl⟩;rw[<-d2]at u2;generalize bG E2=ev2;have S2:Hid (bH w2 UE {s with k:={kj with sc:=m'}}/\KF s w {s with k:={kj with sc:=m'}} w2):=hJ (by
    rw[<-H3.v]at u2 f2;have q:=S.1.kH u2 f2;exact⟨q.1,S.2.trans q.2⟩)
   have D2:=hJ d2;have c4:=S2.1.qR n hn PH.v;have c5:=S2.1.sd n hn PH.v;have fz:=S2.1.frozen;rw[show({s with k:={kj with sc:=m'}}:St).A 0=kb from HK.v]at c4 c5 fz;have FIN:Hid (bH ((w2.setCell ⟨kb,n*12+4,bj⟩ (ai bj)).setCell ⟨kb,n*12+5,bj⟩ (ai bj)) UE {s with k:=Kn.rj s.k n m'}/\KF s w {s with k:=Kn.rj s.k n m'} ((w2.setCell ⟨kb,n*12+4,bj⟩ (ai bj)).setCell ⟨kb,n*12+5,bj⟩ (ai bj))):=hJ (by
    have q:=S2.1.bare hn Mv.lQ Sg.fS PH.v;rw[show({s with k:={kj with sc:=m'}}:St).A 0=kb from HK.v]at q;rw[SK.v m'];exact⟨q.1,S2.2.trans q.2⟩)
   go_wp2_with fail
   go_end0
   exact⟨_,rfl,⟨m',by rw[<-SC.v];exact D2.v,rfl⟩,FIN.v⟩
end
open Mo (Mt)
namespace Sp
theorem Ci{t:T}{n:Nat}(hn:n<20)(h:t.of n≠0):dC t (n:Int)={yX t (List.range 6) n with of:=te t.of n 0}:=by
 have e:lA t (n:Int)=0:=by unfold lA;rw[oE hn,aJ rfl,hZ,aI h]
 unfold dC;rw[aJ e,hZ]
theorem je{t:T}{n:Nat}(hn:n<20)(h:t.of n≠0):(dC t (n:Int)).here=t.here/\(dC t (n:Int)).par=t.par:=by rw[Ci hn h];exact⟨rfl,rfl⟩
theorem jV{t:T}{n:Nat}(hn:n<20)(h:t.of n≠0)(m:Nat):(dC t (n:Int)).of m=if m=n then 0 else t.of m:=by rw[Ci hn h];rfl
theorem kZ{t:T}{n:Nat}(hn:n<20)(h:t.of n≠0){s:Nat}(hs:s<6)(p:Nat):(dC t (n:Int)).bR s p=if t.bR s p=n+1 then 0 else t.bR s p:=by
 rw[Ci hn h];show(if s∈List.range 6/\t.bR s p=n+1 then 0 else t.bR s p)=_;by_cases c:t.bR s p=n+1
 .rw[aJ c,aJ ⟨by simpa using hs,c⟩]
 .rw[aI c,aI (λe=>c e.2)]
structure qp (t:T):Prop where
 hd:∀s,s<6->t.here s=true->∃h,h<20/\t.bR s 1=h+1/\t.of h=s+1
 r0:t.of 0=1/\t.bR 0 1=1
theorem gM{t:T}{n z:Nat}(hn:n<20)(h:t.of n=z+1):dc t (n:Int)=z:=by
 have e:lA t (n:Int)=0:=by unfold lA;rw[oE hn,aJ rfl,hZ,nJ]
 unfold dc;rw[aJ e,hZ];omega
theorem N3{t:T}{z h:Nat}(hz:z<6)(hh:t.here z=true)(hw:t.bR z 1=h+1):eH t (z:Int) 1=h:=by
 have e:fZ t (z:Int) 1=0:=by
  unfold fZ;rw[gw hz hh,aJ rfl,hZ,show(1:Int).toNat=1 from rfl,nJ]
 unfold eH;rw[aJ e,hZ,show(1:Int).toNat=1 from rfl,hw];omega
section
variable {t:T}{d:Nat->Nat}
theorem qp.leave(h:qp t){n z:Nat}(hn:n<20)(n0:n≠0)(ho:t.of n=z+1)(hw:t.bR z 1≠n+1):qp (dC t (n:Int)):=by
 have o:t.of n≠0:=bu
 refine⟨λs hs hh=>?_,?_⟩
 .rw[(je hn o).1]at hh;obtain⟨x,x20,xw,xo⟩:=h.hd s hs hh;have xn:x≠n:=λe=>by
   subst e;have:s=z:=bu
   subst this;exact hw xw
  exact⟨x,x20,by rw[kZ hn o hs,nJ];exact xw,by rw[jV hn o,aI xn];exact xo⟩
 .rw[jV hn o,aI (bQ n0),kZ hn o bu,aI (by have:=h.r0.2;omega)];exact h.r0
theorem JF{t:T}{z:Nat}(h:∀p,p<21->t.bR z p=0):dX t z=[]:=by
 unfold dX;rw[List.map_eq_nil_iff,List.filter_eq_nil_iff];intro p hp;unfold iL;rw[h p (by simpa using hp)];simp
theorem qp.shut(h:qp t)(hI:Inv t d){n z:Nat}(hn:n<20)(n0:n≠0)(ho:t.of n=z+1)(hz:z<6)(hh:t.here z=true)(hw:t.bR z 1=n+1)(al:∀p,p<21->t.bR z p≠0->p=1):
  iJ (dC t (n:Int)) (z:Int)=0/\qp (gB (dC t (n:Int)) (z:Int)):=by
 have o:t.of n≠0:=bu
 have z0:z≠0:=λe=>by subst e;have:=h.r0.2;omega
 have emp:∀p,p<21->(dC t (n:Int)).bR z p=0:=λp hp=>by
  rw[kZ hn o hz];by_cases c:t.bR z p=n+1
  .rw[aJ c]
  .rw[aI c];by_cases e:t.bR z p=0
   .exact e
   .have:=al p hp e;subst this;exact aZ hw c
 have kd:kids (dC t (n:Int)) z=false:=by
  unfold kids;rw[List.any_eq_false];intro k hk;have k6:k<6:=by simpa using hk
  unfold tM;rw[(je hn o).1,(je hn o).2];intro c;have c1:t.here k=true/\t.par k=(z:Int):=by simpa using c
  obtain⟨x,x20,xw,xo⟩:=h.hd k k6 c1.1;have mem:z∈W t ((t.of x-1:Nat):Int):=by
   rw[xo,show k+1-1=k by omega,hI.tree.step k6 c1.1,c1.2,hI.tree.step hz hh];simp
  obtain⟨p,hp,pw⟩:=(hI.has z x hz x20).2 ⟨by omega,mem⟩;have p1:=al p hp bu;subst p1;have:x=n:=bu
  subst this;have:k=z:=bu
  subst this;rcases hI.tree.gx hz hh with⟨e,_⟩|⟨q,_,e,_,e2⟩
  .exact z0 e
  .rw[c1.2]at e;have:q=k:=bu
   subst this;omega
 have de:iJ (dC t (n:Int)) (z:Int)=0:=by
  unfold iJ;rw[gw hz (by rw[(je hn o).1];exact hh),aJ rfl,hZ,aI (λc=>by
   rcases c with c|c|c
   .omega
   .exact c (JF emp)
   .rw[kd]at c;cases c)]
 refine⟨de,?_⟩;have e:gB (dC t (n:Int)) (z:Int)={dC t (n:Int)with here:=mF (dC t (n:Int)).here z false,par:=fY (dC t (n:Int)).par z 0}:=by unfold gB;rw[aJ de,hZ]
 rw[e];refine⟨λs hs hs2=>?_,?_⟩
 .have hs3:(if s=z then false else(dC t (n:Int)).here s)=true:=hs2;by_cases c:s=z
  .rw[aJ c]at hs3;cases hs3
  .rw[aI c,(je hn o).1]at hs3;obtain⟨x,x20,xw,xo⟩:=h.hd s hs hs3;have xn:x≠n:=λe=>by subst e;omega
   exact⟨x,x20,by show(dC t (n:Int)).bR s 1=_;rw[kZ hn o hs,nJ];exact xw,by show(dC t (n:Int)).of x=_;rw[jV hn o,aI xn];exact xo⟩
 .show(dC t (n:Int)).of 0=1/\(dC t (n:Int)).bR 0 1=1;rw[jV hn o,aI (bQ n0),kZ hn o bu,aI (by have:=h.r0.2;omega)];exact h.r0
end
end Sp
namespace Mo
theorem tS{F:Fo}{z:Int}(n:Nat):((Tr.dq F z).nd n).held<=(F.nd n).held:=by
 unfold Tr.dq;split
 .rw[wL];by_cases e:n=z.toNat
  .subst e;rw[Tr.bF];show(F.nd _).held-1<=_;omega
  .rw[Tr.bM _ _ _ _ e];exact aL _
 .exact aL _
theorem tT{F:Fo}{z:Int}{n:Nat}(h:0<((Tr.dq F z).nd n).held):((Tr.dq F z).nd n).kind=(F.nd n).kind:=by
 unfold Tr.dq at*;split
 .rename_i c;rw[aJ c]at h;rw[wL]at h;rw[Dc _ _ _ h];by_cases e:n=z.toNat
  .subst e;rw[Tr.bF]
  .rw[Tr.bM _ _ _ _ e]
 .rfl
theorem Mj{F:Fo}{m:Mt}(n:Nat):((iG F m).nd n).held<=(F.nd n).held:=aH (tS n) (tS n)
theorem Cg{F:Fo}{m:Mt}{n:Nat}(h:0<((iG F m).nd n).held):((iG F m).nd n).kind=(F.nd n).kind:=(tT h).trans (tT (aD h (tS n)))
theorem tK(n:Nat):∀(L:List Mt) (F:Fo),((L.foldl iG F).nd n).held<=(F.nd n).held
 |[],_=>aL _
 |m::L,F=>aH (tK n L (iG F m)) (Mj n)
theorem zN(n:Nat):∀(L:List Mt) (F:Fo),0<((L.foldl iG F).nd n).held->((L.foldl iG F).nd n).kind=(F.nd n).kind
 |[],_,_=>rfl
 |m::L,F,h=>(zN n L (iG F m) h).trans (Cg (aD h (tK n L _)))
theorem Ce{F:Fo}{T:Tb}{n:Nat}(h:0<((kF F T).nd n).held):((kF F T).nd n).kind=(F.nd n).kind:=
 (zN n T.ms _ h).trans (tT (aD h (tK n T.ms _)))
end Mo
namespace Kn
section
variable {X:Nat->Prop}{N:Nat}{k:Kp}
theorem KJ.kH(h:KJ X N k)(m:Wf.M):KJ X N {k with sc:=m}:=⟨h.sp,h.gr,h.me,h.wx,h.rf,h.ok,h.tb,h.st,h.hs,h.lv,h.of,h.ht,h.nm⟩
theorem Sd(k:Kp)(n x:Nat)(hx:x<16):((dD k n 0 16).p n).mem.fr x=0:=by
 unfold dD;have c:Mv.qP 0 16=0:=by decide
 rw[aJ c];show((cT k n _ (Mv.oU (k.p n).mem k.bk 0 16)).p n).mem.fr x=0;rw[pW];show(Mv.oV (k.p n).mem 0 16).fr x=0;unfold Mv.oV;have b:Mv.kK 0 16=false:=by decide
 rw[b,aI bA];show(if _ then 0 else _)=0;rw[aJ ⟨aC _,by show x<0+16;omega⟩]
theorem KJ.str(h:KJ X N k){n:Nat}(hn:n<20)(hh:(k.p n).has=true){k':Kp}(hs:gZ k n k'):KJ (λm=>X m\/m=n) N k':=by
 obtain⟨m',hd,rfl⟩:=hs;have a:=((h.Oz hn hh 0 16).dO n (k.p n).fd 6).kH m';have pp:=yj (dD k n 0 16) n (k.p n).fd 6;have z0:∀x,x<16->((Kn.dO (dD k n 0 16) n (k.p n).fd 6).p n).mem.fr x=0:=λx hx=>by rw[(pp n).2.2.1];exact Sd k n x hx
 unfold rj;dsimp only;generalize Kn.dO (dD k n 0 16) n (k.p n).fd 6=k1 at*;have e:∀j,j≠n->(({k1 with sc:=m'}:Kp).put n {k1.p n with has:=false,mem:=Mv.lQ,box:=Sg.fS}).p j=k1.p j:=λj c=>bM _ _ _ _ c;have e2:(({k1 with sc:=m'}:Kp).put n {k1.p n with has:=false,mem:=Mv.lQ,box:=Sg.fS}).p n={k1.p n with has:=false,mem:=Mv.lQ,box:=Sg.fS}:=bF _ _ _;refine⟨a.sp,a.gr,?_,a.wx,a.rf,a.ok,a.tb,λm hm=>?_,λm hm=>?_,λm hm=>?_,λm hm=>?_,a.ht,λm hm=>?_⟩
 .refine a.me.congr (λi hi x hx=>?_);by_cases c:i=n
  .subst c;rw[e2];exact(z0 x hx).symm
  .rw[e i c]
 .by_cases c:m=n
  .subst c;rw[e2];exact a.st m hm
  .rw[e m c];exact a.st m hm
 .by_cases c:m=n
  .subst c;rw[e2];intro q;cases q
  .rw[e m c];exact a.hs m hm
 .intro hx;by_cases c:m=n
  .exact aZ (.inr c) hx
  .rw[e m c];exact a.lv m hm (λq=>hx (.inl q))
 .by_cases c:m=n
  .subst c;rw[e2];exact a.of m hm
  .rw[e m c];exact a.of m hm
 .by_cases c:m=n
  .subst c;rw[e2];intro _;rfl
  .rw[e m c];exact a.nm m hm
theorem Se(k:Kp)(n:Nat)(a m:Int):(dD k n a m).sp=k.sp/\(dD k n a m).ht=k.ht/\(dD k n a m).tb=k.tb:=by unfold dD;split<;>exact⟨rfl,rfl,rfl⟩
theorem zq(k:Kp)(n:Nat)(fd:Nat->Int):∀j,(dO k n fd j).sp=k.sp/\(dO k n fd j).ht=k.ht/\(dO k n fd j).tb=k.tb
 |0=>⟨rfl,rfl,rfl⟩
 |j+1=>by
  show(if fd j= -1 then _ else _:Kp).sp=_/\(if fd j= -1 then _ else _:Kp).ht=_/\(if fd j= -1 then _ else _:Kp).tb=_;split
  .exact zq k n fd j
  .exact zq k n fd j
theorem gZ.sp{n:Nat}{k':Kp}(hs:gZ k n k'):k'.sp=k.sp/\k'.ht=k.ht/\k'.tb=k.tb:=by
 obtain⟨m',_,rfl⟩:=hs;have a:=zq (dD k n 0 16) n (k.p n).fd 6;have b:=Se k n 0 16;exact⟨a.1.trans b.1,a.2.1.trans b.2.1,a.2.2.trans b.2.2⟩
theorem gZ.p{n:Nat}{k':Kp}(hs:gZ k n k')(m:Nat):(k'.p m).st=(k.p m).st/\(k'.p m).par=(k.p m).par/\(k'.p m).cN=(k.p m).cN/\(k'.p m).code=(k.p m).code/\(m≠n->(k'.p m).has=(k.p m).has/\(k'.p m).mem=(k.p m).mem/\(k'.p m).box=(k.p m).box):=by
 obtain⟨m',_,rfl⟩:=hs;have a:=yj (dD k n 0 16) n (k.p n).fd 6 m;have b:=Dj k n 0 16 m;unfold rj;dsimp only;by_cases c:m=n
 .subst c;rw[bF];exact⟨a.1.trans b.2.2.1,a.2.2.2.2.2.1.trans b.2.2.2.2.2.1,a.2.2.2.2.1.trans b.2.2.2.2.1,a.2.2.2.2.2.2.trans b.2.2.2.2.2.2,λe=>aZ rfl e⟩
 .rw[bM _ _ _ _ c];have mm:((dD k n 0 16).p m).mem=(k.p m).mem:=by
   unfold dD;split
   .show((cT k n _ (Mv.oU (k.p n).mem k.bk 0 16)).p m).mem=_;rw[show∀x b,(cT k n x b).p m=k.p m from λx b=>bM _ _ _ _ c]
   .rfl
  exact⟨a.1.trans b.2.2.1,a.2.2.2.2.2.1.trans b.2.2.2.2.2.1,a.2.2.2.2.1.trans b.2.2.2.2.1,a.2.2.2.2.2.2.trans b.2.2.2.2.2.2,λ_=>⟨a.2.1.trans b.2.1,a.2.2.1.trans mm,a.2.2.2.1.trans b.2.2.2.1⟩⟩
def eC(k:Kp)(n:Nat):Kp:=({k with gr:=Gr.eU k.gr (k.p n).cN 1 0,sp:=Sp.dC k.sp (n:Int)}).put n Pr.no
theorem KJ.fin(h:KJ X N k){n:Nat}(hn:n<20)(h0:(k.p n).st≠0)(hh:(k.p n).has=false):KJ (λm=>X m/\m≠n) N (eC k n):=by
 have o:=(h.of n hn).2 h0;have e:∀j,j≠n->(eC k n).p j=k.p j:=λj c=>bM _ _ _ _ c;have e2:(eC k n).p n=Pr.no:=bF _ _ _;have hr:=Sp.je hn o;refine⟨?_,?_,?_,h.wx,h.rf,h.ok,h.tb,λm hm=>?_,λm hm=>?_,λm hm=>?_,λm hm=>?_,λs hs=>?_,λm hm=>?_⟩
 .obtain⟨d,hd⟩:=h.sp;exact⟨d,hd.leave _⟩
 .obtain⟨Wy,g⟩:=h.gr;exact⟨Wy,nR g _ _ _⟩
 .refine h.me.congr (λi hi x hx=>?_);by_cases c:i=n
  .subst c;rw[e2,h.nm i hn hh];rfl
  .rw[e i c]
 .by_cases c:m=n
  .subst c;rw[e2];exact aC _
  .rw[e m c];exact h.st m hm
 .by_cases c:m=n
  .subst c;rw[e2];intro q;cases q
  .rw[e m c];exact h.hs m hm
 .intro hx;by_cases c:m=n
  .subst c;rw[e2];intro q;cases q
  .rw[e m c];exact h.lv m hm (λq=>hx ⟨q,c⟩)
 .show(Sp.dC k.sp (n:Int)).of m≠0↔_;rw[Sp.jV hn o];by_cases c:m=n
  .subst c;rw[e2,aJ rfl];exact⟨λq=>aZ rfl q,λq=>aZ rfl q⟩
  .rw[e m c,aI c];exact h.of m hm
 .show k.ht s=(Sp.dC k.sp (n:Int)).here s;rw[hr.1];exact h.ht s hs
 .by_cases c:m=n
  .subst c;rw[e2];intro _;rfl
  .rw[e m c];exact h.nm m hm
def lK(k:Kp)(z:Nat):Kp:={k with sp:=Sp.gB k.sp (z:Int),fo:=Mo.kF k.fo (k.tb z),ht:=λs=>if s=z then false else k.ht s}
theorem De(k:Kp)(z m:Nat):∀s,kv (lK k z) m s+(if z<s/\k.ht z=true then Mo.tc (k.tb z) m else 0)=kv k m s
 |0=>by rw[aI (λc=>aZ c.1 (Nat.not_lt_zero _))];rfl
 |s+1=>by
  have ih:=De k z m s;show kv (lK k z) m s+(if(if s=z then false else k.ht s)=true then Mo.tc (k.tb s) m else 0)+_=kv k m s+_;by_cases c:s=z
  .subst c;rw[aI (λc=>bu)]at ih;rw[aJ rfl,aI bA];by_cases d:k.ht s=true
   .rw[aJ ⟨by omega,d⟩,aJ d];omega
   .rw[aI (λe=>d e.2),aI d];omega
  .rw[aI c];by_cases d:z<s/\k.ht z=true
   .rw[aJ d]at ih;rw[aJ (show z<s+1/\k.ht z=true from⟨by omega,d.2⟩)];omega
   .rw[aI d]at ih;rw[aI (show¬(z<s+1/\k.ht z=true)from λe=>d ⟨by omega,e.2⟩)];omega
theorem KJ.Ut(h:KJ X N k){z:Nat}(hz:z<6)(hh:k.sp.here z=true)(de:Sp.iJ k.sp (z:Int)=0):KJ X N (lK k z):=by
 have ht:k.ht z=true:=by rw[h.ht z hz];exact hh
 have tx:∀m,jq k m=jq (lK k z) m+Mo.tc (k.tb z) m:=λm=>by
  have:=De k z m 6;rw[aJ ⟨hz,ht⟩]at this;exact this.symm
 have rg:=h.tb z hz ht;have hi:Mo.HI k.fo (λn=>(Fx.cK k.fi 1 n 24+jq (lK k z) n)+Mo.tc (k.tb z) n):=⟨λn hn=>by rw[h.wx.hl n hn,tx n];omega,λn hn c kz=>by
  have:=h.wx.z0 n hn kz;rw[h.wx.hl n hn,tx n]at this;omega⟩
 have hl:=Mo.Ju hi rg.1;have e:(lK k z).sp={k.sp with here:=Sp.mF k.sp.here z false,par:=Sp.fY k.sp.par z 0}:=by show Sp.gB k.sp (z:Int)=_;unfold Sp.gB;rw[aJ de,hZ]
 refine⟨?_,h.gr,h.me,?_,h.rf,Mo.Jv h.ok,λs hs q=>?_,h.st,h.hs,h.lv,λn hn=>?_,λs hs=>?_,h.nm⟩
 .obtain⟨d,hd⟩:=h.sp;exact⟨d,hd.drop _⟩
 .refine⟨h.wx.no,h.wx.kd,λn hn r k1=>?_,h.wx.pn,h.wx.ps,λm hm=>hl.hd m hm,λm hm kz=>?_,h.wx.rd,h.wx.wt⟩
  .have a:=h.wx.nd n hn r k1;refine⟨a.1,?_⟩;have c1:=Fx.qz (T:=k.fi) (k:=1) (m:=(k.fi n).num) hn;have c2:=Fx.mj r;rw[k1]at c2;show((Mo.kF k.fo (k.tb z)).nd (k.fi n).num).kind=1;have c3:Fx.hit (k.fi n) 1 (k.fi n).num=1:=c2;rw[Mo.Ce (n:=(k.fi n).num) (by rw[hl.hd _ a.1];omega)];exact a.2
  .by_cases c:((Mo.kF k.fo (k.tb z)).nd m).held=0
   .exact c
   .exact aZ kz (hl.lv m hm (by rw[<-hl.hd m hm];omega))
 .have q2:(if s=z then false else k.ht s)=true:=q;by_cases c:s=z
  .rw[aJ c]at q2;cases q2
  .rw[aI c]at q2;exact h.tb s hs q2
 .rw[e];exact h.of n hn
 .rw[e];show(if s=z then false else k.ht s)=if s=z then false else k.sp.here s;by_cases c:s=z
  .rw[aJ c,aJ c]
  .rw[aI c,aI c];exact h.ht s hs
end
end Kn
namespace Sp
def mem(t:T)(z m:Nat):Prop:=∃p,p<21/\t.bR z p=m+1
theorem Tree.sub{t:T}{d:Nat->Nat}(h:Tree t d){n:Nat}(hn:n<6)(hh:t.here n=true):∀x,x∈W t (n:Int)->∀y,y∈W t (x:Int)->y∈W t (n:Int):=by
 refine h.ind (P:=λn=>∀x,x∈W t (n:Int)->∀y,y∈W t (x:Int)->y∈W t (n:Int)) (λn hn hh ih=>?_) n hn hh;intro x hx y hy;rw[h.step hn hh]at hx|-;rcases List.mem_cons.1 hx with e|hx
 .subst e;rw[<-h.step hn hh];exact hy
 .rcases h.gx hn hh with⟨_,e,_⟩|⟨p,h1,e,h2,h3⟩
  .rw[e,nV _ _ bu]at hx;cases hx
  .rw[e]at hx|-;exact List.mem_cons_of_mem _ (ih p h1 h2 e h3 x hx y hy)
section
variable {t:T}{d:Nat->Nat}
theorem Inv.mem_of(h:Inv t d){z m:Nat}(hz:z<6)(hm:m<20)(k:mem t z m):t.of m≠0/\z∈W t ((t.of m-1:Nat):Int):=(h.has z m hz hm).1 k
theorem Inv.cO(h:Inv t d){z m:Nat}(hm:m<20)(ho:t.of m=z+1):mem t z m/\z<6/\t.here z=true:=by
 have o:=h.oD m hm bu;rw[ho,show z+1-1=z by omega]at o;have z6:z<6:=bu
 refine⟨(h.has z m z6 hm).2 ⟨by omega,?_⟩,z6,o.2⟩;rw[ho,show z+1-1=z by omega,h.tree.step z6 o.2];simp
theorem Inv.Cq(h:Inv t d){z y m x:Nat}(hz:z<6)(hm:m<20)(hx:x<20)(ho:t.of m=y+1)(k:mem t z m)(kx:mem t y x):mem t z x:=by
 obtain⟨_,y6,yh⟩:=h.cO hm ho;have a:=(h.mem_of hz hm k).2;rw[ho,show y+1-1=y by omega]at a;have b:=h.mem_of y6 hx kx;have o:=h.oD x hx b.1;exact(h.has z x hz hx).2 ⟨b.1,h.tree.sub bu o.2 y b.2 z a⟩
theorem rC{t:T}{z i x:Nat}(h:(dX t z)[i]? =bh x)(hw:∀p,p<21->t.bR z p<=20):x<20/\mem t z x:=by
 have hm:=bK h;unfold dX at hm;obtain⟨p,hp,e⟩:=List.mem_map.1 hm;obtain⟨h1,h2⟩:=bX.1 hp;have p21:p<21:=by simpa using h1
 have w0:t.bR z p≠0:=by simpa[iL]using h2
 have:=hw p p21;exact⟨by omega,p,p21,bu⟩
theorem Inv.second(h:Inv t d){z n:Nat}(hz:z<6)(hw:t.bR z 1=n+1):(dX t z)[0]? =bh n/\∀x,(dX t z)[1]? =bh x->x≠n:=by
 have e:∃L,dX t z=n::L/\∀x,x∈L->∃p,p<21/\2<=p/\t.bR z p≠0/\x=t.bR z p-1:=by
  unfold dX;have r:List.range 21=0::1::(List.range 19).map (· +2):=by decide
  rw[r,List.filter_cons_of_neg (by simp[iL,h.ma z hz]),List.filter_cons_of_pos (by simp[iL,hw]),List.map_cons];refine⟨_,by rw[hw];rfl,λx hx=>?_⟩;obtain⟨p,hp,e⟩:=List.mem_map.1 hx;obtain⟨h1,h2⟩:=bX.1 hp;obtain⟨q,hq,e2⟩:=List.mem_map.1 h1;have q19:q<19:=by simpa using hq
  have e2':q+2=p:=e2;exact⟨p,bu,bu,by simpa[iL]using h2,e.symm⟩
 obtain⟨L,e1,e2⟩:=e;rw[e1];refine⟨rfl,λx hx=>?_⟩;have hm:x∈L:=bK (i:=0) hx;obtain⟨p,p21,p2,pw,ex⟩:=e2 x hm;intro c;have:t.bR z p=t.bR z 1:=bu
 have:=h.one z p 1 hz p21 bu this pw;omega
theorem wv{t:T}{z n:Nat}(hw:t.bR z 1=n+1)(hl:(dX t z).length<=1)(p:Nat)(hp:p<21)(h0:t.bR z p≠0):p=1:=by
 by_cases c:p=1
 .exact c
 .exfalso;unfold dX at hl;rw[List.length_map]at hl;have s:[min p 1,max p 1].Sublist ((List.range 21).filter (iL t z)):=by
   have s1:[min p 1,max p 1].Sublist (List.range 21):=by
    have a:min p 1<max p 1:=bu
    have b:max p 1<21:=bu
    rw[show List.range 21=List.range (max p 1)++(List.range (21-max p 1)).map (max p 1+ ·)by rw[<-List.range_add];congr 1;omega];refine(List.Sublist.append (l₁:=[min p 1]) (r₁:=[max p 1]) ?_ ?_)
    .exact List.singleton_sublist.2 (by simpa using a)
    .exact List.singleton_sublist.2 (by simp;omega)
   have:=s1.filter (iL t z);rw[List.filter_eq_self.2]at this
   .exact this
   .intro x hx;simp only[List.mem_cons,List.not_mem_nil,or_false]at hx;unfold iL;rcases hx with e|e<;>rw[e]<;>apply aO
    .by_cases q:p<=1
     .rw[Nat.min_eq_left q];exact h0
     .rw[Nat.min_eq_right bu];omega
    .by_cases q:p<=1
     .rw[Nat.max_eq_right q];omega
     .rw[Nat.max_eq_left bu];exact h0
  have:=s.length_le;simp at this;omega
end
end Sp
namespace Kn
def jP(R:Kp->Nat->Kp->Prop)(z:Int):Nat->Kp->Kp->Prop
 |0,k,k'=>k'=k/\(dL k.sp z).length<=1
 |j+1,k,k'=>∃m k1,(dL k.sp z)[1]? =bh m/\R k m k1/\jP R z j k1 k'
def jk:Nat->Kp->Nat->Kp->Prop
 |0,_,_,_=>False
 |f+1,k,n,k'=>∃k1,(lv k n=true->gZ k n k1)/\(lv k n=false->k1=k)/\((hd k n≠n/\k'=eC k1 n)\/(hd k n=n/\∃k2 j,jP (jk f) (Sp.dc k.sp (n:Int):Int) j k1 k2/\k'=lK (eC k2 n) (Sp.dc k.sp (n:Int))))
structure Gz (k k':Kp)(z:Nat):Prop where
 kp:∀m,m<20->(k'.p m=k.p m/\k'.sp.of m=k.sp.of m)\/(k'.p m=Pr.no/\k'.sp.of m=0/\Sp.mem k.sp z m)
 wh:∀s p,s<6->p<21->k'.sp.bR s p=k.sp.bR s p\/k'.sp.bR s p=0
 wk:∀s p m,s<6->p<21->m<20->k.sp.bR s p=m+1->k'.sp.of m≠0->k'.sp.bR s p=m+1
 hr:∀s,s<6->k'.sp.here s=true->k.sp.here s=true
 hk:∀s,s<6->k.sp.here s=true->k'.sp.here s=false->∀m,m<20->Sp.mem k.sp s m->k'.sp.of m=0
section
variable {k k1 k2:Kp}{z y:Nat}
theorem Gz.refl(k:Kp)(z:Nat):Gz k k z:=⟨λ_ _=> .inl ⟨rfl,rfl⟩,λ_ _ _ _=> .inl rfl,λ_ _ _ _ _ _ e _=>e,λ_ _ e=>e,λ_ _ a b=>by rw[a]at b;cases b⟩
theorem Gz.back(h:Gz k k1 y){s m:Nat}(hs:s<6)(e:Sp.mem k1.sp s m):Sp.mem k.sp s m:=by
 obtain⟨p,p21,pw⟩:=e;rcases h.wh s p hs p21 with c|c
 .exact⟨p,p21,by rw[<-c];exact pw⟩
 .rw[c]at pw;omega
theorem Gz.up(h:Gz k k1 y)(e:∀m,m<20->Sp.mem k.sp y m->Sp.mem k.sp z m):Gz k k1 z:=⟨λm hm=>(h.kp m hm).imp id (λc=>⟨c.1,c.2.1,e m hm c.2.2⟩),h.wh,h.wk,h.hr,h.hk⟩
theorem Gz.trans(hz:z<6)(h:Gz k k1 z)(g:Gz k1 k2 z):Gz k k2 z:=by
 have no:Pr.no.st=0:=rfl;refine⟨λm hm=>?_,λs p hs hp=>?_,λs p m hs hp hm e c=>?_,λs hs e=>h.hr s hs (g.hr s hs e),λs hs a b m hm e=>?_⟩
 .rcases g.kp m hm with c|c
  .rcases h.kp m hm with d|d
   .exact .inl ⟨c.1.trans d.1,c.2.trans d.2⟩
   .exact .inr ⟨c.1.trans d.1,c.2.trans d.2.1,d.2.2⟩
  .exact .inr ⟨c.1,c.2.1,h.back hz c.2.2⟩
 .rcases g.wh s p hs hp with c|c
  .rw[c];exact h.wh s p hs hp
  .exact .inr c
 .have o1:k1.sp.of m≠0:=λq=>by
   rcases g.kp m hm with d|d
   .exact c (d.2.trans q)
   .exact c d.2.1
  exact g.wk s p m hs hp hm (h.wk s p m hs hp hm e o1) c
 .by_cases q:k1.sp.of m=0
  .rcases g.kp m hm with d|d
   .exact d.2.trans q
   .exact d.2.1
  .have b1:k1.sp.here s=true:=by
    cases w:k1.sp.here s
    .exact aZ (h.hk s hs a w m hm e) q
    .rfl
   refine g.hk s hs b1 b m hm ?_;obtain⟨p,p21,pw⟩:=e;exact⟨p,p21,h.wk s p m hs p21 hm pw q⟩
end
structure VI (X:Nat->Prop)(N:Nat)(d:Nat->Nat)(k:Kp):Prop where
 kj:KJ X N k
 iv:Sp.Inv k.sp d
 hs:Sp.qp k.sp
theorem iK{k:Kp}{d:Nat->Nat}(hI:Sp.Inv k.sp d)(hH:Sp.qp k.sp){n z:Nat}(hn:n<20)(ho:k.sp.of n=z+1):hd k n=n↔k.sp.bR z 1=n+1:=by
 obtain⟨_,z6,zh⟩:=hI.cO hn ho;obtain⟨x,x20,xw,xo⟩:=hH.hd z z6 zh;unfold hd;rw[Sp.gM hn ho,Sp.N3 z6 zh xw,xw];omega
theorem gZ.Ur{k k':Kp}{n m:Nat}(hs:gZ k n k')(c:m≠n):k'.p m=k.p m:=by
 obtain⟨m',_,rfl⟩:=hs;have a:∀(k:Kp) (fd:Nat->Int) j,(Kn.dO k n fd j).p m=k.p m:=λk fd j=>by
  induction j with
  |zero=>rfl
  |succ j ih=>
   show(if fd j= -1 then _ else _:Kp).p m=_;split
   .exact ih
   .show(fH _ n j (-1)).p m=_;unfold fH;rw[bM _ _ _ _ c];exact ih
 have b:(dD k n 0 16).p m=k.p m:=by
  unfold dD;split
  .show(cT k n _ (Mv.oU (k.p n).mem k.bk 0 16)).p m=_;exact bM _ _ _ _ c
  .rfl
 unfold rj;dsimp only;rw[bM _ _ _ _ c];exact(a _ _ 6).trans b
section
variable {X:Nat->Prop}{N:Nat}{d:Nat->Nat}{k k1 k':Kp}{n z:Nat}
theorem VI.first(h:VI X N d k)(hn:n<20)(hX:¬X n)(ho:k.sp.of n=z+1)(h1:lv k n=true->gZ k n k1)(h2:lv k n=false->k1=k):
  VI (λm=>X m\/m=n) N d k1/\k1.sp=k.sp/\k1.tb=k.tb/\(k1.p n).has=false/\(k1.p n).st≠0/\∀m,m≠n->k1.p m=k.p m:=by
 have s0:(k.p n).st≠0:=(h.kj.of n hn).1 bu;cases c:lv k n
 .have:=h2 c;subst this;have hh:(k1.p n).has=false:=by
   cases e:(k1.p n).has
   .rfl
   .have:=h.kj.hs n hn e;unfold lv at c;rw[this]at c;cases c
  exact⟨⟨h.kj.mono (λ_ _ e=> .inl e) (aL _),h.iv,h.hs⟩,rfl,rfl,hh,s0,λ_ _=>rfl⟩
 .have st:=h1 c;have s1:(k.p n).st=1:=by unfold lv at c;simpa using c
  have hh:=h.kj.lv n hn hX s1;have sp:=st.sp;have hf:(k1.p n).has=false:=by
   obtain⟨m',_,rfl⟩:=st;unfold rj;dsimp only;rw[bF]
  refine⟨⟨h.kj.str hn hh st,by rw[sp.1];exact h.iv,by rw[sp.1];exact h.hs⟩,sp.1,sp.2.2,hf,by rw[(st.p n).1];exact s0,λm e=>st.Ur e⟩
theorem VI.lone(h:VI X N d k)(hn:n<20)(n0:n≠0)(hX:¬X n)(ho:k.sp.of n=z+1)(hd1:hd k n≠n)(h1:lv k n=true->gZ k n k1)(h2:lv k n=false->k1=k):VI X N d (eC k1 n)/\Gz k (eC k1 n) z/\(eC k1 n).p n=Pr.no/\∀x,x<20->x≠n->(eC k1 n).p x=k.p x/\(eC k1 n).sp.of x=k.sp.of x:=by
 obtain⟨a,sp,tb,hh,s0,fT⟩:=h.first hn hX ho h1 h2;have o1:k1.sp.of n=z+1:=by rw[sp];exact ho
 have o:k1.sp.of n≠0:=bu
 have wn:k1.sp.bR z 1≠n+1:=λe=>hd1 ((iK h.iv h.hs hn ho).2 (by rw[<-sp];exact e));have e1:∀m,m≠n->(eC k1 n).p m=k.p m:=λm c=>(show(eC k1 n).p m=k1.p m from bM _ _ _ _ c).trans (fT m c);have e2:(eC k1 n).p n=Pr.no:=bF _ _ _;have kj:=(a.kj.fin hn s0 hh).mono (Y:=X) (M:=N) (λm _ e=>e.1.elim id (λq=>aZ q e.2)) (aL _);refine⟨⟨kj,a.iv.leave _,a.hs.leave hn n0 o1 wn⟩,⟨λm hm=>?_,λs p hs hp=>?_,λs p m hs hp hm e c=>?_,λs hs e=>?_,λs hs q r=>?_⟩,e2,λx _ c=>⟨e1 x c,by show(Sp.dC k1.sp (n:Int)).of x=_;rw[Sp.jV hn o,aI c,sp]⟩⟩
 .by_cases c:m=n
  .subst c;refine .inr ⟨e2,?_,(h.iv.cO hn ho).1⟩;show(Sp.dC k1.sp (m:Int)).of m=0;rw[Sp.jV hn o,aJ rfl]
  .refine .inl ⟨e1 m c,?_⟩;show(Sp.dC k1.sp (n:Int)).of m=_;rw[Sp.jV hn o,aI c,sp]
 .show(Sp.dC k1.sp (n:Int)).bR s p=_\/(Sp.dC k1.sp (n:Int)).bR s p=0;rw[Sp.kZ hn o hs,sp];by_cases c:k.sp.bR s p=n+1
  .rw[aJ c];exact .inr rfl
  .rw[aI c];exact .inl rfl
 .have c2:(Sp.dC k1.sp (n:Int)).of m≠0:=c;rw[Sp.jV hn o]at c2;show(Sp.dC k1.sp (n:Int)).bR s p=_;by_cases q:m=n
  .rw[aJ q]at c2;exact aZ rfl c2
  .rw[Sp.kZ hn o hs,sp,nJ];exact e
 .have e3:(Sp.dC k1.sp (n:Int)).here s=true:=e;rw[(Sp.je hn o).1,sp]at e3;exact e3
 .have e3:(Sp.dC k1.sp (n:Int)).here s=false:=r;rw[(Sp.je hn o).1,sp]at e3;rw[q]at e3;cases e3
end
end Kn
namespace Sp
variable {t:T}{d:Nat->Nat}
theorem Tree.lower(h:Tree t d){z y:Nat}(hz:z<6)(hh:t.here z=true)(hy:y∈W t (z:Int))(n:y≠z):d y<d z:=by
 rw[h.step hz hh]at hy;rcases List.mem_cons.1 hy with e|hy
 .exact aZ e n
 .rcases h.gx hz hh with⟨_,e,_⟩|⟨p,h1,e,h2,h3⟩
  .rw[e,nV _ _ bu]at hy;cases hy
  .rw[e]at hy;have:=(h.mem h1 h2 y hy).2.2;omega
theorem Inv.zero(h:Inv t d)(hH:qp t){z n:Nat}(hz:z<6)(hw:t.bR z 1=n+1)(n0:n≠0):¬mem t z 0:=λc=>by
 have a:=(h.mem_of hz bu c).2;rw[hH.r0.1]at a;rw[show((1-1:Nat):Int)=((0:Nat):Int)from rfl,h.tree.step bu h.tree.root.1,h.tree.root.2.1,nV _ _ bu]at a;have:z=0:=by simpa using a
 subst this;have:=hH.r0.2;omega
theorem Inv.Ad(h:Inv t d){z y n m:Nat}(hn:n<20)(hm:m<20)(ho:t.of n=z+1)(hy:t.of m=y+1)(k:mem t z m)(c:y≠z):¬mem t y n:=λe=>by
 obtain⟨_,z6,zh⟩:=h.cO hn ho;obtain⟨_,y6,yh⟩:=h.cO hm hy;have a:=(h.mem_of z6 hm k).2;rw[hy,show y+1-1=y by omega]at a;have b:=(h.mem_of y6 hn e).2;rw[ho,show z+1-1=z by omega]at b;have:=h.tree.lower y6 yh a (bQ c);have:=h.tree.lower z6 zh b c;omega
end Sp
namespace Kn
def FY(N:Nat)(d:Nat->Nat)(R:Kp->Nat->Kp->Prop):Prop:=∀(X:Nat->Prop) (k:Kp) (n:Nat) (k':Kp) (z:Nat),VI X N d k->n<20->n≠0->¬X n->k.sp.of n=z+1->(hd k n=n->∀m,m<20->X m->¬Sp.mem k.sp z m)->R k n k'->VI X N d k'/\Gz k k' z/\k'.p n=Pr.no/\(hd k n≠n->∀x,x<20->x≠n->k'.p x=k.p x/\k'.sp.of x=k.sp.of x)
structure EI (X:Nat->Prop)(N:Nat)(d:Nat->Nat)(n z:Nat)(k:Kp):Prop where
 vi:VI X N d k
 hn:n<20
 n0:n≠0
 xn:X n
 ho:k.sp.of n=z+1
 hw:k.sp.bR z 1=n+1
 hx:∀m,m<20->X m->m≠n->¬Sp.mem k.sp z m
section
variable {X:Nat->Prop}{N:Nat}{d:Nat->Nat}{k k1 k2 k':Kp}{n z m:Nat}{R:Kp->Nat->Kp->Prop}
theorem EI.z6(h:EI X N d n z k):z<6/\k.sp.here z=true:=(h.vi.iv.cO h.hn h.ho).2
theorem EI.dX(h:EI X N d n z k):dL k.sp (z:Int)=Sp.dX k.sp z:=by
 unfold dL;rw[Sp.gw h.z6.1 h.z6.2,aJ rfl,hZ]
theorem EI.next(h:EI X N d n z k)(hm:(dL k.sp (z:Int))[1]? =bh m):m<20/\m≠0/\m≠n/\¬X m/\Sp.mem k.sp z m/\∃y,k.sp.of m=y+1/\(hd k m=m->∀x,x<20->X x->¬Sp.mem k.sp y x):=by
 rw[h.dX]at hm;obtain⟨m20,mz⟩:=Sp.rC hm (λp hp=>h.vi.iv.oK z p h.z6.1 hp);have mn:=(h.vi.iv.second h.z6.1 h.hw).2 m hm;have m0:m≠0:=λe=>by subst e;exact h.vi.iv.zero h.vi.hs h.z6.1 h.hw h.n0 mz
 have o:=(h.vi.iv.mem_of h.z6.1 m20 mz).1;refine⟨m20,m0,mn,λc=>h.hx m m20 c mn mz,mz,k.sp.of m-1,bu,λhd1 x x20 xx xm=>?_⟩;have hy:k.sp.of m=(k.sp.of m-1)+1:=bu
 by_cases e:x=n
 .subst e;refine h.vi.iv.Ad h.hn m20 h.ho hy mz (λc=>?_) xm;have:=(iK h.vi.iv h.vi.hs m20 hy).1 hd1;rw[c,h.hw]at this;omega
 .exact h.hx x x20 xx e (h.vi.iv.Cq h.z6.1 m20 x20 hy mz xm)
theorem EI.step(h:EI X N d n z k)(hm:(dL k.sp (z:Int))[1]? =bh m)(hR:FY N d R)(r:R k m k1):EI X N d n z k1/\Gz k k1 z/\k1.p n=k.p n/\k1.p m=Pr.no:=by
 obtain⟨m20,m0,mn,mx,mz,y,hy,hx⟩:=h.next hm;obtain⟨v1,g1,e1,l1⟩:=hR X k m k1 y h.vi m20 m0 mx hy hx r;have kn:k1.p n=k.p n/\k1.sp.of n=k.sp.of n:=by
  by_cases c:hd k m=m
  .rcases g1.kp n h.hn with q|q
   .exact q
   .exact aZ q.2.2 (hx c n h.hn h.xn)
  .exact l1 c n h.hn (bQ mn)
 have o1:k1.sp.of n=z+1:=kn.2.trans h.ho;have g:Gz k k1 z:=g1.up (λx x20 xm=>h.vi.iv.Cq h.z6.1 m20 x20 hy mz xm);exact⟨⟨v1,h.hn,h.n0,h.xn,o1,g.wk z 1 n h.z6.1 bu h.hn h.hw bu,λx x20 xx xn c=>h.hx x x20 xx xn (g.back h.z6.1 c)⟩,g,kn.1,e1⟩
theorem EI.iter(hR:FY N d R):∀(j:Nat) (k:Kp),EI X N d n z k->jP R (z:Int) j k k'->EI X N d n z k'/\Gz k k' z/\k'.p n=k.p n/\(dL k'.sp (z:Int)).length<=1
 |0,k,h,r=>by
  obtain⟨rfl,hl⟩:=r;exact⟨h,Gz.refl _ _,rfl,hl⟩
 |j+1,k,h,r=>by
  obtain⟨m,k1,hm,r1,r2⟩:=r;obtain⟨a,g,e,_⟩:=h.step hm hR r1;obtain⟨a2,g2,e2,l2⟩:=EI.iter hR j k1 a r2;exact⟨a2,g.trans h.z6.1 g2,e2.trans e,l2⟩
theorem EI.last(h:EI (λm=>X m\/m=n) N d n z k)(hX:¬X n)(hl:(dL k.sp (z:Int)).length<=1)(hh:(k.p n).has=false)(s0:(k.p n).st≠0):
  VI X N d (lK (eC k n) z)/\Gz k (lK (eC k n) z) z/\(lK (eC k n) z).p n=Pr.no/\Sp.iJ (eC k n).sp (z:Int)=0:=by
 have o:k.sp.of n≠0:=by have:=h.ho;omega
 have hn:=h.hn;rw[h.dX]at hl;obtain⟨de,hs⟩:=h.vi.hs.shut h.vi.iv hn h.n0 h.ho h.z6.1 h.z6.2 h.hw (Sp.wv h.hw hl);have kj:=(h.vi.kj.fin hn s0 hh).mono (Y:=X) (M:=N) (λm _ e=>e.1.elim id (λq=>aZ q e.2)) (aL _);have hr:(eC k n).sp.here z=true:=by show(Sp.dC k.sp (n:Int)).here z=true;rw[(Sp.je hn o).1];exact h.z6.2
 have e1:∀m,m≠n->(lK (eC k n) z).p m=k.p m:=λm c=>bM _ _ _ _ c;have e2:(lK (eC k n) z).p n=Pr.no:=bF _ _ _;have es:(lK (eC k n) z).sp={Sp.dC k.sp (n:Int)with here:=Sp.mF (Sp.dC k.sp (n:Int)).here z false,par:=Sp.fY (Sp.dC k.sp (n:Int)).par z 0}:=by
  show Sp.gB (Sp.dC k.sp (n:Int)) (z:Int)=_;unfold Sp.gB;rw[aJ de,hZ]
 refine⟨⟨kj.Ut h.z6.1 hr de,(h.vi.iv.leave _).drop _,hs⟩,⟨λm hm=>?_,λs p hs hp=>?_,λs p m hs hp hm e c=>?_,λs hs e=>?_,λs hs q r m hm mm=>?_⟩,e2,de⟩
 .rw[es];show(_/\(Sp.dC k.sp (n:Int)).of m=_)\/(_/\(Sp.dC k.sp (n:Int)).of m=0/\_);rw[Sp.jV hn o];by_cases c:m=n
  .subst c;exact .inr ⟨e2,aJ rfl,(h.vi.iv.cO hn h.ho).1⟩
  .exact .inl ⟨e1 m c,aI c⟩
 .rw[es];show(Sp.dC k.sp (n:Int)).bR s p=_\/(Sp.dC k.sp (n:Int)).bR s p=0;rw[Sp.kZ hn o hs];by_cases c:k.sp.bR s p=n+1
  .rw[aJ c];exact .inr rfl
  .rw[aI c];exact .inl rfl
 .rw[es]at c|-;have c2:(Sp.dC k.sp (n:Int)).of m≠0:=c;rw[Sp.jV hn o]at c2;show(Sp.dC k.sp (n:Int)).bR s p=_;by_cases q:m=n
  .rw[aJ q]at c2;exact aZ rfl c2
  .rw[Sp.kZ hn o hs,nJ];exact e
 .rw[es]at e;have e3:(if s=z then false else(Sp.dC k.sp (n:Int)).here s)=true:=e;by_cases c:s=z
  .rw[aJ c]at e3;cases e3
  .rw[aI c,(Sp.je hn o).1]at e3;exact e3
 .rw[es]at r|-;have e3:(if s=z then false else(Sp.dC k.sp (n:Int)).here s)=false:=r;by_cases c:s=z
  .subst c;obtain⟨p,p21,pw⟩:=mm;have p1:=Sp.wv h.hw hl p p21 bu;subst p1;have:m=n:=by have:=h.hw;omega
   subst this;show(Sp.dC k.sp (m:Int)).of m=0;rw[Sp.jV hn o,aJ rfl]
  .rw[aI c,(Sp.je hn o).1,q]at e3;cases e3
theorem rQ:∀f,FY N d (jk f)
 |0=>λ_ _ _ _ _ _ _ _ _ _ _ r=>r.elim
 |f+1=>λX k n k' z h hn n0 hX ho hx r=>by
  obtain⟨k1,h1,h2,r⟩:=r;rcases r with⟨c,rfl⟩|⟨c,k2,j,ri,rfl⟩
  .obtain⟨a,b,e,l⟩:=h.lone hn n0 hX ho c h1 h2;exact⟨a,b,e,λ_=>l⟩
  .obtain⟨a,sp,tb,hh,s0,fT⟩:=h.first hn hX ho h1 h2;have zi:Sp.dc k.sp (n:Int)=z:=Sp.gM hn ho;rw[zi]at ri|-;have ei:EI (λm=>X m\/m=n) N d n z k1:=⟨a,hn,n0, .inr rfl,by rw[sp];exact ho,by rw[sp];exact(iK h.iv h.hs hn ho).1 c,λm m20 xm mn mz=>by
    rw[sp]at mz;exact hx c m m20 (xm.elim id (λq=>aZ q mn)) mz⟩
   obtain⟨b,g,e,l⟩:=EI.iter (rQ f) j k1 ei ri;obtain⟨v,g2,e2,_⟩:=b.last hX l (by rw[e];exact hh) (by rw[e];exact s0);have gg:=g.trans ei.z6.1 g2;refine⟨v,⟨λm hm=>?_,λs p hs hp=>?_,λs p m hs hp hm=>?_,λs hs=>?_,λs hs=>?_⟩,e2,λq=>aZ c q⟩
   .by_cases q:m=n
    .subst q;rcases gg.kp m hm with w|w
     .rcases g2.kp m hm with y|y
      .exfalso;have:(k2.p m)=Pr.no:=y.1.symm.trans e2;rw[<-e,this]at s0;exact s0 rfl
      .exact .inr ⟨e2,y.2.1,(h.iv.cO hm ho).1⟩
     .exact .inr ⟨w.1,w.2.1,by rw[<-sp];exact w.2.2⟩
    .have:=gg.kp m hm;rw[fT m q,sp]at this;exact this
   .have:=gg.wh s p hs hp;rw[sp]at this;exact this
   .have:=gg.wk s p m hs hp hm;rw[sp]at this;exact this
   .have:=gg.hr s hs;rw[sp]at this;exact this
   .have:=gg.hk s hs;rw[sp]at this;exact this
end
end Kn
def dK(a b:Nat)(x:Pr):Array Value:=((List.range 12).map λj=>Kn.eW a b x j).toArray
theorem dy(a b:Nat)(x:Pr):(dK a b x).size=12:=by simp[dK]
theorem kU(a b:Nat)(x:Pr)(j:Nat)(h:j<12):(dK a b x)[j]? =bh (Kn.eW a b x j):=by simp[dK,h]
theorem PX(a b:Nat)(x:Pr)(j:Nat):(Kn.eW a b x j).oneCell'=true:=by
 unfold Kn.eW Kn.ptr
 repeat' split
 all_goals rfl
theorem pA(a b:Nat)(x:Pr):(dK a b x).all (·.oneCell')=true:=Array.all_eq_true_iff_forall_mem.2 (λv hv=>by
 unfold dK at hv;rw[List.mem_toArray]at hv;obtain⟨j,_,rfl⟩:=List.mem_map.1 hv;exact PX a b x j)
theorem xV(a b:Nat):dK a b Pr.no=#[aa az 0,aa az 0,aa az 0,aa az 0,ai bj,ai bj,aa az 0,aa az 0,aa az 0,aa az 0,aa az 0,aa az 0]:=rfl
section
variable {w w':bD}{UE:Nat}{s:St}
theorem bH.there(h:bH w UE s){n:Nat}(hn:n<20):w.there (s.A 0) (n*12) 12:=λj hj=>⟨by rw[h.cP n j hn hj];rfl,h.frozen _⟩
theorem bH.whole(h:bH w UE s){n:Nat}(hn:n<20){x:Pr}(h1:(s.k.p n).has=false)(h2:x.has=false)(a b:Nat):
  bH (w.setCells (s.A 0) (n*12) (dK a b x).toList) UE {s with k:=s.k.put n x}/\KF s w {s with k:=s.k.put n x} (w.setCells (s.A 0) (n*12) (dK a b x).toList):=by
 obtain⟨C,e,sz⟩:=h.lO;obtain⟨C',e',sz'⟩:=dY (s.A 0) (dK a b x).toList (n*12) w C e;have hl:(dK a b x).toList.length=12:=by rw[aB,dy]
 have f:bE (s.A 0) w (w.setCells (s.A 0) (n*12) (dK a b x).toList):=bE.setCells _ _ (bE.refl _ _);have pcn:∀c d j,Kn.eW c d x j=Kn.eW a b x j:=λc d j=>by
  unfold Kn.eW;rw[h2];rfl
 have dQ:∀o,o<253->(w.setCells (s.A 0) (n*12) (dK a b x).toList).cell? ⟨s.A 0,o,bj⟩=bh (Kn.kc {s with k:=s.k.put n x} o):=λo ho=>by
  rw[Kn.xO];by_cases c:o<240/\o/12=n
  .rw[aJ c,pcn];obtain⟨j,rfl,hj⟩:∃j,o=n*12+j/\j<12:=⟨o%12,bu,bu⟩;rw[aS (s.A 0) (dK a b x).toList (n*12) w (λi hi=>by rw[hl]at hi;rw[h.cP n i hn hi];rfl) j bu,<-aW bu,aM,kU a b x j hj,show(n*12+j)%12=j by omega]
  .rw[aI c,aA (s.A 0) _ (n*12) w ⟨s.A 0,o,bj⟩ (λ_ _=>by rw[hl];show o<_\/_<=o;omega)];exact h.dQ o ho
 have o:=h.others bS f;have hp:∀j,((s.k.put n x).p j).has=true->j≠n/\(s.k.put n x).p j=s.k.p j:=λj hj=>by
  by_cases c:j=n
  .subst c;rw[Kn.bF,h2]at hj;cases hj
  .exact⟨c,Kn.bM _ _ _ _ c⟩
 have pu:=Kn.zu (s:=s) (n:=n) (x:=x) (h2.trans h1.symm);refine⟨⟨⟨C',e',bu⟩,dQ,h.sp.same (o 1 bS bu),(o 2 bS bu).trans h.gr,h.sc.same (o 3 bS bu),h.bk.same (o 4 bS bu) (o 5 bS bu),h.fi.same (o 8 bS bu),h.fo.same (o 6 bS bu),h.pi.same (o 7 bS bu),
  λj hj jh=>?_,λj hj jh=>?_,
  λn hn hh=>(h.tb n hn hh).same (o _ (Kn.jL hn hh) bu) (λg eg=>by have:=o _ (Kn.jD hn hh eg) bu;rwa [h.ro n hn hh g eg]at this),h.ro,λi j hi hj=>h.inj i j ((pu i).1 hi) ((pu j).1 hj),λi hi=>h.low i ((pu i).1 hi)⟩,KF.one _ bS f rfl (λi hi=>(pu i).1 hi)⟩
 .have q:=hp j jh;rw[q.2]at jh|-;exact(h.me j hj jh).same (o _ (Kn.iD hj jh) bu)
 .have q:=hp j jh;rw[q.2]at jh|-;exact(h.bx j hj jh).same (o _ (Kn.jC hj jh) bu)
theorem bH.SV(h:bH w UE s){z:Nat}(hz:z<6)(hh:s.k.ht z=true){F:Fo}(u:bN w' (s.A 6) F)(k:dF (BF (s.A (49+z)) (s.A 6)) w w'):
  bH (w'.setCell ⟨s.A 0,240+z,bj⟩ (ai bj)) UE {s with k:={s.k with fo:=F,ht:=λx=>if x=z then false else s.k.ht x}}/\KF s w {s with k:={s.k with fo:=F,ht:=λx=>if x=z then false else s.k.ht x}} (w'.setCell ⟨s.A 0,240+z,bj⟩ (ai bj)):=by
 have ut:=Kn.jL hz hh;have o:∀i,us s i->i≠49+z->i≠6->w'.heap[s.A i]? =w.heap[s.A i]? :=λi hi a b=>k.block _ (h.lt hi) (λc=>by
  rcases c with c|c
  .exact h.ne hi ut a c
  .exact h.ne hi bS b c)
 have sb:∀i,us s i->i≠0->(w'.setCell ⟨s.A 0,240+z,bj⟩ (ai bj)).heap[s.A i]? =w'.heap[s.A i]? :=λi hi a=>dJ _ _ _ _ (h.ne hi bS a);have oo:∀i,us s i->i≠0->i≠49+z->i≠6->(w'.setCell ⟨s.A 0,240+z,bj⟩ (ai bj)).heap[s.A i]? =w.heap[s.A i]? :=λi hi a b c=>(sb i hi a).trans (o i hi b c);obtain⟨C,e,sz⟩:=h.lO;have e1:w'.heap[s.A 0]? =bh (bg C 86 (0,0)):=(o 0 bS bu bu).trans e;have pu:∀i,us {s with k:={s.k with fo:=F,ht:=λx=>if x=z then false else s.k.ht x}} i->us s i/\i≠49+z/\i≠55+z:=λi hi=>by
  rcases hi with hi|⟨h1,h2,h3⟩|⟨h1,h2,h3⟩|⟨h1,h2,h3⟩|⟨h1,h2,h3,h4⟩
  .exact⟨.inl hi,bu,bu⟩
  .exact⟨.inr (.inl ⟨h1,h2,h3⟩),bu,bu⟩
  .exact⟨.inr (.inr (.inl ⟨h1,h2,h3⟩)),bu,bu⟩
  .have h5:(if i-49=z then false else s.k.ht (i-49))=true:=h3;by_cases c:i-49=z
   .rw[aJ c]at h5;cases h5
   .rw[aI c]at h5;exact⟨.inr (.inr (.inr (.inl ⟨h1,h2,h5⟩))),bu,bu⟩
  .have h5:(if i-55=z then false else s.k.ht (i-55))=true:=h3;by_cases c:i-55=z
   .rw[aJ c]at h5;cases h5
   .rw[aI c]at h5;exact⟨.inr (.inr (.inr (.inr ⟨h1,h2,h5,h4⟩))),bu,bu⟩
 have hq:∀n,(if n=z then false else s.k.ht n)=true->n≠z/\s.k.ht n=true:=λn q=>by
  by_cases c:n=z
  .rw[aJ c]at q;cases q
  .rw[aI c]at q;exact⟨c,q⟩
 refine⟨⟨⟨_,cE e1 _ _,by simpa using sz⟩,λx hx=>?_,h.sp.same (oo 1 bS bu bu bu),(oo 2 bS bu bu bu).trans h.gr,h.sc.same (oo 3 bS bu bu bu),h.bk.same (oo 4 bS bu bu bu) (oo 5 bS bu bu bu),h.fi.same (oo 8 bS bu bu bu),u.same (sb 6 bS bu),h.pi.same (oo 7 bS bu bu bu),
  λn hn hh=>(h.me n hn hh).same (oo _ (Kn.iD hn hh) bu bu bu),λn hn hh=>(h.bx n hn hh).same (oo _ (Kn.jC hn hh) bu bu bu),
  λn hn q=>?_,λn hn q=>h.ro n hn (hq n q).2,λi j hi hj=>h.inj i j (pu i hi).1 (pu j hj).1,λi hi=>h.low i (pu i hi).1⟩,
  ⟨(k.mono (λb _ c=>by
   rcases c with c|c
   .exact⟨_,ut,c⟩
   .exact⟨6,bS,c⟩)).setCell ⟨0,bS,rfl⟩ _ _,λb ⟨i,hi,eb⟩=> .inl ⟨i,(pu i hi).1,eb⟩,rfl⟩⟩
 .by_cases c:x=240+z
  .subst c;rw[du e1 _ _ bu];unfold Kn.kc;rw[nJ,nK,show 240+z-240=z by omega];show _=bh (Kn.ptr _ (if z=z then false else _));rw[aJ rfl];rfl
  .rw[da e1 _ _ _ (bQ c),bO e1,<-bO e,h.dQ x hx];unfold Kn.kc;by_cases c1:x<240
   .rw[aJ c1,aJ c1];rfl
   .rw[aI c1,aI c1];by_cases c2:x<246
    .rw[aJ c2,aJ c2];have hy:x-240≠z:=bu
     generalize x-240=y at hy|-;show bh (Kn.ptr (s.A (49+y)) (s.k.ht y))=bh (Kn.ptr (s.A (49+y)) (if y=z then false else s.k.ht y));rw[aI hy]
    .rw[aI c2,aI c2]
 .have q2:=hq n q;exact(h.tb n hn q2.2).same (oo _ (Kn.jL hn q2.2) bu bu bu) (λg eg=>by have:=oo _ (Kn.jD hn q2.2 eg) bu bu bu;rwa [h.ro n hn q2.2 g eg]at this)
end
theorem Pe{P Q:Nat->Bool}(h:∀x,P x=true->Q x=true){a:Nat}(hQ:Q a=true)(hP:P a=false):∀n,a<n->((List.range n).filter P).length<((List.range n).filter Q).length:=by
 have le:∀n,((List.range n).filter P).length<=((List.range n).filter Q).length:=λn=>by
  induction n with
  |zero=>exact aL _
  |succ n ih=>
   rw[List.range_succ,List.filter_append,List.filter_append,List.length_append,List.length_append];cases hp:P n
   .simp[hp];omega
   .simp[hp,h n hp];omega
 intro n
 induction n with
 |zero=>intro c;omega
 |succ n ih=>
  intro c;rw[List.range_succ,List.filter_append,List.filter_append,List.length_append,List.length_append];by_cases e:a=n
  .subst e;have:=le a;simp[hP,hQ];omega
  .have:=ih bu;cases hp:P n
   .simp[hp];omega
   .simp[hp,h n hp];omega
namespace Kn
theorem EI.Sk{X:Nat->Prop}{N:Nat}{d:Nat->Nat}{k k1:Kp}{n z m:Nat}(h:EI X N d n z k)(h1:EI X N d n z k1)(g:Gz k k1 z)(m20:m<20)(mz:Sp.mem k.sp z m)(e:k1.p m=Pr.no):(dL k1.sp (z:Int)).length<(dL k.sp (z:Int)).length:=by
 rw[h.dX,h1.dX];unfold Sp.dX;rw[List.length_map,List.length_map];obtain⟨p,p21,pw⟩:=mz;have o:k1.sp.of m=0:=by
  cases q:k1.sp.of m with
  |zero=>rfl
  |succ y=>exact aZ (show(k1.p m).st=0 by rw[e];rfl) ((h1.vi.kj.of m m20).1 (by rw[q];omega))
 have w0:k1.sp.bR z p=0:=by
  rcases g.wh z p h.z6.1 p21 with c|c
  .exact aZ o (h1.vi.iv.mem_of h1.z6.1 m20 ⟨p,p21,by rw[c];exact pw⟩).1
  .exact c
 have key:∀q,(Sp.iL k1.sp z q&&decide (q<21))=true->(Sp.iL k.sp z q&&decide (q<21))=true:=λq hq=>by
  have hq2:k1.sp.bR z q≠0/\q<21:=by simpa[Sp.iL]using hq
  rcases g.wh z q h.z6.1 hq2.2 with c|c
  .simp[Sp.iL,<-c,hq2]
  .exact aZ c hq2.1
 have eq:∀t:Sp.T,(List.range 21).filter (Sp.iL t z)=(List.range 21).filter (λq=>Sp.iL t z q&&decide (q<21)):=λt=>List.filter_congr (λq hq=>by
  have:q<21:=by simpa using hq
  simp[this])
 rw[eq k1.sp,eq k.sp];exact Pe key (a:=p) (by simp[Sp.iL,pw,p21]) (by simp[Sp.iL,w0]) 21 p21
end Kn
