import Derived.Test.YtpmmdkcfenjiaaaGreatDoorYam
set_option maxRecDepth 100000
set_option maxHeartbeats 4000000
set_option linter.unusedVariables false
set_option linter.unusedSimpArgs false
namespace Go.Proofs.YtpmmdkcfenjiaaaGreatDoor
open Value renaming int->aa,pointer->ai,slice->aj,tuple->ao,agg->au
open IntKind renaming i64->az
open Ending renaming returned->bf
open Obj renaming cells->bh
open Option renaming some->bj,none->bu
open Bool renaming true->bw,false->bA
open Tryz (prog)
open Go.RowKit
open Pp (Pi)
variable {E:Int}{L:List Nat}{N Wt a bb c i m mb n q r x y z:Nat}{d:Nat->Nat}{R:Nat->Pi}{X:Nat->Prop}{w:bD}{s:bU}
def Pp.gB:Nat->Pi:=λ_=>Pi.no
def Pp.zA:Array Value:=((List.range 120).map λo=>if o%15<12 then aa .u8 0 else aa .i64 0).toArray
theorem Pp.zP(o:Nat)(h:o<120):Pp.zA[o]? =bj (if o%15<12 then aa .u8 0 else aa .i64 0):=by simp[Pp.zA,h]
theorem Pp.zeroV(w:bD):(zeroValue 122).run prog w= .ok (au Pp.zA) w:=by kernel_rfl
section
variable {ops:Array Oper}{rest:List Oper}{x:Oper}{a:Act}{w:bD}{Q:Exit->Act->bD->Prop}
theorem Pp.M4(hgd:x.guard=bu)(ho:x.op= .build 122 #[])(h:wpList prog ops Q rest (a.put x.dst (au Pp.zA)) w):wpList prog ops Q (x::rest) a w:=
 wpList_plain hgd λ_ hK=>by
  unfold Oper.wp execOp;have hz:=Pp.zeroV w;simp only[ho];simp[go_sem,hz];exact hK _ _ h
end
theorem dW.zero{b:Nat}{T:TypeId}(h:w.heap[b]? =bj (bh Pp.zA T (0,0))):dW w b Pp.gB:=by
 refine⟨⟨_,T,h,by simp[Pp.zA]⟩,λn hn j v hv=>?_,λn hn=>?_,λn hn=>?_,λn hn=>?_,λn hn=>aC _⟩
 .exact aZ (Pp.py hv) (by show¬j<0;omega)
 .rw[bR h,Pp.zP _ bB,nJ];rfl
 .rw[bR h,Pp.zP _ bB,nJ];rfl
 .rw[bR h,Pp.zP _ bB,nJ];rfl
theorem Gb(w:bD):dW (w.alloc (bh Pp.zA 122)) w.heap.size Pp.gB/\Below w.heap.size w (w.alloc (bh Pp.zA 122)):=by
 exact⟨dW.zero (heap_alloc_new w _),(aQ _ _).alloc (aL _) _⟩
open Fx (Fi)
open Tr (Fo Nd)
def Fx.hit(x:Fi)(k m:Nat):Nat:=if x.refs≠0/\x.kind=k/\x.num=m then 1 else 0
def Fx.cK(T:Nat->Fi)(k m:Nat):Nat->Nat
 |0=>0
 |n+1=>Fx.cK T k m n+Fx.hit (T n) k m
theorem Fx.J4(T:Nat->Fi)(n:Nat)(x:Fi)(k m:Nat):∀N,Fx.cK (Fx.put T n x) k m N+(if n<N then Fx.hit (T n) k m else 0)=Fx.cK T k m N+(if n<N then Fx.hit x k m else 0)
 |0=>by rw[aI (Nat.not_lt_zero n),aI (Nat.not_lt_zero n)];rfl
 |N+1=>by
  have ih:=Fx.J4 T n x k m N;show Fx.cK (Fx.put T n x) k m N+Fx.hit (Fx.put T n x N) k m+_=Fx.cK T k m N+Fx.hit (T N) k m+_;by_cases c:N=n
  .subst c;rw[Fx.bM,aJ (Nat.lt_succ_self N),aJ (Nat.lt_succ_self N)];rw[aI (bV N),aI (bV N)]at ih;omega
  .rw[Fx.bP _ _ _ _ c];by_cases d:n<N
   .rw[nK,nK];rw[aJ d,aJ d]at ih;omega
   .rw[nJ,nJ];rw[aI d,aI d]at ih;omega
theorem Fx.yJ(T:Nat->Fi)(x:Fi)(k m:Nat)(hn:n<24):Fx.cK (Fx.put T n x) k m 24+Fx.hit (T n) k m=Fx.cK T k m 24+Fx.hit x k m:=by
 have:=Fx.J4 T n x k m 24;rw[aJ hn,aJ hn]at this;exact this
theorem Fx.TF(x:Fi)(k m:Nat):Fx.hit x k m<=1:=by unfold Fx.hit;split<;>omega
theorem Fx.TG(k m:Nat):Fx.hit Fi.no k m=0:=aI (λd=>d.1 rfl)
theorem Fx.xr{x:Fi}(h:x.refs=0)(k m:Nat):Fx.hit x k m=0:=aI (λd=>d.1 h)
theorem Fx.nC{x:Fi}(h:x.refs≠0):Fx.hit x x.kind x.num=1:=aJ ⟨h,rfl,rfl⟩
theorem Fx.Oe{x y:Fi}(h1:x.refs≠0)(h2:y.refs≠0)(hk:x.kind=y.kind)(hn:x.num=y.num)(k m:Nat):Fx.hit x k m=Fx.hit y k m:=by
 unfold Fx.hit;rw[hk,hn];by_cases c:y.kind=k/\y.num=m
 .rw[aJ ⟨h1,c⟩,aJ ⟨h2,c⟩]
 .rw[aI (λd=>c d.2),aI (λd=>c d.2)]
theorem Fx.rm{T:Nat->Fi}{k m:Nat}:∀{N n:Nat},n<N->Fx.hit (T n) k m<=Fx.cK T k m N
 |0,n,h=>aZ h (Nat.not_lt_zero n)
 |N+1,n,h=>by
  show _<=Fx.cK T k m N+Fx.hit (T N) k m;by_cases c:n=N
  .subst c;omega
  .have:=Fx.rm (T:=T) (k:=k) (m:=m) (N:=N) (n:=n) bB;omega
theorem Fx.sY(T:Nat->Fi)(k m:Nat):∀N,Fx.cK T k m N<=N
 |0=>aL 0
 |N+1=>by
  have:=Fx.sY T k m N;have:=Fx.TF (T N) k m;show Fx.cK T k m N+Fx.hit (T N) k m<=N+1;omega
structure WX (xx:Nat->Nat)(T:Nat->Fi)(F:Fo)(S:Nat->Pi):Prop where
 no:∀n,n<24->(T n).refs=0->T n=Fi.no
 kd:∀n,n<24->(T n).refs≠0->(T n).kind=1\/(T n).kind=2\/(T n).kind=3
 nd:∀n,n<24->(T n).refs≠0->(T n).kind=1->(T n).num<40/\(F.nd (T n).num).kind=1
 pn:∀n,n<24->(T n).refs≠0->(T n).kind≠1->(T n).num<8
 ps:∀n,n<24->(T n).pos<=40
 hl:∀m,m<40->(F.nd m).held=Fx.cK T 1 m 24+xx m
 z0:∀m,m<40->(F.nd m).kind=0->(F.nd m).held=0
 rd:∀m,m<8->(S m).reads=Fx.cK T 2 m 24
 wt:∀m,m<8->(S m).writes=Fx.cK T 3 m 24
section
variable {xx:Nat->Nat}{T:Nat->Fi}{F G:Fo}{S:Nat->Pi}
theorem WX.sm(h:WX xx T F S)(hx:∀m,m<40->xx m<=600):Fx.Sm F S:=by
 refine⟨λn hn=>?_,λwr n hn=>?_⟩
 .rw[h.hl n hn];have:=Fx.sY T 1 n 24;have:=hx n hn;omega
 .unfold Pp.kT;cases wr
  .show(S n).reads<_;rw[h.rd n hn];have:=Fx.sY T 2 n 24;omega
  .show(S n).writes<_;rw[h.wt n hn];have:=Fx.sY T 3 n 24;omega
theorem WX.pz(h:WX xx T F S):Fx.Pz T:=λn hn=>by
 have p:40<2^60:=by decide
 have:=h.ps n hn;omega
theorem WX.letE(h:WX xx T F S){n:Nat}(hn:n<24)(r:(T n).refs≠0)(k:(T n).kind=1):Tr.letE F ((T n).num:Int)=0:=by
 obtain⟨a,b⟩:=h.nd n hn r k;have c:=h.hl _ a;have d:=Fx.rm (T:=T) (k:=1) (m:=(T n).num) hn;have e:=Fx.nC r;rw[k]at e;have z:Tr.cH F ((T n).num:Int)=0:=by
  unfold Tr.cH;grind
 unfold Tr.letE;rw[aJ z,hZ,nJ]
theorem WX.im(h:WX xx T F S){n:Nat}(hn:n<24)(r:(T n).refs≠0)(k:(T n).kind≠1):Pp.im S ((T n).num:Int) (decide ((T n).kind=3))=0:=by
 have a:=h.pn n hn r k;have e:=Fx.nC r;have tm:Pp.kT (S (T n).num) (decide ((T n).kind=3))≠0:=by
  rcases h.kd n hn r with c|c|c
  .exact aZ c k
  .rw[c];show(S (T n).num).reads≠0;rw[h.rd _ a];have d:=Fx.rm (T:=T) (k:=2) (m:=(T n).num) hn;rw[c]at e;omega
  .rw[c];show(S (T n).num).writes≠0;rw[h.wt _ a];have d:=Fx.rm (T:=T) (k:=3) (m:=(T n).num) hn;rw[c]at e;omega
 have th:Pp.mG (S (T n).num)=bw:=by
  apply aO;unfold Pp.kT at tm;grind
 have z:Pp.j4 S ((T n).num:Int)=0:=by
  unfold Pp.j4;rw[hZ,nJ,aJ th]
 unfold Pp.im;rw[z,aI (λd=>d rfl),hZ,aI tm]
theorem WX.sr(h:WX xx T F S)(hh:∀m,m<40->(G.nd m).held=(F.nd m).held)(hk:∀m,m<40->(F.nd m).held≠0->(G.nd m).kind=(F.nd m).kind)(hz:∀m,m<40->(G.nd m).kind=0->(G.nd m).held=0):WX xx T G S:=by
 refine⟨h.no,h.kd,λn hn r k=>?_,h.pn,h.ps,λm hm=>(hh m hm).trans (h.hl m hm),hz,h.rd,h.wt⟩;obtain⟨a,b⟩:=h.nd n hn r k;refine⟨a,?_⟩;rw[hk _ a ?_]
 .exact b
 .rw[h.hl _ a];have d:=Fx.rm (T:=T) (k:=1) (m:=(T n).num) hn;have e:=Fx.nC r;rw[k]at e;omega
theorem WX.Qi(h:WX xx T F S)(h1:∀m,m<8->(R m).reads=(S m).reads/\(R m).writes=(S m).writes):WX xx T F R:=
 ⟨h.no,h.kd,h.nd,h.pn,h.ps,h.hl,h.z0,λm hm=>(h1 m hm).1.trans (h.rd m hm),λm hm=>(h1 m hm).2.trans (h.wt m hm)⟩
theorem WX.kP(h:WX xx T F S)(hn:n<24)(r:(T n).refs≠0)(x:Fi)(h1:x.refs≠0)(h2:x.kind=(T n).kind)(h3:x.num=(T n).num)(h4:x.pos<=40):WX xx (Fx.put T n x) F S:=by
 have cc:∀k m,Fx.cK (Fx.put T n x) k m 24=Fx.cK T k m 24:=λk m=>by
  have:=Fx.yJ T x k m hn;rw[Fx.Oe h1 r h2 h3]at this;omega
 refine⟨λm hm e=>?_,λm hm e=>?_,λm hm e k=>?_,λm hm e k=>?_,λm hm=>?_,λm hm=>by rw[cc 1 m];exact h.hl m hm,h.z0,λm hm=>(h.rd m hm).trans (cc 2 m).symm,λm hm=>(h.wt m hm).trans (cc 3 m).symm⟩
 .by_cases c:m=n
  .subst c;rw[Fx.bM]at e;exact aZ e h1
  .rw[Fx.bP _ _ _ _ c]at e|-;exact h.no m hm e
 .by_cases c:m=n
  .subst c;rw[Fx.bM,h2];exact h.kd m hm r
  .rw[Fx.bP _ _ _ _ c]at e|-;exact h.kd m hm e
 .by_cases c:m=n
  .subst c;rw[Fx.bM]at k|-;rw[h3];exact h.nd m hm r (by rw[<-h2];exact k)
  .rw[Fx.bP _ _ _ _ c]at e k|-;exact h.nd m hm e k
 .by_cases c:m=n
  .subst c;rw[Fx.bM]at k|-;rw[h3];exact h.pn m hm r (by rw[<-h2];exact k)
  .rw[Fx.bP _ _ _ _ c]at e k|-;exact h.pn m hm e k
 .by_cases c:m=n
  .subst c;rw[Fx.bM];exact h4
  .rw[Fx.bP _ _ _ _ c];exact h.ps m hm
theorem WX.node(h:WX xx T F S){K:Nat}{wr:Bool}(hl:Fx.ue T K)(hz:Tr.cN F (z:Int) 1=0):WX xx (Fx.put T K ⟨1,z,wr,0,1⟩) (Tr.dP F (z:Int)) S:=by
 obtain⟨n,e,n40,_,k1⟩:=Tr.fD hz;obtain rfl:z=n:=bB
 have ne:Tr.cH F (z:Int)=0:=by
  unfold Tr.cH;rw[hZ,nJ,nJ]
 have eh:Tr.dP F (z:Int)=F.put z {F.nd z with held:=(F.nd z).held+1}:=by unfold Tr.dP;rw[aJ ne,hZ]
 have cc:∀k m,Fx.cK (Fx.put T K ⟨1,z,wr,0,1⟩) k m 24=Fx.cK T k m 24+if k=1/\m=z then 1 else 0:=λk m=>by
  have:=Fx.yJ T ⟨1,z,wr,0,1⟩ k m hl.1;rw[Fx.xr hl.2.1]at this;have e2:Fx.hit ⟨1,z,wr,0,1⟩ k m=if k=1/\m=z then 1 else 0:=by
   unfold Fx.hit;grind
  omega
 have kk:∀m,((F.put z {F.nd z with held:=(F.nd z).held+1}).nd m).kind=(F.nd m).kind:=λm=>by
  by_cases c:m=z
  .subst c;rw[Tr.bM]
  .rw[Tr.bP _ _ _ _ c]
 rw[eh];refine⟨λm hm e=>?_,λm hm e=>?_,λm hm e k=>?_,λm hm e k=>?_,λm hm=>?_,λm hm=>?_,λm hm e=>?_,λm hm=>?_,λm hm=>?_⟩
 .by_cases c:m=K
  .subst c;rw[Fx.bM]at e;exact aZ e (Nat.succ_ne_zero 0)
  .rw[Fx.bP _ _ _ _ c]at e|-;exact h.no m hm e
 .by_cases c:m=K
  .subst c;rw[Fx.bM];exact .inl rfl
  .rw[Fx.bP _ _ _ _ c]at e|-;exact h.kd m hm e
 .rw[kk];by_cases c:m=K
  .subst c;rw[Fx.bM];exact⟨n40,k1⟩
  .rw[Fx.bP _ _ _ _ c]at e k|-;exact h.nd m hm e k
 .by_cases c:m=K
  .subst c;rw[Fx.bM]at k;exact aZ rfl k
  .rw[Fx.bP _ _ _ _ c]at e k|-;exact h.pn m hm e k
 .by_cases c:m=K
  .subst c;rw[Fx.bM];exact aC _
  .rw[Fx.bP _ _ _ _ c];exact h.ps m hm
 .rw[cc];by_cases c:m=z
  .subst c;rw[Tr.bM,aJ ⟨rfl,rfl⟩];show(F.nd m).held+1=_;rw[h.hl m hm];omega
  .rw[Tr.bP _ _ _ _ c,aI (λd=>c d.2)];exact h.hl m hm
 .rw[kk]at e;by_cases c:m=z
  .subst c;omega
  .rw[Tr.bP _ _ _ _ c];exact h.z0 m hm e
 .rw[cc,aI (λd=>aZ d.1 bE)];exact h.rd m hm
 .rw[cc,aI (λd=>aZ d.1 bE)];exact h.wt m hm
theorem WX.gone(h:WX xx T F S)(hn:n<24)(r:(T n).refs≠0):WX xx (Fx.put T n Fi.no) (Fx.uL F (T n)) (Fx.wU S (T n)):=by
 have cc:∀k m,Fx.cK (Fx.put T n Fi.no) k m 24+Fx.hit (T n) k m=Fx.cK T k m 24:=λk m=>by
  have:=Fx.yJ T Fi.no k m hn;rw[Fx.TG]at this;omega
 have no:∀m,m<24->(Fx.put T n Fi.no m).refs=0->Fx.put T n Fi.no m=Fi.no:=λm hm e=>by
  by_cases c:m=n
  .subst c;rw[Fx.bM]
  .rw[Fx.bP _ _ _ _ c]at e|-;exact h.no m hm e
 have up:∀m,m<24->(Fx.put T n Fi.no m).refs≠0->m≠n/\Fx.put T n Fi.no m=T m:=λm hm e=>by
  by_cases c:m=n
  .subst c;rw[Fx.bM]at e;exact aZ rfl e
  .exact⟨c,Fx.bP _ _ _ _ c⟩
 have ps:∀m,m<24->(Fx.put T n Fi.no m).pos<=40:=λm hm=>by
  by_cases c:m=n
  .subst c;rw[Fx.bM];exact aC _
  .rw[Fx.bP _ _ _ _ c];exact h.ps m hm
 by_cases k:(T n).kind=1
 .obtain⟨a,b⟩:=h.nd n hn r k;have le:=h.letE hn r k;have h1:=Fx.nC r;rw[k]at h1;have fW:∀m q,q≠1\/m≠(T n).num->Fx.cK (Fx.put T n Fi.no) q m 24=Fx.cK T q m 24:=λm q d=>by
   have:=cc q m;have e0:Fx.hit (T n) q m=0:=aI (λe=>by
    rcases d with d|d
    .exact d (by rw[<-e.2.1,k])
    .exact d e.2.2.symm)
   omega
  have own:=cc 1 (T n).num;have e1:Fx.uL F (T n)=Tr.dD F ((T n).num:Int):=aJ k;have e2:Fx.wU S (T n)=S:=aJ k;rw[e1,e2];generalize hm0:(T n).num=m0 at*;have hl0:=h.hl m0 a;have eT:Tr.dD F (m0:Int)=Tr.mF (F.put m0 {F.nd m0 with held:=(F.nd m0).held-1}) m0:=by unfold Tr.dD;rw[aJ le,hZ]
  rw[eT];by_cases sw:(F.nd m0).cV=0/\(F.nd m0).held-1=0
  .rw[Tr.Hi (by rw[Tr.bM];exact sw)];have nd:∀q,q≠m0->(((F.put m0 {F.nd m0 with held:=(F.nd m0).held-1}).put m0 Nd.no).nd q)=F.nd q:=λq hq=>by rw[Tr.bP _ _ _ _ hq,Tr.bP _ _ _ _ hq]
   refine⟨no,λm hm e=>?_,λm hm e k2=>?_,λm hm e k2=>?_,ps,λm hm=>?_,λm hm e=>?_,λm hm=>?_,λm hm=>?_⟩
   .have y:=(up m hm e).2;rw[y]at e|-;exact h.kd m hm e
   .obtain⟨x,y⟩:=up m hm e;rw[y]at e k2|-;obtain⟨p,q⟩:=h.nd m hm e k2;refine⟨p,?_⟩;by_cases c:(T m).num=m0
    .exfalso;have g:=Fx.rm (T:=Fx.put T n Fi.no) (k:=1) (m:=m0) hm;rw[y]at g;have g2:=Fx.nC e;rw[k2,c]at g2;omega
    .rw[nd _ c];exact q
   .have y:=(up m hm e).2;rw[y]at e k2|-;exact h.pn m hm e k2
   .by_cases c:m=m0
    .subst c;rw[Tr.bM];show 0=_;omega
    .rw[nd _ c,fW m 1 (.inr c)];exact h.hl m hm
   .by_cases c:m=m0
    .subst c;rw[Tr.bM];rfl
    .rw[nd _ c]at e|-;exact h.z0 m hm e
   .rw[fW m 2 (.inl bE)];exact h.rd m hm
   .rw[fW m 3 (.inl bE)];exact h.wt m hm
  .rw[Tr.Ey (by rw[Tr.bM];exact sw)];refine⟨no,λm hm e=>?_,λm hm e k2=>?_,λm hm e k2=>?_,ps,λm hm=>?_,λm hm e=>?_,λm hm=>?_,λm hm=>?_⟩
   .have y:=(up m hm e).2;rw[y]at e|-;exact h.kd m hm e
   .obtain⟨x,y⟩:=up m hm e;rw[y]at e k2|-;obtain⟨p,q⟩:=h.nd m hm e k2;refine⟨p,?_⟩;by_cases c:(T m).num=m0
    .rw[c,Tr.bM];exact b
    .rw[Tr.bP _ _ _ _ c];exact q
   .have y:=(up m hm e).2;rw[y]at e k2|-;exact h.pn m hm e k2
   .by_cases c:m=m0
    .subst c;rw[Tr.bM];show(F.nd m).held-1=_;omega
    .rw[Tr.bP _ _ _ _ c,fW m 1 (.inr c)];exact h.hl m hm
   .by_cases c:m=m0
    .subst c;rw[Tr.bM]at e;grind
    .rw[Tr.bP _ _ _ _ c]at e|-;exact h.z0 m hm e
   .rw[fW m 2 (.inl bE)];exact h.rd m hm
   .rw[fW m 3 (.inl bE)];exact h.wt m hm
 .have a:=h.pn n hn r k;have oe:=h.im hn r k;have h1:=Fx.nC r;have fW:∀m q,q≠(T n).kind\/m≠(T n).num->Fx.cK (Fx.put T n Fi.no) q m 24=Fx.cK T q m 24:=λm q d=>by
   have:=cc q m;have e0:Fx.hit (T n) q m=0:=aI (λe=>by
    rcases d with d|d
    .exact d e.2.1.symm
    .exact d e.2.2.symm)
   omega
  have own:=cc (T n).kind (T n).num;have e1:Fx.uL F (T n)=F:=aI k;have e2:Fx.wU S (T n)=Pp.qz S ((T n).num:Int) (decide ((T n).kind=3)):=aI k;have hk:=h.kd n hn r;rw[e1,e2];have eD:Pp.qz S ((T n).num:Int) (decide ((T n).kind=3))=Pp.put S (T n).num (Pp.less (S (T n).num) (decide ((T n).kind=3))):=by unfold Pp.qz;rw[aJ oe,hZ]
  have rl:=h.rd _ a;have wl:=h.wt _ a;rw[eD];have less:∀x:Pi,∀wr,(Pp.less x wr).reads=(Pp.mP x wr (Pp.kT x wr-1)).reads/\(Pp.less x wr).writes=(Pp.mP x wr (Pp.kT x wr-1)).writes:=λx wr=>by
   unfold Pp.less;split
   .exact⟨rfl,rfl⟩
   .rename_i c;have:Pp.mG (Pp.mP x wr (Pp.kT x wr-1))=bA:=by simpa using c
    have:=of_decide_eq_false this;exact⟨by show 0=_;omega,by show 0=_;omega⟩
  refine⟨no,λm hm e=>?_,λm hm e k2=>?_,λm hm e k2=>?_,ps,λm hm=>?_,h.z0,λm hm=>?_,λm hm=>?_⟩
  .have y:=(up m hm e).2;rw[y]at e|-;exact h.kd m hm e
  .have y:=(up m hm e).2;rw[y]at e k2|-;exact h.nd m hm e k2
  .have y:=(up m hm e).2;rw[y]at e k2|-;exact h.pn m hm e k2
  .rw[fW m 1 (.inl (λd=>k d.symm))];exact h.hl m hm
  .by_cases c:m=(T n).num
   .rw[c,Pp.bM,(less _ _).1];rcases hk with d|d|d
    .exact aZ d k
    .rw[d]at own h1|-;show(S (T n).num).reads-1=_;omega
    .rw[fW _ 2 (.inl bB)];rw[d];exact rl
   .rw[Pp.bP _ _ _ _ c,fW m 2 (.inr c)];exact h.rd m hm
  .by_cases c:m=(T n).num
   .rw[c,Pp.bM,(less _ _).2];rcases hk with d|d|d
    .exact aZ d k
    .rw[fW _ 3 (.inl bB)];rw[d];exact wl
    .rw[d]at own h1|-;show(S (T n).num).writes-1=_;omega
   .rw[Pp.bP _ _ _ _ c,fW m 3 (.inr c)];exact h.wt m hm
end
section
variable {xx:Nat->Nat}{T:Nat->Fi}{F G:Fo}{S:Nat->Pi}
theorem WX.entry(h:WX xx T F S){K:Nat}(hl:Fx.ue T K)(hq:q=2\/q=3)(n8:n<8)(h2:∀m,m<8->(R m).reads=(S m).reads+if q=2/\m=n then 1 else 0)(h3:∀m,m<8->(R m).writes=(S m).writes+if q=3/\m=n then 1 else 0):WX xx (Fx.put T K ⟨q,n,bA,0,1⟩) F R:=by
 have cc:∀k m,Fx.cK (Fx.put T K ⟨q,n,bA,0,1⟩) k m 24=Fx.cK T k m 24+if k=q/\m=n then 1 else 0:=λk m=>by
  have:=Fx.yJ T ⟨q,n,bA,0,1⟩ k m hl.1;rw[Fx.xr hl.2.1]at this;grind [Fx.cK,Fx.yJ,Fx.xr,Fx.hit]
 refine⟨λm hm e=>?_,λm hm e=>?_,λm hm e k=>?_,λm hm e k=>?_,λm hm=>?_,λm hm=>?_,h.z0,λm hm=>?_,λm hm=>?_⟩
 .by_cases c:m=K
  .subst c;rw[Fx.bM]at e;exact aZ e (Nat.succ_ne_zero 0)
  .rw[Fx.bP _ _ _ _ c]at e|-;exact h.no m hm e
 .by_cases c:m=K
  .subst c;rw[Fx.bM];exact .inr hq
  .rw[Fx.bP _ _ _ _ c]at e|-;exact h.kd m hm e
 .by_cases c:m=K
  .subst c;rw[Fx.bM]at k;have:q=1:=k;omega
  .rw[Fx.bP _ _ _ _ c]at e k|-;exact h.nd m hm e k
 .by_cases c:m=K
  .subst c;rw[Fx.bM];exact n8
  .rw[Fx.bP _ _ _ _ c]at e k|-;exact h.pn m hm e k
 .by_cases c:m=K
  .subst c;rw[Fx.bM];exact aC _
  .rw[Fx.bP _ _ _ _ c];exact h.ps m hm
 .rw[cc,nJ];exact h.hl m hm
 .rw[cc,h2 m hm,h.rd m hm];by_cases c:q=2/\m=n
  .rw[aJ c,aJ ⟨c.1.symm,c.2⟩]
  .rw[aI c,aI (λd=>c ⟨d.1.symm,d.2⟩)]
 .rw[cc,h3 m hm,h.wt m hm];by_cases c:q=3/\m=n
  .rw[aJ c,aJ ⟨c.1.symm,c.2⟩]
  .rw[aI c,aI (λd=>c ⟨d.1.symm,d.2⟩)]
theorem WX.pipe(h:WX xx T F S)(hf:Pp.gJ S n 0)(h1:Fx.ue T a)(h2:Fx.ue (Fx.put T a ⟨2,n,bA,0,1⟩) c):WX xx (Fx.put (Fx.put T a ⟨2,n,bA,0,1⟩) c ⟨3,n,bA,0,1⟩) F (Pp.jX S n 0):=by
 have n8:n<8/\Pp.mG (S n)=bA:=by
  rcases hf with⟨_,x,y,_⟩|⟨x,_⟩
  .exact⟨x,y⟩
  omega
 have z:(S n).reads=0/\(S n).writes=0:=by
  have:=n8.2;have:=of_decide_eq_false this;omega
 have eM:Pp.jX S n 0=Pp.put S n ⟨⟨#[]⟩,1,1⟩:=aJ rfl;rw[eM];have s1:=h.entry (q:=2) (R:=Pp.put S n ⟨⟨#[]⟩,1,0⟩) h1 (.inl rfl) n8.1 (λm hm=>by
  by_cases d:m=n
  .subst d;rw[Pp.bM,aJ ⟨rfl,rfl⟩,z.1]
  .rw[Pp.bP _ _ _ _ d,aI (λe=>d e.2)];rfl) (λm hm=>by
  rw[aI (λe=>aZ e.1 bE)];by_cases d:m=n
  .subst d;rw[Pp.bM,z.2]
  .rw[Pp.bP _ _ _ _ d];rfl)
 refine s1.entry (q:=3) h2 (.inr rfl) n8.1 (λm hm=>?_) (λm hm=>?_)
 .rw[aI (λe=>aZ e.1 bE)];by_cases d:m=n
  .subst d;rw[Pp.bM,Pp.bM]
  .rw[Pp.bP _ _ _ _ d,Pp.bP _ _ _ _ d];rfl
 .by_cases d:m=n
  .subst d;rw[Pp.bM,Pp.bM,aJ ⟨rfl,rfl⟩]
  .rw[Pp.bP _ _ _ _ d,Pp.bP _ _ _ _ d,aI (λe=>d e.2)];rfl
theorem WX.Lo{k:Nat}(F:Fo)(m:Nat):((Tr.lr F n s k).nd m).held=(F.nd m).held/\((Tr.lr F n s k).nd m).kind=(F.nd m).kind:=by
 have one:∀m,((F.put n (Tr.jc (F.nd n) s k)).nd m).held=(F.nd m).held/\((F.put n (Tr.jc (F.nd n) s k)).nd m).kind=(F.nd m).kind:=λm=>by
  by_cases c:m=n
  .subst c;rw[Tr.bM];exact⟨rfl,rfl⟩
  .rw[Tr.bP _ _ _ _ c];exact⟨rfl,rfl⟩
 unfold Tr.lr;split
 .by_cases c:m=k
  .subst c;rw[Tr.bM];exact one m
  .rw[Tr.bP _ _ _ _ c];exact one m
 .exact one m
theorem WX.T9(h:WX xx T F S){z kz:Int}{K:Nat}(hm:Tr.sS F z s kz K E G):WX xx T G S:=by
 rcases hm with⟨_,_,_,_,rfl⟩|⟨kk,e,_,⟨_,_,_,rfl⟩|⟨_,k,e2,hf,⟨_,_,_,rfl⟩|⟨e0,_,_,rfl⟩⟩⟩
 .exact h
 .exact h
 .exact h
 .obtain⟨k40,k0⟩:k<40/\(F.nd k).kind=0:=by
   rcases hf with⟨_,x,y,_⟩|⟨x,_⟩
   .exact⟨x,y⟩
   .omega
  have hk:=h.z0 k k40 k0;have kz0:kz.toNat≠0:=bB
  have cut:∀m,((Tr.jX F z.toNat s kz.toNat k).nd m).held=(F.nd m).held/\(((Tr.jX F z.toNat s kz.toNat k).nd m).kind=if m=k then kz.toNat else(F.nd m).kind):=λm=>by
   unfold Tr.jX;obtain⟨x,y⟩:=WX.Lo (n:=z.toNat) (k:=k) (s:=s) (F.put k (fq kz.toNat (F.nd z.toNat).tree 0)) m;rw[x,y];by_cases c:m=k
   .subst c;rw[Tr.bM,aJ rfl];exact⟨hk.symm,rfl⟩
   .rw[Tr.bP _ _ _ _ c,aI c];exact⟨rfl,rfl⟩
  refine h.sr (λm _=>(cut m).1) (λm hm hh=>?_) (λm hm e=>?_)
  .rw[(cut m).2,aI (λc=>by subst c;exact hh hk)]
  .rw[(cut m).2]at e;rw[(cut m).1];by_cases c:m=k
   .rw[aJ c]at e;exact aZ e kz0
   .rw[aI c]at e;exact h.z0 m hm e
theorem WX.rem(h:WX xx T F S){z:Int}(hm:Tr.yw F z s E G):WX xx T G S:=by
 obtain⟨K,e,_,⟨_,_,rfl⟩|⟨_,⟨_,_,_,rfl⟩|⟨_,_,i,_,rfl⟩⟩⟩:=hm
 .exact h
 .exact h
 .have one:∀m,(((F.put z.toNat (Tr.eZ (F.nd z.toNat) i)).put K {(F.put z.toNat (Tr.eZ (F.nd z.toNat) i)).nd K with cV:=(F.nd K).cV-1}).nd m).held=(F.nd m).held/\(((F.put z.toNat (Tr.eZ (F.nd z.toNat) i)).put K {(F.put z.toNat (Tr.eZ (F.nd z.toNat) i)).nd K with cV:=(F.nd K).cV-1}).nd m).kind=(F.nd m).kind:=λm=>by
   have two:((F.put z.toNat (Tr.eZ (F.nd z.toNat) i)).nd m).held=(F.nd m).held/\((F.put z.toNat (Tr.eZ (F.nd z.toNat) i)).nd m).kind=(F.nd m).kind:=by
    by_cases c:m=z.toNat
    .subst c;rw[Tr.bM];exact⟨rfl,rfl⟩
    .rw[Tr.bP _ _ _ _ c];exact⟨rfl,rfl⟩
   by_cases c:m=K
   .subst c;rw[Tr.bM];exact two
   .rw[Tr.bP _ _ _ _ c];exact two
  unfold Tr.xK Tr.mF;split
  .rename_i c;refine h.sr (λm hm=>?_) (λm hm hh=>?_) (λm hm e=>?_)
   .by_cases d:m=K
    .subst d;rw[Tr.bM,<-(one m).1,c.2];rfl
    .rw[Tr.bP _ _ _ _ d];exact(one m).1
   .by_cases d:m=K
    .subst d;rw[<-(one m).1]at hh;exact aZ c.2 hh
    .rw[Tr.bP _ _ _ _ d];exact(one m).2
   .by_cases d:m=K
    .subst d;rw[Tr.bM];rfl
    .rw[Tr.bP _ _ _ _ d]at e|-;rw[(one m).2]at e;rw[(one m).1];exact h.z0 m hm e
  .refine h.sr (λm hm=>(one m).1) (λm hm _=>(one m).2) (λm hm e=>?_);rw[(one m).2]at e;rw[(one m).1];exact h.z0 m hm e
theorem WX.Ca(h:WX xx T F S)(z a:Int)(s:bU):WX xx T (Tr.eY F z a s) S:=by
 unfold Tr.eY;split
 .have one:∀m,((F.put z.toNat (Tr.Bc (F.nd z.toNat) a.toNat s)).nd m).held=(F.nd m).held/\((F.put z.toNat (Tr.Bc (F.nd z.toNat) a.toNat s)).nd m).kind=(F.nd m).kind:=λm=>by
   by_cases c:m=z.toNat
   .subst c;rw[Tr.bM];exact⟨rfl,rfl⟩
   .rw[Tr.bP _ _ _ _ c];exact⟨rfl,rfl⟩
  refine h.sr (λm hm=>(one m).1) (λm hm _=>(one m).2) (λm hm e=>?_);rw[(one m).2]at e;rw[(one m).1];exact h.z0 m hm e
 .exact h
theorem WX.Um(h:WX xx T F S)(z m:Int):WX xx T F (Pp.oK S z m):=by
 unfold Pp.oK;split
 .refine h.Qi (λq hq=>?_);by_cases c:q=z.toNat
  .subst c;rw[Pp.bM];exact⟨rfl,rfl⟩
  .rw[Pp.bP _ _ _ _ c];exact⟨rfl,rfl⟩
 .exact h
theorem WX.VK(h:WX xx T F S)(z:Int)(s:bU):WX xx T F (Pp.eY S z s):=by
 unfold Pp.eY;split
 .refine h.Qi (λq hq=>?_);by_cases c:q=z.toNat
  .subst c;rw[Pp.bM];exact⟨rfl,rfl⟩
  .rw[Pp.bP _ _ _ _ c];exact⟨rfl,rfl⟩
 .exact h
end
open Mo (Wh Mt)
open Mv (Me Bk)
open Sg (S1)
open Kn (Pr Kp St us KB)
namespace Kn
def ly(k:Kp)(m:Nat):Nat->Nat
 |0=>0
 |s+1=>ly k m s+if k.ht s=bw then Mo.tc (k.tb s) m else 0
def jO(k:Kp)(m:Nat):Nat:=ly k m 6
structure KJ (X:Nat->Prop)(N:Nat)(k:Kp):Prop where
 sp:∃d,Sp.Inv k.sp d
 gr:∃Wy,Gr.Tree k.gr Wy N
 me:Mv.gw k.bk 20 (λn=>(k.p n).mem)
 wx:WX (jO k) k.fi k.fo k.pi
 rf:∀n,n<24->(k.fi n).refs<=8*N
 ok:Tr.Ok k.fo
 tb:∀s,s<6->k.ht s=bw->Mo.Rg (k.tb s)/\(k.tb s).ms.length<=6
 st:∀n,n<20->(k.p n).st<=2
 hs:∀n,n<20->(k.p n).has=bw->(k.p n).st=1
 lv:∀n,n<20->¬X n->(k.p n).st=1->(k.p n).has=bw
 of:∀n,n<20->(k.sp.of n≠0↔(k.p n).st≠0)
 ht:∀s,s<6->k.ht s=k.sp.here s
 nm:∀n,n<20->(k.p n).has=bA->(k.p n).mem=Mv.lR
theorem Hj{k:Kp}(h:∀s,s<6->k.ht s=bw->Mo.Rg (k.tb s)/\(k.tb s).ms.length<=6)(m:Nat):∀s,s<=6->ly k m s<=13*s
 |0,_=>aL 0
 |s+1,hs=>by
  have ih:=Hj h m s bB;show ly k m s+_<=_;by_cases c:k.ht s=bw
  .rw[aJ c];have:=Mo.Va (k.tb s) (h s bB c).2 m;omega
  .rw[aI c];omega
section
variable {X:Nat->Prop}{N:Nat}{k:Kp}
theorem KJ.tx(h:KJ X N k)(m:Nat):jO k m<=78:=Hj h.tb m 6 (aL _)
theorem KJ.sm(h:KJ X N k):Fx.Sm k.fo k.pi:=h.wx.sm (λm _=>by have:=h.tx m;omega)
theorem KJ.hb(h:KJ X N k):Tr.Hb k.fo 102:=λn hn=>by
 rw[h.wx.hl n hn];have:=Fx.sY k.fi 1 n 24;have:=h.tx n;omega
theorem KJ.mono(h:KJ X N k){Y:Nat->Prop}{M:Nat}(hX:∀n,n<20->X n->Y n)(hM:N<=M):KJ Y M k:=
 ⟨h.sp,(by obtain⟨Wy,g⟩:=h.gr;exact⟨Wy,g.mono hM⟩),h.me,h.wx,λn hn=>by have:=h.rf n hn;omega,h.ok,h.tb,h.st,h.hs,λn hn hx=>h.lv n hn (λc=>hx (hX n hn c)),h.of,h.ht,h.nm⟩
theorem KJ.Ea(h:KJ X N k){x:Pr}(h1:x.st=(k.p n).st)(h2:x.has=(k.p n).has)(h3:x.mem=(k.p n).mem):KJ X N (k.put n x):=by
 have e:∀m,((k.put n x).p m).st=(k.p m).st/\((k.put n x).p m).has=(k.p m).has/\((k.put n x).p m).mem=(k.p m).mem:=λm=>by
  by_cases c:m=n
  .subst c;rw[bM];exact⟨h1,h2,h3⟩
  .rw[bP _ _ _ _ c];exact⟨rfl,rfl,rfl⟩
 exact⟨h.sp,h.gr,by rw[show(λm=>((k.put n x).p m).mem)=λm=>(k.p m).mem from funext λm=>(e m).2.2];exact h.me,h.wx,h.rf,h.ok,h.tb,λm hm=>by rw[(e m).1];exact h.st m hm,λm hm=>by rw[(e m).1,(e m).2.1];exact h.hs m hm,λm hm=>by rw[(e m).1,(e m).2.1];exact h.lv m hm,λm hm=>by rw[(e m).1];exact h.of m hm,h.ht,λm hm=>by rw[(e m).2.1,(e m).2.2];exact h.nm m hm⟩
def dv(k:Kp)(n:Nat)(a m:Int):Kp:=if Mv.pL a m=0 then{cT k n (Mv.kH (k.p n).mem a m) (Mv.nM (k.p n).mem k.bk a m)with gr:=Gr.dn k.gr (k.p n).cA 0 (Mv.rL (k.p n).mem a m:Int)}else k
def AS(k:Kp)(n:Nat)(a m:Int):Int:=if Mv.pL a m=0 then Gr.gm k.gr (k.p n).cA 0 (Mv.rL (k.p n).mem a m:Int)else Mv.pL a m
theorem oP{t:Nat->Gr.Gp}{Wy:Nat->List (Fin 10)}(h:Gr.Tree t Wy c)(g p q:Int):Gr.Tree (Gr.dn t g p q) Wy c:=by
 unfold Gr.dn;by_cases e:Gr.gm t g p q=0
 .rw[aJ e];have hr:Gr.eF t g p q=0:=by
   unfold Gr.gm at e;by_cases r:Gr.eF t g p q=0
   .exact r
   .rw[aI r]at e;exact aZ e r
  obtain⟨n,rfl,hn,hh,hp,hq⟩:=Gr.jS hr;rw[hZ];unfold Gr.gm at e;rw[aJ hr,hZ]at e;have o:=h.own n hn;obtain⟨hp,hq⟩:=Gr.oL hr;by_cases l:p<=(t n).op/\q<=(t n).oq
  .exact h.dV (aL _) ⟨by omega,bB⟩ ⟨by omega,bB⟩
  .rw[aI l]at e;omega
 .rw[aI e];exact h
theorem KJ.ks(h:KJ X N k){t:Nat->Gr.Gp}(g:∃Wy,Gr.Tree t Wy N):KJ X N {k with gr:=t}:=⟨h.sp,g,h.me,h.wx,h.rf,h.ok,h.tb,h.st,h.hs,h.lv,h.of,h.ht,h.nm⟩
theorem KJ.cT(h:KJ X N k){n:Nat}{m:Me}{b:Bk}(hn:n<20)(hh:(k.p n).has=bw)(w:Mv.gw b 20 (Mv.j6 (λn=>(k.p n).mem) n m)):KJ X N (cT k n m b):=by
 have e:∀j,((Kn.cT k n m b).p j).st=(k.p j).st/\((Kn.cT k n m b).p j).has=(k.p j).has:=λj=>by
  by_cases c:j=n
  .subst c;rw[show(Kn.cT k j m b).p j={k.p j with mem:=m}from bM _ _ _];exact⟨rfl,rfl⟩
  .rw[show(Kn.cT k n m b).p j=k.p j from bP _ _ _ _ c];exact⟨rfl,rfl⟩
 have e2:(λj=>((Kn.cT k n m b).p j).mem)=Mv.j6 (λn=>(k.p n).mem) n m:=funext λj=>by
  by_cases c:j=n
  .subst c;rw[show(Kn.cT k j m b).p j={k.p j with mem:=m}from bM _ _ _,Mv.fZ]
  .rw[show(Kn.cT k n m b).p j=k.p j from bP _ _ _ _ c,Mv.iW _ _ _ _ c]
 exact⟨h.sp,h.gr,by rw[e2];exact w,h.wx,h.rf,h.ok,h.tb,λm hm=>by rw[(e m).1];exact h.st m hm,λm hm=>by rw[(e m).1,(e m).2];exact h.hs m hm,λm hm=>by rw[(e m).1,(e m).2];exact h.lv m hm,λm hm=>by rw[(e m).1];exact h.of m hm,h.ht,λj hj=>by
  by_cases c:j=n
  .subst c;intro q;rw[(e j).2,hh]at q;cases q
  .rw[show(Kn.cT k n m b).p j=k.p j from bP _ _ _ _ c];exact h.nm j hj⟩
theorem KJ.ES(h:KJ X N k)(hn:n<20)(hh:(k.p n).has=bw)(a m:Int):KJ X N (dv k n a m):=by
 unfold dv;by_cases c:Mv.pL a m=0
 .rw[aJ c];have w:Mv.gw (Mv.nM (k.p n).mem k.bk a m) 20 (Mv.j6 (λn=>(k.p n).mem) n (Mv.kH (k.p n).mem a m)):=by
   unfold Mv.pL at c;unfold Mv.nM Mv.kH;cases hb:Mv.kZ a m
   .obtain⟨x,j,rfl,rfl,hx,h1,h2⟩:=Mv.si hb;rw[aI bE,aI bE,hZ,hZ];exact h.me.Qx (i:=n) hn j h2
   .rw[hb,aJ rfl]at c;omega
  refine(h.cT hn hh w).ks ?_;obtain⟨Wy,g⟩:=h.gr;exact⟨Wy,oP g _ _ _⟩
 .rw[aI c];exact h
def jW(k:Kp)(z:Int):Kp:={k with fi:=Fx.te k.fi z,fo:=Fx.td k.fi k.fo z,pi:=Fx.uC k.fi k.pi z}
theorem KJ.Vs(h:KJ X N k)(z:Int):KJ X N (jW k z):=by
 have key:WX (jO k) (Fx.te k.fi z) (Fx.td k.fi k.fo z) (Fx.uC k.fi k.pi z)/\(∀n,n<24->(Fx.te k.fi z n).refs<=(k.fi n).refs)/\Tr.Ok (Fx.td k.fi k.fo z):=by
  unfold Fx.te Fx.td Fx.uC;by_cases c:Fx.dy k.fi z=0
  .obtain⟨n,rfl,hn,r⟩:=Fx.kX c;rw[hZ,aJ c];by_cases d:(k.fi n).refs=1
   .rw[aJ d,aJ ⟨c,d⟩,aJ ⟨c,d⟩];refine⟨h.wx.gone hn r,λm _=>?_,?_⟩
    .by_cases e:m=n
     .subst e;rw[Fx.bM];exact aC _
     .rw[Fx.bP _ _ _ _ e];exact aL _
    .unfold Fx.uL;split
     .exact h.ok.dD _
     .exact h.ok
   .rw[aI d,aI (λe=>d e.2),aI (λe=>d e.2)];refine⟨h.wx.kP hn r _ (by show(k.fi n).refs-1≠0;omega) rfl rfl (h.wx.ps n hn),λm _=>?_,h.ok⟩;by_cases e:m=n
    .subst e;rw[Fx.bM];show(k.fi m).refs-1<=_;omega
    .rw[Fx.bP _ _ _ _ e];exact aL _
  .rw[aI c,aI (λe=>c e.1),aI (λe=>c e.1)];exact⟨h.wx,λ_ _=>aL _,h.ok⟩
 exact⟨h.sp,h.gr,h.me,key.1,λn hn=>aH (key.2.1 n hn) (h.rf n hn),key.2.2,h.tb,h.st,h.hs,h.lv,h.of,h.ht,h.nm⟩
def dU(k:Kp)(n:Nat)(fd:Nat->Int):Nat->Kp
 |0=>k
 |j+1=>if fd j= -1 then dU k n fd j else fT (jW (dU k n fd j) (fd j)) n j (-1)
theorem KJ.dU(h:KJ X N k)(n:Nat)(fd:Nat->Int):∀j,KJ X N (dU k n fd j)
 |0=>h
 |j+1=>by
  show KJ X N (if fd j= -1 then _ else _);split
  .exact h.dU n fd j
  .exact((h.dU n fd j).Vs _).Ea rfl rfl rfl
theorem zo(k:Kp)(n:Nat)(fd:Nat->Int):∀j m,((dU k n fd j).p m).st=(k.p m).st/\((dU k n fd j).p m).has=(k.p m).has/\((dU k n fd j).p m).mem=(k.p m).mem/\((dU k n fd j).p m).box=(k.p m).box/\((dU k n fd j).p m).cA=(k.p m).cA/\((dU k n fd j).p m).par=(k.p m).par/\((dU k n fd j).p m).code=(k.p m).code
 |0,_=>⟨rfl,rfl,rfl,rfl,rfl,rfl,rfl⟩
 |j+1,m=>by
  have ih:=zo k n fd j;show(((if fd j= -1 then Kn.dU k n fd j else fT (jW (Kn.dU k n fd j) (fd j)) n j (-1)):Kp).p m).st=_/\_;by_cases c:fd j= -1
  .have e:Kn.dU k n fd (j+1)=Kn.dU k n fd j:=aJ c;rw[aJ c,e];exact ih m
  .have e:Kn.dU k n fd (j+1)=fT (jW (Kn.dU k n fd j) (fd j)) n j (-1):=aI c;rw[aI c,e];unfold fT;by_cases d:m=n
   .subst d;rw[bM];exact ih m
   .rw[bP _ _ _ _ d];exact ih m
end
def qQ(k:Kp)(n:Nat)(m':Wf.M):Kp:=
 let k1:=dU (dv k n 0 16) n (k.p n).fd 6
 {k1 with sc:=m'}.put n {k1.p n with has:=false,mem:=Mv.lR,box:=Sg.gB}
def fP(k:Kp)(n:Nat)(k':Kp):Prop:=∃m',Wf.JL k.sc n m'/\k'=qQ k n m'
end Kn
open Kn (Pr Kp St us KB KJ)
theorem Kn.jF(k:Kp)(n:Nat)(m:Me)(b:Bk):(Kn.cT k n m b).p n={k.p n with mem:=m}:=Kn.bM _ _ _
section
variable (Wt:Nat)(s:St)(w:bD)
theorem yZ(n:Nat)(a m:Int)(h:bO w Wt s)(hn:n<20)(hh:(s.k.p n).has=bw)(C:Mv.ym (s.k.p n).mem s.k.bk)(hS:Gr.Small s.k.gr):
  Calls prog 78 #[ai (bj ⟨s.A 0,0,bu⟩),ai (bj ⟨s.A 0,n*12,bu⟩),aa az a,aa az m] w λe w'=>e=bf (bN (Kn.AS s.k n a m))/\bO w' Wt {s with k:=Kn.dv s.k n a m}/\KF s w {s with k:=Kn.dv s.k n a m} w':=by
 have c4:=h.qv n hn hh;have UM:=hJ (JF (s.A (9+n)) (s.A 4) (s.A 5) a m (s.k.p n).mem s.k.bk w (h.ub hn hh) C);obtain⟨kb,hkb⟩:=hU (s.A 0);have HK:=hJ hkb;have H:=hJ h;have HS:=hJ hS;have HH:=hJ hh;rw[hkb]at c4|-;by_cases c:Mv.pL a m=0
 .have E:Hid (Kn.AS s.k n a m=Gr.gm s.k.gr (s.k.p n).cA 0 (Mv.rL (s.k.p n).mem a m:Int)/\Kn.dv s.k n a m={Kn.cT s.k n (Mv.kH (s.k.p n).mem a m) (Mv.nM (s.k.p n).mem s.k.bk a m)with gr:=Gr.dn s.k.gr (s.k.p n).cA 0 (Mv.rL (s.k.p n).mem a m:Int)}):=hJ ⟨aJ c,aJ c⟩;rw[c]at UM;go_in
  go_wp2_with fail
  refine sC UM.v ?_;rintro w1 ⟨u1,f1⟩;have S1:=hJ (H.zd hn HH.v u1 f1);rw[bF];go_upto_region 4 with fail
  have KF1:Hid (∀W,bO W Wt {s with k:=Kn.cT s.k n (Mv.kH (s.k.p n).mem a m) (Mv.nM (s.k.p n).mem s.k.bk a m)}->W.cell? ⟨kb,247,bu⟩=bj (ai (bj ⟨s.A 2,0,bu⟩))/\W.cell? ⟨kb,n*12+2,bu⟩=bj (aa az (s.k.p n).cA)):=hJ (λW hW=>by
   have e1:=hW.pA;have e2:=hW.pP n hn;rw[Kn.jF]at e2;rw[<-HK.v];exact⟨e1,e2⟩)
  have K0:=hJ (KF1.v w1 S1.1);have UC:=hJ (Gr.iR (s.A 2) (s.k.p n).cA 0 (Mv.rL (s.k.p n).mem a m:Int) s.k.gr w1.drew S1.1.drew.gr HS.v);obtain⟨gz,hgz⟩:=hU ((s.k.p n).cA);obtain⟨cz,hcz⟩:=hU ((Mv.rL (s.k.p n).mem a m:Int));obtain⟨g2,hg2⟩:=hU (s.A 2);rw[hgz,hcz,hg2]at UC;rw[hgz,hg2]at K0;rw[hcz];have HG:=hJ (aK hgz (aK hcz hg2));obtain⟨y1,y2⟩:=K0.v;go_region_held3 (λw'=>w'.cell? ⟨kb,247,bu⟩=bj (ai (bj ⟨g2,0,bu⟩))/\w'.cell? ⟨kb,n*12+2,bu⟩=bj (aa az gz)) (first|exact K0.v|exact K4.v) (
   (go_at_call 67;refine sC UC.v ?_;rintro w4 ⟨t4,f4⟩;have S4:Hid (bO w4 Wt {s with k:=Kn.dv s.k n a m}/\KF s w {s with k:=Kn.dv s.k n a m} w4):=hJ (by
     obtain⟨e1,e2,e3⟩:=HG.v;rw[<-e1,<-e2]at t4;rw[<-e3]at t4 f4;have q:=S1.1.drew.ks t4 f4.sK;rw[E.2];exact⟨q.1,S1.2.trans ((KF.drew _ _).trans q.2)⟩);have K4:Hid (w4.cell? ⟨kb,247,bu⟩=bj (ai (bj ⟨g2,0,bu⟩))/\w4.cell? ⟨kb,n*12+2,bu⟩=bj (aa az gz)):=hJ (by
     obtain⟨e1,e2,e3⟩:=HG.v;have q1:=S4.1.pA;have q2:=S4.1.pP n hn;rw[E.2]at q2;have q3:w4.cell? ⟨s.A 0,n*12+2,bu⟩=bj (aa az ((Kn.cT s.k n (Mv.kH (s.k.p n).mem a m) (Mv.nM (s.k.p n).mem s.k.bk a m)).p n).cA):=q2;rw[Kn.jF]at q3;rw[<-HK.v,<-e1,<-e3];exact⟨q1,q3⟩)))
  go_wp2
  go_ret
  obtain⟨e1,e2,e3⟩:=HG.v;rw[E.1,e1,e2];exact⟨rfl,S4.v⟩
 .have E:Hid (Kn.AS s.k n a m=Mv.pL a m/\Kn.dv s.k n a m=s.k):=hJ ⟨aI c,aI c⟩;have E2:=hJ (bH c);have M0:Hid (Mv.kH (s.k.p n).mem a m=(s.k.p n).mem/\Mv.nM (s.k.p n).mem s.k.bk a m=s.k.bk):=hJ (by
   unfold Mv.pL at c;unfold Mv.kH Mv.nM;cases hb:Mv.kZ a m
   .rw[hb,aI bE]at c;exact aZ rfl c
   .rw[aJ rfl,aJ rfl];exact⟨rfl,rfl⟩)
  go_in
  go_wp2_with fail
  refine sC UM.v ?_;rintro w1 ⟨u1,f1⟩;have S1:Hid (bO w1 Wt s/\KF s w s w1):=hJ (by
   rw[M0.1,M0.2]at u1;have q:=H.zd hn HH.v u1 f1;have e:({s with k:=Kn.cT s.k n (s.k.p n).mem s.k.bk}:St)=s:=by
    have:Kn.cT s.k n (s.k.p n).mem s.k.bk=s.k:=by
     unfold Kn.cT Kp.put;have:(λm=>if m=n then{s.k.p n with mem:=(s.k.p n).mem}else s.k.p m)=s.k.p:=funext λm=>by
      by_cases c:m=n
      .rw[aJ c,c]
      .rw[aI c]
     rw[this]
    rw[this]
   rw[e]at q;exact q)
  rw[E2.v];generalize (Mv.rL (s.k.p n).mem a m:Int)=cz;go_wp2
  go_ret
  rw[E.1,E.2,E2.v];exact⟨rfl,S1.v⟩
end
def mD(f:Nat->Int):Array Value:=((List.range 6).map λi=>aa az (f i)).toArray
theorem qB(f:Nat->Int):(mD f).size=6:=by simp[mD]
theorem Dl(f:Nat->Int)(i:Nat)(h:i<6):(mD f)[i]? =bj (aa az (f i)):=by simp[mD,h]
theorem xy(f:Nat->Int)(x:Nat)(h:x<6)(w:bD):Sem.run prog (Instr.index 72 (au (mD f)) (aa az x)) w= .ok (aa az (f x)) w:=by
 have hu:prog.underlying 72=bj (.array 6 3):=by kernel_rfl
 have h1:(x:Int)<6:=bB
 simp[Instr.index,Sem.run_bind,run_underlying hu,go_sem];rw[aJ h,Dl f x h];rfl
theorem bO.fds{s:St}(h:bO w Wt s)(hn:n<20)(j:Nat)(hj:j<(mD (s.k.p n).fd).size):w.cell? ⟨s.A 0,n*12+6+j,bu⟩=(mD (s.k.p n).fd)[j]? :=by
 rw[qB]at hj;rw[Dl _ j hj];exact h.qt n j hn hj
namespace Kn
theorem vA(k:Kp)(n:Nat)(a m:Int)(j:Nat):((dv k n a m).p j).fd=(k.p j).fd/\((dv k n a m).p j).has=(k.p j).has/\((dv k n a m).p j).st=(k.p j).st/\((dv k n a m).p j).box=(k.p j).box/\((dv k n a m).p j).cA=(k.p j).cA/\((dv k n a m).p j).par=(k.p j).par/\((dv k n a m).p j).code=(k.p j).code:=by
 have key:∀(x:Me) (b:Bk),((cT k n x b).p j).fd=(k.p j).fd/\((cT k n x b).p j).has=(k.p j).has/\((cT k n x b).p j).st=(k.p j).st/\((cT k n x b).p j).box=(k.p j).box/\((cT k n x b).p j).cA=(k.p j).cA/\((cT k n x b).p j).par=(k.p j).par/\((cT k n x b).p j).code=(k.p j).code:=λx b=>by
  by_cases c:j=n
  .subst c;rw[jF];exact⟨rfl,rfl,rfl,rfl,rfl,rfl,rfl⟩
  .rw[show(cT k n x b).p j=k.p j from bP _ _ _ _ c];exact⟨rfl,rfl,rfl,rfl,rfl,rfl,rfl⟩
 unfold dv;split
 .exact key _ (Mv.nM (k.p n).mem k.bk a m)
 .exact⟨rfl,rfl,rfl,rfl,rfl,rfl,rfl⟩
theorem SJ(k:Kp)(n:Nat)(a m:Int):(dv k n a m).sc=k.sc:=by unfold dv;split<;>rfl
theorem AP(k:Kp)(n:Nat)(fd:Nat->Int):∀j,(dU k n fd j).sc=k.sc
 |0=>rfl
 |j+1=>by
  show(if fd j= -1 then _ else _:Kp).sc=_;split
  .exact AP k n fd j
  .exact AP k n fd j
end Kn
theorem bO.bare{s:St}(h:bO w Wt s)(hn:n<20)(m:Me)(X:Nat->S1)(hm:(s.k.p n).has=bw):
  bO ((w.setCell ⟨s.A 0,n*12+4,bu⟩ (ai bu)).setCell ⟨s.A 0,n*12+5,bu⟩ (ai bu)) Wt {s with k:=s.k.put n {s.k.p n with has:=false,mem:=m,box:=X}}/\
   KF s w {s with k:=s.k.put n {s.k.p n with has:=false,mem:=m,box:=X}} ((w.setCell ⟨s.A 0,n*12+4,bu⟩ (ai bu)).setCell ⟨s.A 0,n*12+5,bu⟩ (ai bu)):=by
 obtain⟨C,e,sz⟩:=h.mT;have f:bG (s.A 0) w ((w.setCell ⟨s.A 0,n*12+4,bu⟩ (ai bu)).setCell ⟨s.A 0,n*12+5,bu⟩ (ai bu)):=((bG.refl _ _).setCell _ _).setCell _ _;have e1:=cQ e (n*12+4) (ai bu);have o:=h.others cv f;have hp:∀j,((s.k.put n {s.k.p n with has:=false,mem:=m,box:=X}).p j).has=bw->j≠n/\(s.k.put n {s.k.p n with has:=false,mem:=m,box:=X}).p j=s.k.p j:=λj hj=>by
  by_cases c:j=n
  .subst c;rw[Kn.bM]at hj;cases hj
  .exact⟨c,Kn.bP _ _ _ _ c⟩
 have pu:∀i,us {s with k:=s.k.put n {s.k.p n with has:=false,mem:=m,box:=X}} i->us s i:=λi hi=>by
  rcases hi with hi|⟨h1,h2,h3⟩|⟨h1,h2,h3⟩|hi|hi
  .exact .inl hi
  .have q:=hp _ h3;have h4:((s.k.put n {s.k.p n with has:=false,mem:=m,box:=X}).p (i-9)).has=bw:=h3;rw[q.2]at h4;exact .inr (.inl ⟨h1,h2,h4⟩)
  .have q:=hp _ h3;have h4:((s.k.put n {s.k.p n with has:=false,mem:=m,box:=X}).p (i-29)).has=bw:=h3;rw[q.2]at h4;exact .inr (.inr (.inl ⟨h1,h2,h4⟩))
  .exact .inr (.inr (.inr (.inl hi)))
  .exact .inr (.inr (.inr (.inr hi)))
 refine⟨⟨⟨_,cQ e1 _ _,by simpa using sz⟩,λx hx=>?_,h.sp.same (o 1 cv bB),(o 2 cv bB).trans h.gr,h.sc.same (o 3 cv bB),h.bk.same (o 4 cv bB) (o 5 cv bB),h.fi.same (o 8 cv bB),h.fo.same (o 6 cv bB),h.pi.same (o 7 cv bB),
  λj hj jh=>?_,λj hj jh=>?_,
  λn hn hh=>(h.tb n hn hh).same (o _ (Kn.kE hn hh) bB) (λg eg=>by have:=o _ (Kn.km hn hh eg) bB;rwa [h.ro n hn hh g eg]at this),h.ro,λi j hi hj=>h.inj i j (pu i hi) (pu j hj),λi hi=>h.low i (pu i hi)⟩,KF.one _ cv f rfl pu⟩
 .rw[Kn.yU];by_cases c5:x=n*12+5
  .subst c5;rw[dF e1 _ _ (by simp;omega),aJ ⟨by omega,bB⟩,show(n*12+5)%12=5 by omega];rfl
  .rw[dm e1 _ _ _ (bQ c5)];by_cases c4:x=n*12+4
   .subst c4;rw[dF e _ _ bB,aJ ⟨by omega,bB⟩,show(n*12+4)%12=4 by omega];rfl
   .rw[dm e _ _ _ (bQ c4),h.eE x hx];by_cases d:x<240/\x/12=n
    .rw[aJ d];unfold Kn.kc Kn.pc Kn.fw;rw[aJ d.1,d.2,aI (show¬x%12=4 by omega),aI (show¬x%12=5 by omega),aI (show¬x%12=4 by omega),aI (show¬x%12=5 by omega)]
    .rw[aI d]
 .have q:=hp j jh;rw[q.2]at jh|-;exact(h.me j hj jh).same (o _ (Kn.ja hj jh) bB)
 .have q:=hp j jh;rw[q.2]at jh|-;exact(h.bx j hj jh).same (o _ (Kn.j9 hj jh) bB)
section
variable (Wt:Nat)(s:St)(w:bD)(X:Nat->Prop)(N:Nat)
theorem yY(n:Nat)(h:bO w Wt s)(hj:KJ X N s.k)(hN:N<=900)(hn:n<20)(hh:(s.k.p n).has=bw):
  Calls prog 148 #[ai (bj ⟨s.A 0,0,bu⟩),aa az n] w λe w'=>∃k',e=bf (ao #[])/\Kn.fP s.k n k'/\bO w' Wt {s with k:=k'}/\KF s w {s with k:=k'} w':=by
 have hnI:(n:Int)<20:=bB
 have UM:=hJ (yZ Wt s w n 0 16 h hn hh (hj.me.cW (i:=n) hn) (by obtain⟨Wy,g⟩:=hj.gr;exact g.small bB));obtain⟨kb,hkb⟩:=hU (s.A 0);have HK:=hJ hkb;have HJ:=hJ (hj.ES hn hh 0 16);have HH:=hJ hh;have HN:=hJ hN;rw[hkb]at UM|-;go_in
 go_wp2_with fail
 refine UM.mono ?_;rintro e w1 ⟨rfl,k1,f1⟩;generalize bN (Kn.AS s.k n 0 16)=ev;have S1:=hJ (aK k1 f1);have FD:Hid (((Kn.dv s.k n 0 16).p n).fd=(s.k.p n).fd):=hJ (Kn.vA s.k n 0 16 n).1;obtain⟨fd,hfd⟩:=hU ((s.k.p n).fd);have HFD:=hJ hfd;have LD:Hid (∀j,j<(mD fd).size->w1.cell? ⟨kb,n*12+6+j,bu⟩=(mD fd)[j]?):=hJ (λj hj=>by
  have q:=S1.1.fds hn j (by rw[FD.v,hfd];exact hj);rw[FD.v,hfd]at q;rw[<-HK.v];exact q)
 have hsz:Hid ((prog.info? 72).map (·.size)=bj (mD fd).size):=hJ (by rw[qB];kernel_rfl);go_wp2_with (refine jw rfl 72 _ rfl kb (n*12+6) rfl (mD fd) 6 3 LD.v bC hsz.v ?_)
 go_loopw [5,6,19] (λ_ _ i wr=>∃(j:Nat),i=aa az j/\j<=6/\Hid (bO wr Wt {s with k:=Kn.dU (Kn.dv s.k n 0 16) n fd j}/\KF s w {s with k:=Kn.dU (Kn.dv s.k n 0 16) n fd j} wr)) (λ_ _ i _=>6-(intOf i).toNat)
 case atStart=>exact⟨0,rfl,bB,S1⟩
 case round=>
  obtain⟨j,rfl,hj6,S⟩:=hrel;have JJ:=hJ (HJ.dU n fd j);by_cases hlt:j<6
  .have hltI:(j:Int)<6:=bB
   have hix:=xy fd j hlt wr;have SU:Hid (Kn.dU (Kn.dv s.k n 0 16) n fd (j+1)=if fd j= -1 then Kn.dU (Kn.dv s.k n 0 16) n fd j else Kn.fT (Kn.jW (Kn.dU (Kn.dv s.k n 0 16) n fd j) (fd j)) n j (-1)):=hJ rfl;generalize Kn.dU (Kn.dv s.k n 0 16) n fd j=kj at*;obtain⟨z,hz⟩:=hU (fd j);rw[hz]at SU hix;by_cases hz1:z= -1
   .subst hz1;rw[aJ rfl]at SU;go_wp2
    go_roundw
    case rel=>exact⟨j+1,by go_num,bB,by rw[SU.v];exact S⟩
    case measure=>simp[intOf];omega
   .have z1:(z== -1)=bA:=by simpa using hz1
    rw[aI hz1]at SU;have cF:=S.1.tS;rw[show({s with k:=kj}:St).A 0=kb from HK.v]at cF;have CL:=hJ (zN (s.A 8) (s.A 6) (s.A 7) z kj.fi kj.fo kj.pi wr S.1.fx JJ.sm (λm hm=>by have:=JJ.rf m hm;have:=HN.v;omega));obtain⟨f8,hf8⟩:=hU (s.A 8);have H8:=hJ hf8;rw[show({s with k:=kj}:St).A 8=f8 from hf8]at cF;rw[hf8]at CL;go_wp2_with fail
    refine CL.mono ?_;rintro e w2 ⟨rfl,u2,f2⟩;generalize bN (Fx.dy kj.fi z)=ev2;have S2:Hid (bO w2 Wt {s with k:=Kn.jW kj z}/\KF s w {s with k:=Kn.jW kj z} w2):=hJ (by
     rw[<-H8.v]at u2 f2;have q:=S.1.wo u2 f2;exact⟨q.1,S.2.trans q.2⟩)
    have c6:=S2.1.qt n j hn hlt;rw[show({s with k:=Kn.jW kj z}:St).A 0=kb from HK.v]at c6;have fz:=S2.1.frozen;rw[show({s with k:=Kn.jW kj z}:St).A 0=kb from HK.v]at fz;have S3:Hid (bO (w2.setCell ⟨kb,n*12+6+j,bu⟩ (aa az (-1))) Wt {s with k:=Kn.dU (Kn.dv s.k n 0 16) n fd (j+1)}/\KF s w {s with k:=Kn.dU (Kn.dv s.k n 0 16) n fd (j+1)} (w2.setCell ⟨kb,n*12+6+j,bu⟩ (aa az (-1)))):=hJ (by
     have q:=S2.1.rF hn hlt (-1);rw[show({s with k:=Kn.jW kj z}:St).A 0=kb from HK.v]at q;rw[SU.v];exact⟨q.1,S2.2.trans q.2⟩)
    generalize ((({s with k:=Kn.jW kj z}:St).k.p n).fd j)=zz at*;go_wp2
    go_roundw
    case rel=>exact⟨j+1,by go_num,bB,S3⟩
    case measure=>simp[intOf];omega
  .obtain rfl:j=6:=bB
   have hltI:¬((6:Nat):Int)<6:=bB
   have SC:Hid ((Kn.dU (Kn.dv s.k n 0 16) n fd 6).sc=s.k.sc):=hJ (by rw[Kn.AP,Kn.SJ]);have PH:Hid (((Kn.dU (Kn.dv s.k n 0 16) n fd 6).p n).has=bw):=hJ (by rw[(Kn.zo _ n fd 6 n).2.1,(Kn.vA s.k n 0 16 n).2.1];exact HH.v);have SK:Hid (∀m',Kn.qQ s.k n m'=({Kn.dU (Kn.dv s.k n 0 16) n fd 6 with sc:=m'}).put n {(Kn.dU (Kn.dv s.k n 0 16) n fd 6).p n with has:=false,mem:=Mv.lR,box:=Sg.gB}):=hJ (λm'=>by unfold Kn.qQ;rw[HFD.v]);generalize Kn.dU (Kn.dv s.k n 0 16) n fd 6=kj at*;have cS:=S.1.wM;rw[show({s with k:=kj}:St).A 0=kb from HK.v]at cS;have DT:=hJ (Wf.Di (s.A 3) kj.sc wr (n:Int) S.1.sc);obtain⟨f3,hf3⟩:=hU (s.A 3);have H3:=hJ hf3;rw[show({s with k:=kj}:St).A 3=f3 from hf3]at cS;rw[hf3]at DT;go_wp2_with fail
   refine DT.mono ?_;rintro e w2 ⟨⟨E2,rfl⟩,u2,f2⟩;obtain⟨m',d2⟩:∃m',Wf.JL kj.sc (n:Int) m':=⟨_,rfl⟩;rw[<-d2]at u2;generalize bN E2=ev2;have S2:Hid (bO w2 Wt {s with k:={kj with sc:=m'}}/\KF s w {s with k:={kj with sc:=m'}} w2):=hJ (by
    rw[<-H3.v]at u2 f2;have q:=S.1.lH u2 f2;exact⟨q.1,S.2.trans q.2⟩)
   have D2:=hJ d2;have c4:=S2.1.qv n hn PH.v;have c5:=S2.1.sX n hn PH.v;have fz:=S2.1.frozen;rw[show({s with k:={kj with sc:=m'}}:St).A 0=kb from HK.v]at c4 c5 fz;have FIN:Hid (bO ((w2.setCell ⟨kb,n*12+4,bu⟩ (ai bu)).setCell ⟨kb,n*12+5,bu⟩ (ai bu)) Wt {s with k:=Kn.qQ s.k n m'}/\KF s w {s with k:=Kn.qQ s.k n m'} ((w2.setCell ⟨kb,n*12+4,bu⟩ (ai bu)).setCell ⟨kb,n*12+5,bu⟩ (ai bu))):=hJ (by
    have q:=S2.1.bare hn Mv.lR Sg.gB PH.v;rw[show({s with k:={kj with sc:=m'}}:St).A 0=kb from HK.v]at q;rw[SK.v m'];exact⟨q.1,S2.2.trans q.2⟩)
   go_wp2_with fail
   go_end0
   exact⟨_,rfl,⟨m',by rw[<-SC.v];exact D2.v,rfl⟩,FIN.v⟩
end
open Mo (Mt)
namespace Sp
theorem DJ{t:T}(hn:n<20)(h:t.of n≠0):dQ t (n:Int)={Af t (List.range 6) n with of:=tX t.of n 0}:=by
 have e:mE t (n:Int)=0:=by unfold mE;rw[vd hn,aJ rfl,hZ,aI h]
 unfold dQ;rw[aJ e,hZ]
theorem jD{t:T}(hn:n<20)(h:t.of n≠0):(dQ t (n:Int)).here=t.here/\(dQ t (n:Int)).par=t.par:=by rw[DJ hn h];exact⟨rfl,rfl⟩
theorem kR{t:T}(hn:n<20)(h:t.of n≠0)(m:Nat):(dQ t (n:Int)).of m=if m=n then 0 else t.of m:=by rw[DJ hn h];rfl
theorem mf{t:T}(hn:n<20)(h:t.of n≠0){s:Nat}(hs:s<6)(p:Nat):(dQ t (n:Int)).b7 s p=if t.b7 s p=n+1 then 0 else t.b7 s p:=by
 rw[DJ hn h];show(if s∈List.range 6/\t.b7 s p=n+1 then 0 else t.b7 s p)=_;by_cases c:t.b7 s p=n+1
 .rw[aJ c,aJ ⟨by simpa using hs,c⟩]
 .rw[aI c,aI (λe=>c e.2)]
structure qZ (t:T):Prop where
 hd:∀s,s<6->t.here s=bw->∃h,h<20/\t.b7 s 1=h+1/\t.of h=s+1
 r0:t.of 0=1/\t.b7 0 1=1
theorem iB{t:T}(hn:n<20)(h:t.of n=z+1):dX t (n:Int)=z:=by
 have e:mE t (n:Int)=0:=by unfold mE;rw[vd hn,aJ rfl,hZ,nJ]
 unfold dX;rw[aJ e,hZ];omega
theorem P8{t:T}{h:Nat}(hz:z<6)(hh:t.here z=bw)(hw:t.b7 z 1=h+1):fc t (z:Int) 1=h:=by
 have e:iw t (z:Int) 1=0:=by
  unfold iw;rw[jP hz hh,aJ rfl,hZ,show(1:Int).toNat=1 from rfl,nJ]
 unfold fc;rw[aJ e,hZ,show(1:Int).toNat=1 from rfl,hw];omega
section
variable {t:T}{d:Nat->Nat}
theorem qZ.leave(h:qZ t)(hn:n<20)(n0:n≠0)(ho:t.of n=z+1)(hw:t.b7 z 1≠n+1):qZ (dQ t (n:Int)):=by
 have o:t.of n≠0:=bB
 refine⟨λs hs hh=>?_,?_⟩
 .rw[(jD hn o).1]at hh;obtain⟨x,x20,xw,xo⟩:=h.hd s hs hh;have xn:x≠n:=λe=>by
   subst e;have:s=z:=bB
   subst this;exact hw xw
  exact⟨x,x20,by rw[mf hn o hs,nJ];exact xw,by rw[kR hn o,aI xn];exact xo⟩
 .rw[kR hn o,aI (bQ n0),mf hn o bB,aI (by have:=h.r0.2;omega)];exact h.r0
theorem Lv{t:T}(h:∀p,p<21->t.b7 z p=0):fY t z=[]:=by
 unfold fY;rw[List.map_eq_nil_iff,List.filter_eq_nil_iff];intro p hp;unfold jG;rw[h p (by simpa using hp)];simp
theorem qZ.shut(h:qZ t)(hI:Inv t d)(hn:n<20)(n0:n≠0)(ho:t.of n=z+1)(hz:z<6)(hh:t.here z=bw)(hw:t.b7 z 1=n+1)(al:∀p,p<21->t.b7 z p≠0->p=1):
  jg (dQ t (n:Int)) (z:Int)=0/\qZ (gP (dQ t (n:Int)) (z:Int)):=by
 have o:t.of n≠0:=bB
 have z0:z≠0:=λe=>by subst e;have:=h.r0.2;omega
 have emp:∀p,p<21->(dQ t (n:Int)).b7 z p=0:=λp hp=>by
  rw[mf hn o hz];by_cases c:t.b7 z p=n+1
  .rw[aJ c]
  .rw[aI c];by_cases e:t.b7 z p=0
   .exact e
   .have:=al p hp e;subst this;exact aZ hw c
 have kd:kids (dQ t (n:Int)) z=bA:=by
  unfold kids;rw[List.any_eq_false];intro k hk;have k6:k<6:=by simpa using hk
  unfold uJ;rw[(jD hn o).1,(jD hn o).2];intro c;have c1:t.here k=bw/\t.par k=(z:Int):=by simpa using c
  obtain⟨x,x20,xw,xo⟩:=h.hd k k6 c1.1;have mem:z∈W t ((t.of x-1:Nat):Int):=by
   rw[xo,show k+1-1=k by omega,hI.tree.step k6 c1.1,c1.2,hI.tree.step hz hh];simp
  obtain⟨p,hp,pw⟩:=(hI.has z x hz x20).2 ⟨by omega,mem⟩;have p1:=al p hp bB;subst p1;have:x=n:=bB
  subst this;have:k=z:=bB
  subst this;rcases hI.tree.iq hz hh with⟨e,_⟩|⟨q,_,e,_,e2⟩
  .exact z0 e
  .rw[c1.2]at e;have:q=k:=bB
   subst this;omega
 have de:jg (dQ t (n:Int)) (z:Int)=0:=by
  unfold jg;rw[jP hz (by rw[(jD hn o).1];exact hh),aJ rfl,hZ,aI (λc=>by
   rcases c with c|c|c
   .omega
   .exact c (Lv emp)
   .rw[kd]at c;cases c)]
 refine⟨de,?_⟩;have e:gP (dQ t (n:Int)) (z:Int)={dQ t (n:Int)with here:=nN (dQ t (n:Int)).here z bA,par:=gD (dQ t (n:Int)).par z 0}:=by unfold gP;rw[aJ de,hZ]
 rw[e];refine⟨λs hs hs2=>?_,?_⟩
 .have hs3:(if s=z then bA else(dQ t (n:Int)).here s)=bw:=hs2;by_cases c:s=z
  .rw[aJ c]at hs3;cases hs3
  .rw[aI c,(jD hn o).1]at hs3;obtain⟨x,x20,xw,xo⟩:=h.hd s hs hs3;have xn:x≠n:=λe=>by subst e;omega
   exact⟨x,x20,by show(dQ t (n:Int)).b7 s 1=_;rw[mf hn o hs,nJ];exact xw,by show(dQ t (n:Int)).of x=_;rw[kR hn o,aI xn];exact xo⟩
 .show(dQ t (n:Int)).of 0=1/\(dQ t (n:Int)).b7 0 1=1;rw[kR hn o,aI (bQ n0),mf hn o bB,aI (by have:=h.r0.2;omega)];exact h.r0
end
end Sp
namespace Mo
theorem uO{F:Fo}{z:Int}(n:Nat):((Tr.dD F z).nd n).held<=(F.nd n).held:=by
 unfold Tr.dD;split
 .rw[xU];by_cases e:n=z.toNat
  .subst e;rw[Tr.bM];show(F.nd _).held-1<=_;omega
  .rw[Tr.bP _ _ _ _ e];exact aL _
 .exact aL _
theorem uP{F:Fo}{z:Int}(h:0<((Tr.dD F z).nd n).held):((Tr.dD F z).nd n).kind=(F.nd n).kind:=by
 unfold Tr.dD at*;split
 .rename_i c;rw[aJ c]at h;rw[xU]at h;rw[Ex _ _ _ h];by_cases e:n=z.toNat
  .subst e;rw[Tr.bM]
  .rw[Tr.bP _ _ _ _ e]
 .rfl
theorem OA{F:Fo}{m:Mt}(n:Nat):((jd F m).nd n).held<=(F.nd n).held:=aH (uO n) (uO n)
theorem DI{F:Fo}{m:Mt}(h:0<((jd F m).nd n).held):((jd F m).nd n).kind=(F.nd n).kind:=(uP h).trans (uP (aD h (uO n)))
theorem uH(n:Nat):∀(L:List Mt) (F:Fo),((L.foldl jd F).nd n).held<=(F.nd n).held
 |[],_=>aL _
 |m::L,F=>aH (uH n L (jd F m)) (OA n)
theorem Bm(n:Nat):∀(L:List Mt) (F:Fo),0<((L.foldl jd F).nd n).held->((L.foldl jd F).nd n).kind=(F.nd n).kind
 |[],_,_=>rfl
 |m::L,F,h=>(Bm n L (jd F m) h).trans (DI (aD h (uH n L _)))
theorem DG{F:Fo}{T:Mo.Tb}(h:0<((lF F T).nd n).held):((lF F T).nd n).kind=(F.nd n).kind:=
 (Bm n T.ms _ h).trans (uP (aD h (uH n T.ms _)))
end Mo
namespace Kn
section
variable {X:Nat->Prop}{N:Nat}{k:Kp}
theorem KJ.lH(h:KJ X N k)(m:Wf.M):KJ X N {k with sc:=m}:=⟨h.sp,h.gr,h.me,h.wx,h.rf,h.ok,h.tb,h.st,h.hs,h.lv,h.of,h.ht,h.nm⟩
theorem UD(k:Kp)(n x:Nat)(hx:x<16):((dv k n 0 16).p n).mem.fr x=0:=by
 unfold dv;have c:Mv.pL 0 16=0:=by decide
 rw[aJ c];show((cT k n _ (Mv.nM (k.p n).mem k.bk 0 16)).p n).mem.fr x=0;rw[jF];show(Mv.kH (k.p n).mem 0 16).fr x=0;unfold Mv.kH;have b:Mv.kZ 0 16=bA:=by decide
 rw[b,aI bE];show(if _ then 0 else _)=0;rw[aJ ⟨aC _,by show x<0+16;omega⟩]
theorem KJ.str(h:KJ X N k)(hn:n<20)(hh:(k.p n).has=bw){k':Kp}(hs:fP k n k'):KJ (λm=>X m\/m=n) N k':=by
 obtain⟨m',hd,rfl⟩:=hs;have a:=((h.ES hn hh 0 16).dU n (k.p n).fd 6).lH m';have pp:=zo (dv k n 0 16) n (k.p n).fd 6;have z0:∀x,x<16->((Kn.dU (dv k n 0 16) n (k.p n).fd 6).p n).mem.fr x=0:=λx hx=>by rw[(pp n).2.2.1];exact UD k n x hx
 unfold qQ;dsimp only;generalize Kn.dU (dv k n 0 16) n (k.p n).fd 6=k1 at*;have e:∀j,j≠n->(({k1 with sc:=m'}:Kp).put n {k1.p n with has:=false,mem:=Mv.lR,box:=Sg.gB}).p j=k1.p j:=λj c=>bP _ _ _ _ c;have e2:(({k1 with sc:=m'}:Kp).put n {k1.p n with has:=false,mem:=Mv.lR,box:=Sg.gB}).p n={k1.p n with has:=false,mem:=Mv.lR,box:=Sg.gB}:=bM _ _ _;refine⟨a.sp,a.gr,?_,a.wx,a.rf,a.ok,a.tb,λm hm=>?_,λm hm=>?_,λm hm=>?_,λm hm=>?_,a.ht,λm hm=>?_⟩
 .refine a.me.congr (λi hi x hx=>?_);by_cases c:i=n
  .subst c;rw[e2];exact(z0 x hx).symm
  .rw[e i c]
 .by_cases c:m=n
  .subst c;rw[e2];exact a.st m hm
  .rw[e m c];exact a.st m hm
 .by_cases c:m=n
  .subst c;rw[e2];intro q;cases q
  .rw[e m c];exact a.hs m hm
 .intro hx;by_cases c:m=n
  .exact aZ (.inr c) hx
  .rw[e m c];exact a.lv m hm (λq=>hx (.inl q))
 .by_cases c:m=n
  .subst c;rw[e2];exact a.of m hm
  .rw[e m c];exact a.of m hm
 .by_cases c:m=n
  .subst c;rw[e2];intro _;rfl
  .rw[e m c];exact a.nm m hm
theorem UE(k:Kp)(n:Nat)(a m:Int):(dv k n a m).sp=k.sp/\(dv k n a m).ht=k.ht/\(dv k n a m).tb=k.tb:=by unfold dv;split<;>exact⟨rfl,rfl,rfl⟩
theorem AQ(k:Kp)(n:Nat)(fd:Nat->Int):∀j,(dU k n fd j).sp=k.sp/\(dU k n fd j).ht=k.ht/\(dU k n fd j).tb=k.tb
 |0=>⟨rfl,rfl,rfl⟩
 |j+1=>by
  show(if fd j= -1 then _ else _:Kp).sp=_/\(if fd j= -1 then _ else _:Kp).ht=_/\(if fd j= -1 then _ else _:Kp).tb=_;split
  .exact AQ k n fd j
  .exact AQ k n fd j
theorem fP.sp{n:Nat}{k':Kp}(hs:fP k n k'):k'.sp=k.sp/\k'.ht=k.ht/\k'.tb=k.tb:=by
 obtain⟨m',_,rfl⟩:=hs;have a:=AQ (dv k n 0 16) n (k.p n).fd 6;have b:=UE k n 0 16;exact⟨a.1.trans b.1,a.2.1.trans b.2.1,a.2.2.trans b.2.2⟩
theorem fP.p{n:Nat}{k':Kp}(hs:fP k n k')(m:Nat):(k'.p m).st=(k.p m).st/\(k'.p m).par=(k.p m).par/\(k'.p m).cA=(k.p m).cA/\(k'.p m).code=(k.p m).code/\(m≠n->(k'.p m).has=(k.p m).has/\(k'.p m).mem=(k.p m).mem/\(k'.p m).box=(k.p m).box):=by
 obtain⟨m',_,rfl⟩:=hs;have a:=zo (dv k n 0 16) n (k.p n).fd 6 m;have b:=vA k n 0 16 m;unfold qQ;dsimp only;by_cases c:m=n
 .subst c;rw[bM];exact⟨a.1.trans b.2.2.1,a.2.2.2.2.2.1.trans b.2.2.2.2.2.1,a.2.2.2.2.1.trans b.2.2.2.2.1,a.2.2.2.2.2.2.trans b.2.2.2.2.2.2,λe=>aZ rfl e⟩
 .rw[bP _ _ _ _ c];have mm:((dv k n 0 16).p m).mem=(k.p m).mem:=by
   unfold dv;split
   .show((cT k n _ (Mv.nM (k.p n).mem k.bk 0 16)).p m).mem=_;rw[show∀x b,(cT k n x b).p m=k.p m from λx b=>bP _ _ _ _ c]
   .rfl
  exact⟨a.1.trans b.2.2.1,a.2.2.2.2.2.1.trans b.2.2.2.2.2.1,a.2.2.2.2.1.trans b.2.2.2.2.1,a.2.2.2.2.2.2.trans b.2.2.2.2.2.2,λ_=>⟨a.2.1.trans b.2.1,a.2.2.1.trans mm,a.2.2.2.1.trans b.2.2.2.1⟩⟩
def eH(k:Kp)(n:Nat):Kp:=({k with gr:=Gr.dn k.gr (k.p n).cA 1 0,sp:=Sp.dQ k.sp (n:Int)}).put n Pr.no
theorem KJ.fin(h:KJ X N k)(hn:n<20)(h0:(k.p n).st≠0)(hh:(k.p n).has=bA):KJ (λm=>X m/\m≠n) N (eH k n):=by
 have o:=(h.of n hn).2 h0;have e:∀j,j≠n->(eH k n).p j=k.p j:=λj c=>bP _ _ _ _ c;have e2:(eH k n).p n=Pr.no:=bM _ _ _;have hr:=Sp.jD hn o;refine⟨?_,?_,?_,h.wx,h.rf,h.ok,h.tb,λm hm=>?_,λm hm=>?_,λm hm=>?_,λm hm=>?_,λs hs=>?_,λm hm=>?_⟩
 .obtain⟨d,hd⟩:=h.sp;exact⟨d,hd.leave _⟩
 .obtain⟨Wy,g⟩:=h.gr;exact⟨Wy,oP g _ _ _⟩
 .refine h.me.congr (λi hi x hx=>?_);by_cases c:i=n
  .subst c;rw[e2,h.nm i hn hh];rfl
  .rw[e i c]
 .by_cases c:m=n
  .subst c;rw[e2];exact aC _
  .rw[e m c];exact h.st m hm
 .by_cases c:m=n
  .subst c;rw[e2];intro q;cases q
  .rw[e m c];exact h.hs m hm
 .intro hx;by_cases c:m=n
  .subst c;rw[e2];intro q;cases q
  .rw[e m c];exact h.lv m hm (λq=>hx ⟨q,c⟩)
 .show(Sp.dQ k.sp (n:Int)).of m≠0↔_;rw[Sp.kR hn o];by_cases c:m=n
  .subst c;rw[e2,aJ rfl];exact⟨λq=>aZ rfl q,λq=>aZ rfl q⟩
  .rw[e m c,aI c];exact h.of m hm
 .show k.ht s=(Sp.dQ k.sp (n:Int)).here s;rw[hr.1];exact h.ht s hs
 .by_cases c:m=n
  .subst c;rw[e2];intro _;rfl
  .rw[e m c];exact h.nm m hm
def mQ(k:Kp)(z:Nat):Kp:={k with sp:=Sp.gP k.sp (z:Int),fo:=Mo.lF k.fo (k.tb z),ht:=λs=>if s=z then bA else k.ht s}
theorem Ez(k:Kp)(z m:Nat):∀s,ly (mQ k z) m s+(if z<s/\k.ht z=bw then Mo.tc (k.tb z) m else 0)=ly k m s
 |0=>by rw[aI (λc=>aZ c.1 (Nat.not_lt_zero _))];rfl
 |s+1=>by
  have ih:=Ez k z m s;show ly (mQ k z) m s+(if(if s=z then bA else k.ht s)=bw then Mo.tc (k.tb s) m else 0)+_=ly k m s+_;by_cases c:s=z
  .subst c;rw[aI (λc=>bB)]at ih;rw[aJ rfl,aI bE];by_cases d:k.ht s=bw
   .rw[aJ ⟨by omega,d⟩,aJ d];omega
   .rw[aI (λe=>d e.2),aI d];omega
  .rw[aI c];by_cases d:z<s/\k.ht z=bw
   .rw[aJ d]at ih;rw[aJ (show z<s+1/\k.ht z=bw from⟨by omega,d.2⟩)];omega
   .rw[aI d]at ih;rw[aI (show¬(z<s+1/\k.ht z=bw)from λe=>d ⟨by omega,e.2⟩)];omega
theorem KJ.Wl(h:KJ X N k)(hz:z<6)(hh:k.sp.here z=bw)(de:Sp.jg k.sp (z:Int)=0):KJ X N (mQ k z):=by
 have ht:k.ht z=bw:=by rw[h.ht z hz];exact hh
 have tx:∀m,jO k m=jO (mQ k z) m+Mo.tc (k.tb z) m:=λm=>by
  have:=Ez k z m 6;rw[aJ ⟨hz,ht⟩]at this;exact this.symm
 have rg:=h.tb z hz ht;have hi:Mo.HI k.fo (λn=>(Fx.cK k.fi 1 n 24+jO (mQ k z) n)+Mo.tc (k.tb z) n):=⟨λn hn=>by rw[h.wx.hl n hn,tx n];omega,λn hn c kz=>by
  have:=h.wx.z0 n hn kz;rw[h.wx.hl n hn,tx n]at this;omega⟩
 have hl:=Mo.Lj hi rg.1;have e:(mQ k z).sp={k.sp with here:=Sp.nN k.sp.here z bA,par:=Sp.gD k.sp.par z 0}:=by show Sp.gP k.sp (z:Int)=_;unfold Sp.gP;rw[aJ de,hZ]
 refine⟨?_,h.gr,h.me,?_,h.rf,Mo.Ll h.ok,λs hs q=>?_,h.st,h.hs,h.lv,λn hn=>?_,λs hs=>?_,h.nm⟩
 .obtain⟨d,hd⟩:=h.sp;exact⟨d,hd.drop _⟩
 .refine⟨h.wx.no,h.wx.kd,λn hn r k1=>?_,h.wx.pn,h.wx.ps,λm hm=>hl.hd m hm,λm hm kz=>?_,h.wx.rd,h.wx.wt⟩
  .have a:=h.wx.nd n hn r k1;refine⟨a.1,?_⟩;have c1:=Fx.rm (T:=k.fi) (k:=1) (m:=(k.fi n).num) hn;have c2:=Fx.nC r;rw[k1]at c2;show((Mo.lF k.fo (k.tb z)).nd (k.fi n).num).kind=1;have c3:Fx.hit (k.fi n) 1 (k.fi n).num=1:=c2;rw[Mo.DG (n:=(k.fi n).num) (by rw[hl.hd _ a.1];omega)];exact a.2
  .by_cases c:((Mo.lF k.fo (k.tb z)).nd m).held=0
   .exact c
   .exact aZ kz (hl.lv m hm (by rw[<-hl.hd m hm];omega))
 .have q2:(if s=z then bA else k.ht s)=bw:=q;by_cases c:s=z
  .rw[aJ c]at q2;cases q2
  .rw[aI c]at q2;exact h.tb s hs q2
 .rw[e];exact h.of n hn
 .rw[e];show(if s=z then bA else k.ht s)=if s=z then bA else k.sp.here s;by_cases c:s=z
  .rw[aJ c,aJ c]
  .rw[aI c,aI c];exact h.ht s hs
end
end Kn
namespace Sp
def mem(t:T)(z m:Nat):Prop:=∃p,p<21/\t.b7 z p=m+1
theorem Tree.sub{t:T}(h:Tree t d)(hn:n<6)(hh:t.here n=bw):∀x,x∈W t (n:Int)->∀y,y∈W t (x:Int)->y∈W t (n:Int):=by
 refine h.ind (P:=λn=>∀x,x∈W t (n:Int)->∀y,y∈W t (x:Int)->y∈W t (n:Int)) (λn hn hh ih=>?_) n hn hh;intro x hx y hy;rw[h.step hn hh]at hx|-;rcases List.mem_cons.1 hx with e|hx
 .subst e;rw[<-h.step hn hh];exact hy
 .rcases h.iq hn hh with⟨_,e,_⟩|⟨p,h1,e,h2,h3⟩
  .rw[e,p7 _ _ bB]at hx;cases hx
  .rw[e]at hx|-;exact List.mem_cons_of_mem _ (ih p h1 h2 e h3 x hx y hy)
section
variable {t:T}{d:Nat->Nat}
theorem Inv.mem_of(h:Inv t d)(hz:z<6)(hm:m<20)(k:mem t z m):t.of m≠0/\z∈W t ((t.of m-1:Nat):Int):=(h.has z m hz hm).1 k
theorem Inv.dc(h:Inv t d)(hm:m<20)(ho:t.of m=z+1):mem t z m/\z<6/\t.here z=bw:=by
 have o:=h.pF m hm bB;rw[ho,show z+1-1=z by omega]at o;have z6:z<6:=bB
 refine⟨(h.has z m z6 hm).2 ⟨by omega,?_⟩,z6,o.2⟩;rw[ho,show z+1-1=z by omega,h.tree.step z6 o.2];simp
theorem Inv.DW(h:Inv t d)(hz:z<6)(hm:m<20)(hx:x<20)(ho:t.of m=y+1)(k:mem t z m)(kx:mem t y x):mem t z x:=by
 obtain⟨_,y6,yh⟩:=h.dc hm ho;have a:=(h.mem_of hz hm k).2;rw[ho,show y+1-1=y by omega]at a;have b:=h.mem_of y6 hx kx;have o:=h.pF x hx b.1;exact(h.has z x hz hx).2 ⟨b.1,h.tree.sub bB o.2 y b.2 z a⟩
theorem vZ{t:T}(h:(fY t z)[i]? =bj x)(hw:∀p,p<21->t.b7 z p<=20):x<20/\mem t z x:=by
 have hm:=bK h;unfold fY at hm;obtain⟨p,hp,e⟩:=List.mem_map.1 hm;obtain⟨h1,h2⟩:=bX.1 hp;have p21:p<21:=by simpa using h1
 have w0:t.b7 z p≠0:=by simpa[jG]using h2
 have:=hw p p21;exact⟨by omega,p,p21,bB⟩
theorem Inv.second(h:Inv t d)(hz:z<6)(hw:t.b7 z 1=n+1):(fY t z)[0]? =bj n/\∀x,(fY t z)[1]? =bj x->x≠n:=by
 have e:∃L,fY t z=n::L/\∀x,x∈L->∃p,p<21/\2<=p/\t.b7 z p≠0/\x=t.b7 z p-1:=by
  unfold fY;have r:List.range 21=0::1::(List.range 19).map (· +2):=by decide
  rw[r,List.filter_cons_of_neg (by simp[jG,h.r9 z hz]),List.filter_cons_of_pos (by simp[jG,hw]),List.map_cons];refine⟨_,by rw[hw];rfl,λx hx=>?_⟩;obtain⟨p,hp,e⟩:=List.mem_map.1 hx;obtain⟨h1,h2⟩:=bX.1 hp;obtain⟨q,hq,e2⟩:=List.mem_map.1 h1;have q19:q<19:=by simpa using hq
  have e2':q+2=p:=e2;exact⟨p,bB,bB,by simpa[jG]using h2,e.symm⟩
 obtain⟨L,e1,e2⟩:=e;rw[e1];refine⟨rfl,λx hx=>?_⟩;have hm:x∈L:=bK (i:=0) hx;obtain⟨p,p21,p2,pw,ex⟩:=e2 x hm;intro c;have:t.b7 z p=t.b7 z 1:=bB
 have:=h.one z p 1 hz p21 bB this pw;omega
theorem xG{t:T}(hw:t.b7 z 1=n+1)(hl:(fY t z).length<=1)(p:Nat)(hp:p<21)(h0:t.b7 z p≠0):p=1:=by
 by_cases c:p=1
 .exact c
 .exfalso;unfold fY at hl;rw[List.length_map]at hl;have s:[min p 1,max p 1].Sublist ((List.range 21).filter (jG t z)):=by
   have s1:[min p 1,max p 1].Sublist (List.range 21):=by
    have a:min p 1<max p 1:=bB
    have b:max p 1<21:=bB
    rw[show List.range 21=List.range (max p 1)++(List.range (21-max p 1)).map (max p 1+ ·)by rw[<-List.range_add];congr 1;omega];refine(List.Sublist.append (l₁:=[min p 1]) (r₁:=[max p 1]) ?_ ?_)
    .exact List.singleton_sublist.2 (by simpa using a)
    .exact List.singleton_sublist.2 (by simp;omega)
   have:=s1.filter (jG t z);rw[List.filter_eq_self.2]at this
   .exact this
   .intro x hx;simp only[List.mem_cons,List.not_mem_nil,or_false]at hx;unfold jG;rcases hx with e|e<;>rw[e]<;>apply aO
    .by_cases q:p<=1
     .rw[Nat.min_eq_left q];exact h0
     .rw[Nat.min_eq_right bB];omega
    .by_cases q:p<=1
     .rw[Nat.max_eq_right q];omega
     .rw[Nat.max_eq_left bB];exact h0
  have:=s.length_le;simp at this;omega
end
end Sp
namespace Kn
def jJ(R:Kp->Nat->Kp->Prop)(z:Int):Nat->Kp->Kp->Prop
 |0,k,k'=>k'=k/\(eQ k.sp z).length<=1
 |j+1,k,k'=>∃m k1,(eQ k.sp z)[1]? =bj m/\R k m k1/\jJ R z j k1 k'
def iK:Nat->Kp->Nat->Kp->Prop
 |0,_,_,_=>False
 |f+1,k,n,k'=>∃k1,(lv k n=bw->fP k n k1)/\(lv k n=bA->k1=k)/\((hd k n≠n/\k'=eH k1 n)\/(hd k n=n/\∃k2 j,jJ (iK f) (Sp.dX k.sp (n:Int):Int) j k1 k2/\k'=mQ (eH k2 n) (Sp.dX k.sp (n:Int))))
structure Gz (k k':Kp)(z:Nat):Prop where
 kp:∀m,m<20->(k'.p m=k.p m/\k'.sp.of m=k.sp.of m)\/(k'.p m=Pr.no/\k'.sp.of m=0/\Sp.mem k.sp z m)
 wh:∀s p,s<6->p<21->k'.sp.b7 s p=k.sp.b7 s p\/k'.sp.b7 s p=0
 wk:∀s p m,s<6->p<21->m<20->k.sp.b7 s p=m+1->k'.sp.of m≠0->k'.sp.b7 s p=m+1
 hr:∀s,s<6->k'.sp.here s=bw->k.sp.here s=bw
 hk:∀s,s<6->k.sp.here s=bw->k'.sp.here s=bA->∀m,m<20->Sp.mem k.sp s m->k'.sp.of m=0
section
variable {k k1 k2:Kp}{z y:Nat}
theorem Gz.refl(k:Kp)(z:Nat):Gz k k z:=⟨λ_ _=> .inl ⟨rfl,rfl⟩,λ_ _ _ _=> .inl rfl,λ_ _ _ _ _ _ e _=>e,λ_ _ e=>e,λ_ _ a b=>by rw[a]at b;cases b⟩
theorem Gz.back(h:Gz k k1 y){s:Nat}(hs:s<6)(e:Sp.mem k1.sp s m):Sp.mem k.sp s m:=by
 obtain⟨p,p21,pw⟩:=e;rcases h.wh s p hs p21 with c|c
 .exact⟨p,p21,by rw[<-c];exact pw⟩
 .rw[c]at pw;omega
theorem Gz.up(h:Gz k k1 y)(e:∀m,m<20->Sp.mem k.sp y m->Sp.mem k.sp z m):Gz k k1 z:=⟨λm hm=>(h.kp m hm).imp id (λc=>⟨c.1,c.2.1,e m hm c.2.2⟩),h.wh,h.wk,h.hr,h.hk⟩
theorem Gz.trans(hz:z<6)(h:Gz k k1 z)(g:Gz k1 k2 z):Gz k k2 z:=by
 have no:Pr.no.st=0:=rfl;refine⟨λm hm=>?_,λs p hs hp=>?_,λs p m hs hp hm e c=>?_,λs hs e=>h.hr s hs (g.hr s hs e),λs hs a b m hm e=>?_⟩
 .rcases g.kp m hm with c|c
  .rcases h.kp m hm with d|d
   .exact .inl ⟨c.1.trans d.1,c.2.trans d.2⟩
   .exact .inr ⟨c.1.trans d.1,c.2.trans d.2.1,d.2.2⟩
  .exact .inr ⟨c.1,c.2.1,h.back hz c.2.2⟩
 .rcases g.wh s p hs hp with c|c
  .rw[c];exact h.wh s p hs hp
  .exact .inr c
 .have o1:k1.sp.of m≠0:=λq=>by
   rcases g.kp m hm with d|d
   .exact c (d.2.trans q)
   .exact c d.2.1
  exact g.wk s p m hs hp hm (h.wk s p m hs hp hm e o1) c
 .by_cases q:k1.sp.of m=0
  .rcases g.kp m hm with d|d
   .exact d.2.trans q
   .exact d.2.1
  .have b1:k1.sp.here s=bw:=by
    cases w:k1.sp.here s
    .exact aZ (h.hk s hs a w m hm e) q
    .rfl
   refine g.hk s hs b1 b m hm ?_;obtain⟨p,p21,pw⟩:=e;exact⟨p,p21,h.wk s p m hs p21 hm pw q⟩
end
structure VI (X:Nat->Prop)(N:Nat)(d:Nat->Nat)(k:Kp):Prop where
 kj:KJ X N k
 iv:Sp.Inv k.sp d
 hs:Sp.qZ k.sp
theorem iG{k:Kp}(hI:Sp.Inv k.sp d)(hH:Sp.qZ k.sp)(hn:n<20)(ho:k.sp.of n=z+1):hd k n=n↔k.sp.b7 z 1=n+1:=by
 obtain⟨_,z6,zh⟩:=hI.dc hn ho;obtain⟨x,x20,xw,xo⟩:=hH.hd z z6 zh;unfold hd;rw[Sp.iB hn ho,Sp.P8 z6 zh xw,xw];omega
theorem fP.Wi{k k':Kp}(hs:fP k n k')(c:m≠n):k'.p m=k.p m:=by
 obtain⟨m',_,rfl⟩:=hs;have a:∀(k:Kp) (fd:Nat->Int) j,(Kn.dU k n fd j).p m=k.p m:=λk fd j=>by
  induction j with
  |zero=>rfl
  |succ j ih=>
   show(if fd j= -1 then _ else _:Kp).p m=_;split
   .exact ih
   .show(fT _ n j (-1)).p m=_;unfold fT;rw[bP _ _ _ _ c];exact ih
 have b:(dv k n 0 16).p m=k.p m:=by
  unfold dv;split
  .show(cT k n _ (Mv.nM (k.p n).mem k.bk 0 16)).p m=_;exact bP _ _ _ _ c
  .rfl
 unfold qQ;dsimp only;rw[bP _ _ _ _ c];exact(a _ _ 6).trans b
section
variable {X:Nat->Prop}{N:Nat}{d:Nat->Nat}{k k1 k':Kp}{n z:Nat}
theorem VI.first(h:VI X N d k)(hn:n<20)(hX:¬X n)(ho:k.sp.of n=z+1)(h1:lv k n=bw->fP k n k1)(h2:lv k n=bA->k1=k):
  VI (λm=>X m\/m=n) N d k1/\k1.sp=k.sp/\k1.tb=k.tb/\(k1.p n).has=bA/\(k1.p n).st≠0/\∀m,m≠n->k1.p m=k.p m:=by
 have s0:(k.p n).st≠0:=(h.kj.of n hn).1 bB;cases c:lv k n
 .have:=h2 c;subst this;have hh:(k1.p n).has=bA:=by
   cases e:(k1.p n).has
   .rfl
   .have:=h.kj.hs n hn e;unfold lv at c;rw[this]at c;cases c
  exact⟨⟨h.kj.mono (λ_ _ e=> .inl e) (aL _),h.iv,h.hs⟩,rfl,rfl,hh,s0,λ_ _=>rfl⟩
 .have st:=h1 c;have s1:(k.p n).st=1:=by unfold lv at c;simpa using c
  have hh:=h.kj.lv n hn hX s1;have sp:=st.sp;have hf:(k1.p n).has=bA:=by
   obtain⟨m',_,rfl⟩:=st;unfold qQ;dsimp only;rw[bM]
  refine⟨⟨h.kj.str hn hh st,by rw[sp.1];exact h.iv,by rw[sp.1];exact h.hs⟩,sp.1,sp.2.2,hf,by rw[(st.p n).1];exact s0,λm e=>st.Wi e⟩
theorem VI.lone(h:VI X N d k)(hn:n<20)(n0:n≠0)(hX:¬X n)(ho:k.sp.of n=z+1)(hd1:hd k n≠n)(h1:lv k n=bw->fP k n k1)(h2:lv k n=bA->k1=k):VI X N d (eH k1 n)/\Gz k (eH k1 n) z/\(eH k1 n).p n=Pr.no/\∀x,x<20->x≠n->(eH k1 n).p x=k.p x/\(eH k1 n).sp.of x=k.sp.of x:=by
 obtain⟨a,sp,tb,hh,s0,fW⟩:=h.first hn hX ho h1 h2;have o1:k1.sp.of n=z+1:=by rw[sp];exact ho
 have o:k1.sp.of n≠0:=bB
 have wn:k1.sp.b7 z 1≠n+1:=λe=>hd1 ((iG h.iv h.hs hn ho).2 (by rw[<-sp];exact e));have e1:∀m,m≠n->(eH k1 n).p m=k.p m:=λm c=>(show(eH k1 n).p m=k1.p m from bP _ _ _ _ c).trans (fW m c);have e2:(eH k1 n).p n=Pr.no:=bM _ _ _;have kj:=(a.kj.fin hn s0 hh).mono (Y:=X) (M:=N) (λm _ e=>e.1.elim id (λq=>aZ q e.2)) (aL _);refine⟨⟨kj,a.iv.leave _,a.hs.leave hn n0 o1 wn⟩,⟨λm hm=>?_,λs p hs hp=>?_,λs p m hs hp hm e c=>?_,λs hs e=>?_,λs hs q r=>?_⟩,e2,λx _ c=>⟨e1 x c,by show(Sp.dQ k1.sp (n:Int)).of x=_;rw[Sp.kR hn o,aI c,sp]⟩⟩
 .by_cases c:m=n
  .subst c;refine .inr ⟨e2,?_,(h.iv.dc hn ho).1⟩;show(Sp.dQ k1.sp (m:Int)).of m=0;rw[Sp.kR hn o,aJ rfl]
  .refine .inl ⟨e1 m c,?_⟩;show(Sp.dQ k1.sp (n:Int)).of m=_;rw[Sp.kR hn o,aI c,sp]
 .show(Sp.dQ k1.sp (n:Int)).b7 s p=_\/(Sp.dQ k1.sp (n:Int)).b7 s p=0;rw[Sp.mf hn o hs,sp];by_cases c:k.sp.b7 s p=n+1
  .rw[aJ c];exact .inr rfl
  .rw[aI c];exact .inl rfl
 .have c2:(Sp.dQ k1.sp (n:Int)).of m≠0:=c;rw[Sp.kR hn o]at c2;show(Sp.dQ k1.sp (n:Int)).b7 s p=_;by_cases q:m=n
  .rw[aJ q]at c2;exact aZ rfl c2
  .rw[Sp.mf hn o hs,sp,nJ];exact e
 .have e3:(Sp.dQ k1.sp (n:Int)).here s=bw:=e;rw[(Sp.jD hn o).1,sp]at e3;exact e3
 .have e3:(Sp.dQ k1.sp (n:Int)).here s=bA:=r;rw[(Sp.jD hn o).1,sp]at e3;rw[q]at e3;cases e3
end
end Kn
namespace Sp
variable {t:T}{d:Nat->Nat}
theorem Tree.lower(h:Tree t d)(hz:z<6)(hh:t.here z=bw)(hy:y∈W t (z:Int))(n:y≠z):d y<d z:=by
 rw[h.step hz hh]at hy;rcases List.mem_cons.1 hy with e|hy
 .exact aZ e n
 .rcases h.iq hz hh with⟨_,e,_⟩|⟨p,h1,e,h2,h3⟩
  .rw[e,p7 _ _ bB]at hy;cases hy
  .rw[e]at hy;have:=(h.mem h1 h2 y hy).2.2;omega
theorem Inv.zero(h:Inv t d)(hH:qZ t)(hz:z<6)(hw:t.b7 z 1=n+1)(n0:n≠0):¬mem t z 0:=λc=>by
 have a:=(h.mem_of hz bB c).2;rw[hH.r0.1]at a;rw[show((1-1:Nat):Int)=((0:Nat):Int)from rfl,h.tree.step bB h.tree.root.1,h.tree.root.2.1,p7 _ _ bB]at a;have:z=0:=by simpa using a
 subst this;have:=hH.r0.2;omega
theorem Inv.BG(h:Inv t d)(hn:n<20)(hm:m<20)(ho:t.of n=z+1)(hy:t.of m=y+1)(k:mem t z m)(c:y≠z):¬mem t y n:=λe=>by
 obtain⟨_,z6,zh⟩:=h.dc hn ho;obtain⟨_,y6,yh⟩:=h.dc hm hy;have a:=(h.mem_of z6 hm k).2;rw[hy,show y+1-1=y by omega]at a;have b:=(h.mem_of y6 hn e).2;rw[ho,show z+1-1=z by omega]at b;have:=h.tree.lower y6 yh a (bQ c);have:=h.tree.lower z6 zh b c;omega
end Sp
namespace Kn
def yA(N:Nat)(d:Nat->Nat)(R:Kp->Nat->Kp->Prop):Prop:=∀(X:Nat->Prop) (k:Kp) (n:Nat) (k':Kp) (z:Nat),VI X N d k->n<20->n≠0->¬X n->k.sp.of n=z+1->(hd k n=n->∀m,m<20->X m->¬Sp.mem k.sp z m)->R k n k'->VI X N d k'/\Gz k k' z/\k'.p n=Pr.no/\(hd k n≠n->∀x,x<20->x≠n->k'.p x=k.p x/\k'.sp.of x=k.sp.of x)
structure EI (X:Nat->Prop)(N:Nat)(d:Nat->Nat)(n z:Nat)(k:Kp):Prop where
 vi:VI X N d k
 hn:n<20
 n0:n≠0
 xn:X n
 ho:k.sp.of n=z+1
 hw:k.sp.b7 z 1=n+1
 hx:∀m,m<20->X m->m≠n->¬Sp.mem k.sp z m
section
variable {X:Nat->Prop}{N:Nat}{d:Nat->Nat}{k k1 k2 k':Kp}{n z m:Nat}{R:Kp->Nat->Kp->Prop}
theorem EI.z6(h:EI X N d n z k):z<6/\k.sp.here z=bw:=(h.vi.iv.dc h.hn h.ho).2
theorem EI.fY(h:EI X N d n z k):eQ k.sp (z:Int)=Sp.fY k.sp z:=by
 unfold eQ;rw[Sp.jP h.z6.1 h.z6.2,aJ rfl,hZ]
theorem EI.next(h:EI X N d n z k)(hm:(eQ k.sp (z:Int))[1]? =bj m):m<20/\m≠0/\m≠n/\¬X m/\Sp.mem k.sp z m/\∃y,k.sp.of m=y+1/\(hd k m=m->∀x,x<20->X x->¬Sp.mem k.sp y x):=by
 rw[h.fY]at hm;obtain⟨m20,mz⟩:=Sp.vZ hm (λp hp=>h.vi.iv.rM z p h.z6.1 hp);have mn:=(h.vi.iv.second h.z6.1 h.hw).2 m hm;have m0:m≠0:=λe=>by subst e;exact h.vi.iv.zero h.vi.hs h.z6.1 h.hw h.n0 mz
 have o:=(h.vi.iv.mem_of h.z6.1 m20 mz).1;refine⟨m20,m0,mn,λc=>h.hx m m20 c mn mz,mz,k.sp.of m-1,bB,λhd1 x x20 xx xm=>?_⟩;have hy:k.sp.of m=(k.sp.of m-1)+1:=bB
 by_cases e:x=n
 .subst e;refine h.vi.iv.BG h.hn m20 h.ho hy mz (λc=>?_) xm;have:=(iG h.vi.iv h.vi.hs m20 hy).1 hd1;rw[c,h.hw]at this;omega
 .exact h.hx x x20 xx e (h.vi.iv.DW h.z6.1 m20 x20 hy mz xm)
theorem EI.step(h:EI X N d n z k)(hm:(eQ k.sp (z:Int))[1]? =bj m)(hR:yA N d R)(r:R k m k1):EI X N d n z k1/\Gz k k1 z/\k1.p n=k.p n/\k1.p m=Pr.no:=by
 obtain⟨m20,m0,mn,mx,mz,y,hy,hx⟩:=h.next hm;obtain⟨v1,g1,e1,l1⟩:=hR X k m k1 y h.vi m20 m0 mx hy hx r;have kn:k1.p n=k.p n/\k1.sp.of n=k.sp.of n:=by
  by_cases c:hd k m=m
  .rcases g1.kp n h.hn with q|q
   .exact q
   .exact aZ q.2.2 (hx c n h.hn h.xn)
  .exact l1 c n h.hn (bQ mn)
 have o1:k1.sp.of n=z+1:=kn.2.trans h.ho;have g:Gz k k1 z:=g1.up (λx x20 xm=>h.vi.iv.DW h.z6.1 m20 x20 hy mz xm);exact⟨⟨v1,h.hn,h.n0,h.xn,o1,g.wk z 1 n h.z6.1 bB h.hn h.hw bB,λx x20 xx xn c=>h.hx x x20 xx xn (g.back h.z6.1 c)⟩,g,kn.1,e1⟩
theorem EI.iter(hR:yA N d R):∀(j:Nat) (k:Kp),EI X N d n z k->jJ R (z:Int) j k k'->EI X N d n z k'/\Gz k k' z/\k'.p n=k.p n/\(eQ k'.sp (z:Int)).length<=1
 |0,k,h,r=>by
  obtain⟨rfl,hl⟩:=r;exact⟨h,Gz.refl _ _,rfl,hl⟩
 |j+1,k,h,r=>by
  obtain⟨m,k1,hm,r1,r2⟩:=r;obtain⟨a,g,e,_⟩:=h.step hm hR r1;obtain⟨a2,g2,e2,l2⟩:=EI.iter hR j k1 a r2;exact⟨a2,g.trans h.z6.1 g2,e2.trans e,l2⟩
theorem EI.last(h:EI (λm=>X m\/m=n) N d n z k)(hX:¬X n)(hl:(eQ k.sp (z:Int)).length<=1)(hh:(k.p n).has=bA)(s0:(k.p n).st≠0):
  VI X N d (mQ (eH k n) z)/\Gz k (mQ (eH k n) z) z/\(mQ (eH k n) z).p n=Pr.no/\Sp.jg (eH k n).sp (z:Int)=0:=by
 have o:k.sp.of n≠0:=by have:=h.ho;omega
 have hn:=h.hn;rw[h.fY]at hl;obtain⟨de,hs⟩:=h.vi.hs.shut h.vi.iv hn h.n0 h.ho h.z6.1 h.z6.2 h.hw (Sp.xG h.hw hl);have kj:=(h.vi.kj.fin hn s0 hh).mono (Y:=X) (M:=N) (λm _ e=>e.1.elim id (λq=>aZ q e.2)) (aL _);have hr:(eH k n).sp.here z=bw:=by show(Sp.dQ k.sp (n:Int)).here z=bw;rw[(Sp.jD hn o).1];exact h.z6.2
 have e1:∀m,m≠n->(mQ (eH k n) z).p m=k.p m:=λm c=>bP _ _ _ _ c;have e2:(mQ (eH k n) z).p n=Pr.no:=bM _ _ _;have es:(mQ (eH k n) z).sp={Sp.dQ k.sp (n:Int)with here:=Sp.nN (Sp.dQ k.sp (n:Int)).here z bA,par:=Sp.gD (Sp.dQ k.sp (n:Int)).par z 0}:=by
  show Sp.gP (Sp.dQ k.sp (n:Int)) (z:Int)=_;unfold Sp.gP;rw[aJ de,hZ]
 refine⟨⟨kj.Wl h.z6.1 hr de,(h.vi.iv.leave _).drop _,hs⟩,⟨λm hm=>?_,λs p hs hp=>?_,λs p m hs hp hm e c=>?_,λs hs e=>?_,λs hs q r m hm mm=>?_⟩,e2,de⟩
 .rw[es];show(_/\(Sp.dQ k.sp (n:Int)).of m=_)\/(_/\(Sp.dQ k.sp (n:Int)).of m=0/\_);rw[Sp.kR hn o];by_cases c:m=n
  .subst c;exact .inr ⟨e2,aJ rfl,(h.vi.iv.dc hn h.ho).1⟩
  .exact .inl ⟨e1 m c,aI c⟩
 .rw[es];show(Sp.dQ k.sp (n:Int)).b7 s p=_\/(Sp.dQ k.sp (n:Int)).b7 s p=0;rw[Sp.mf hn o hs];by_cases c:k.sp.b7 s p=n+1
  .rw[aJ c];exact .inr rfl
  .rw[aI c];exact .inl rfl
 .rw[es]at c|-;have c2:(Sp.dQ k.sp (n:Int)).of m≠0:=c;rw[Sp.kR hn o]at c2;show(Sp.dQ k.sp (n:Int)).b7 s p=_;by_cases q:m=n
  .rw[aJ q]at c2;exact aZ rfl c2
  .rw[Sp.mf hn o hs,nJ];exact e
 .rw[es]at e;have e3:(if s=z then bA else(Sp.dQ k.sp (n:Int)).here s)=bw:=e;by_cases c:s=z
  .rw[aJ c]at e3;cases e3
  .rw[aI c,(Sp.jD hn o).1]at e3;exact e3
 .rw[es]at r|-;have e3:(if s=z then bA else(Sp.dQ k.sp (n:Int)).here s)=bA:=r;by_cases c:s=z
  .subst c;obtain⟨p,p21,pw⟩:=mm;have p1:=Sp.xG h.hw hl p p21 bB;subst p1;have:m=n:=by have:=h.hw;omega
   subst this;show(Sp.dQ k.sp (m:Int)).of m=0;rw[Sp.kR hn o,aJ rfl]
  .rw[aI c,(Sp.jD hn o).1,q]at e3;cases e3
theorem kU:∀f,yA N d (iK f)
 |0=>λ_ _ _ _ _ _ _ _ _ _ _ r=>r.elim
 |f+1=>λX k n k' z h hn n0 hX ho hx r=>by
  obtain⟨k1,h1,h2,r⟩:=r;rcases r with⟨c,rfl⟩|⟨c,k2,j,ri,rfl⟩
  .obtain⟨a,b,e,l⟩:=h.lone hn n0 hX ho c h1 h2;exact⟨a,b,e,λ_=>l⟩
  .obtain⟨a,sp,tb,hh,s0,fW⟩:=h.first hn hX ho h1 h2;have zi:Sp.dX k.sp (n:Int)=z:=Sp.iB hn ho;rw[zi]at ri|-;have ei:EI (λm=>X m\/m=n) N d n z k1:=⟨a,hn,n0, .inr rfl,by rw[sp];exact ho,by rw[sp];exact(iG h.iv h.hs hn ho).1 c,λm m20 xm mn mz=>by
    rw[sp]at mz;exact hx c m m20 (xm.elim id (λq=>aZ q mn)) mz⟩
   obtain⟨b,g,e,l⟩:=EI.iter (kU f) j k1 ei ri;obtain⟨v,g2,e2,_⟩:=b.last hX l (by rw[e];exact hh) (by rw[e];exact s0);have gg:=g.trans ei.z6.1 g2;refine⟨v,⟨λm hm=>?_,λs p hs hp=>?_,λs p m hs hp hm=>?_,λs hs=>?_,λs hs=>?_⟩,e2,λq=>aZ c q⟩
   .by_cases q:m=n
    .subst q;rcases gg.kp m hm with w|w
     .rcases g2.kp m hm with y|y
      .exfalso;have:(k2.p m)=Pr.no:=y.1.symm.trans e2;rw[<-e,this]at s0;exact s0 rfl
      .exact .inr ⟨e2,y.2.1,(h.iv.dc hm ho).1⟩
     .exact .inr ⟨w.1,w.2.1,by rw[<-sp];exact w.2.2⟩
    .have:=gg.kp m hm;rw[fW m q,sp]at this;exact this
   .have:=gg.wh s p hs hp;rw[sp]at this;exact this
   .have:=gg.wk s p m hs hp hm;rw[sp]at this;exact this
   .have:=gg.hr s hs;rw[sp]at this;exact this
   .have:=gg.hk s hs;rw[sp]at this;exact this
end
end Kn
def dZ(a b:Nat)(x:Pr):Array Value:=((List.range 12).map λj=>Kn.fw a b x j).toArray
theorem dM(a b:Nat)(x:Pr):(dZ a b x).size=12:=by simp[dZ]
theorem lT(a b:Nat)(x:Pr)(j:Nat)(h:j<12):(dZ a b x)[j]? =bj (Kn.fw a b x j):=by simp[dZ,h]
theorem R8(a b:Nat)(x:Pr)(j:Nat):(Kn.fw a b x j).oneCell'=bw:=by
 unfold Kn.fw Kn.ptr
 repeat' split
 all_goals rfl
theorem qj(a b:Nat)(x:Pr):(dZ a b x).all (·.oneCell')=bw:=Array.all_eq_true_iff_forall_mem.2 (λv hv=>by
 unfold dZ at hv;rw[List.mem_toArray]at hv;obtain⟨j,_,rfl⟩:=List.mem_map.1 hv;exact R8 a b x j)
theorem y9(a b:Nat):dZ a b Pr.no=#[aa az 0,aa az 0,aa az 0,aa az 0,ai bu,ai bu,aa az 0,aa az 0,aa az 0,aa az 0,aa az 0,aa az 0]:=rfl
section
variable {w w':bD}{Wt:Nat}{s:St}
theorem bO.there(h:bO w Wt s){n:Nat}(hn:n<20):w.there (s.A 0) (n*12) 12:=λj hj=>⟨by rw[h.cP n j hn hj];rfl,h.frozen _⟩
theorem bO.whole(h:bO w Wt s)(hn:n<20){x:Pr}(h1:(s.k.p n).has=bA)(h2:x.has=bA)(a b:Nat):
  bO (w.setCells (s.A 0) (n*12) (dZ a b x).toList) Wt {s with k:=s.k.put n x}/\KF s w {s with k:=s.k.put n x} (w.setCells (s.A 0) (n*12) (dZ a b x).toList):=by
 obtain⟨C,e,sz⟩:=h.mT;obtain⟨C',e',sz'⟩:=eP (s.A 0) (dZ a b x).toList (n*12) w C e;have hl:(dZ a b x).toList.length=12:=by rw[aB,dM]
 have f:bG (s.A 0) w (w.setCells (s.A 0) (n*12) (dZ a b x).toList):=bG.setCells _ _ (bG.refl _ _);have pcn:∀c d j,Kn.fw c d x j=Kn.fw a b x j:=λc d j=>by
  unfold Kn.fw;rw[h2];rfl
 have eE:∀o,o<253->(w.setCells (s.A 0) (n*12) (dZ a b x).toList).cell? ⟨s.A 0,o,bu⟩=bj (Kn.kc {s with k:=s.k.put n x} o):=λo ho=>by
  rw[Kn.yU];by_cases c:o<240/\o/12=n
  .rw[aJ c,pcn];obtain⟨j,rfl,hj⟩:∃j,o=n*12+j/\j<12:=⟨o%12,bB,bB⟩;rw[aS (s.A 0) (dZ a b x).toList (n*12) w (λi hi=>by rw[hl]at hi;rw[h.cP n i hn hi];rfl) j bB,<-aW bB,aM,lT a b x j hj,show(n*12+j)%12=j by omega]
  .rw[aI c,aA (s.A 0) _ (n*12) w ⟨s.A 0,o,bu⟩ (λ_ _=>by rw[hl];show o<_\/_<=o;omega)];exact h.eE o ho
 have o:=h.others cv f;have hp:∀j,((s.k.put n x).p j).has=bw->j≠n/\(s.k.put n x).p j=s.k.p j:=λj hj=>by
  by_cases c:j=n
  .subst c;rw[Kn.bM,h2]at hj;cases hj
  .exact⟨c,Kn.bP _ _ _ _ c⟩
 have pu:=Kn.AX (s:=s) (n:=n) (x:=x) (h2.trans h1.symm);refine⟨⟨⟨C',e',bB⟩,eE,h.sp.same (o 1 cv bB),(o 2 cv bB).trans h.gr,h.sc.same (o 3 cv bB),h.bk.same (o 4 cv bB) (o 5 cv bB),h.fi.same (o 8 cv bB),h.fo.same (o 6 cv bB),h.pi.same (o 7 cv bB),
  λj hj jh=>?_,λj hj jh=>?_,
  λn hn hh=>(h.tb n hn hh).same (o _ (Kn.kE hn hh) bB) (λg eg=>by have:=o _ (Kn.km hn hh eg) bB;rwa [h.ro n hn hh g eg]at this),h.ro,λi j hi hj=>h.inj i j ((pu i).1 hi) ((pu j).1 hj),λi hi=>h.low i ((pu i).1 hi)⟩,KF.one _ cv f rfl (λi hi=>(pu i).1 hi)⟩
 .have q:=hp j jh;rw[q.2]at jh|-;exact(h.me j hj jh).same (o _ (Kn.ja hj jh) bB)
 .have q:=hp j jh;rw[q.2]at jh|-;exact(h.bx j hj jh).same (o _ (Kn.j9 hj jh) bB)
theorem bO.U7(h:bO w Wt s)(hz:z<6)(hh:s.k.ht z=bw){F:Fo}(u:bS w' (s.A 6) F)(k:dS (BF (s.A (49+z)) (s.A 6)) w w'):
  bO (w'.setCell ⟨s.A 0,240+z,bu⟩ (ai bu)) Wt {s with k:={s.k with fo:=F,ht:=λx=>if x=z then bA else s.k.ht x}}/\KF s w {s with k:={s.k with fo:=F,ht:=λx=>if x=z then bA else s.k.ht x}} (w'.setCell ⟨s.A 0,240+z,bu⟩ (ai bu)):=by
 have ut:=Kn.kE hz hh;have o:∀i,us s i->i≠49+z->i≠6->w'.heap[s.A i]? =w.heap[s.A i]? :=λi hi a b=>k.block _ (h.lt hi) (λc=>by
  rcases c with c|c
  .exact h.ne hi ut a c
  .exact h.ne hi cv b c)
 have sb:∀i,us s i->i≠0->(w'.setCell ⟨s.A 0,240+z,bu⟩ (ai bu)).heap[s.A i]? =w'.heap[s.A i]? :=λi hi a=>dE _ _ _ _ (h.ne hi cv a);have oo:∀i,us s i->i≠0->i≠49+z->i≠6->(w'.setCell ⟨s.A 0,240+z,bu⟩ (ai bu)).heap[s.A i]? =w.heap[s.A i]? :=λi hi a b c=>(sb i hi a).trans (o i hi b c);obtain⟨C,e,sz⟩:=h.mT;have e1:w'.heap[s.A 0]? =bj (bh C 86 (0,0)):=(o 0 cv bB bB).trans e;have pu:∀i,us {s with k:={s.k with fo:=F,ht:=λx=>if x=z then bA else s.k.ht x}} i->us s i/\i≠49+z/\i≠55+z:=λi hi=>by
  rcases hi with hi|⟨h1,h2,h3⟩|⟨h1,h2,h3⟩|⟨h1,h2,h3⟩|⟨h1,h2,h3,h4⟩
  .exact⟨.inl hi,bB,bB⟩
  .exact⟨.inr (.inl ⟨h1,h2,h3⟩),bB,bB⟩
  .exact⟨.inr (.inr (.inl ⟨h1,h2,h3⟩)),bB,bB⟩
  .have h5:(if i-49=z then bA else s.k.ht (i-49))=bw:=h3;by_cases c:i-49=z
   .rw[aJ c]at h5;cases h5
   .rw[aI c]at h5;exact⟨.inr (.inr (.inr (.inl ⟨h1,h2,h5⟩))),bB,bB⟩
  .have h5:(if i-55=z then bA else s.k.ht (i-55))=bw:=h3;by_cases c:i-55=z
   .rw[aJ c]at h5;cases h5
   .rw[aI c]at h5;exact⟨.inr (.inr (.inr (.inr ⟨h1,h2,h5,h4⟩))),bB,bB⟩
 have hq:∀n,(if n=z then bA else s.k.ht n)=bw->n≠z/\s.k.ht n=bw:=λn q=>by
  by_cases c:n=z
  .rw[aJ c]at q;cases q
  .rw[aI c]at q;exact⟨c,q⟩
 refine⟨⟨⟨_,cQ e1 _ _,by simpa using sz⟩,λx hx=>?_,h.sp.same (oo 1 cv bB bB bB),(oo 2 cv bB bB bB).trans h.gr,h.sc.same (oo 3 cv bB bB bB),h.bk.same (oo 4 cv bB bB bB) (oo 5 cv bB bB bB),h.fi.same (oo 8 cv bB bB bB),u.same (sb 6 cv bB),h.pi.same (oo 7 cv bB bB bB),
  λn hn hh=>(h.me n hn hh).same (oo _ (Kn.ja hn hh) bB bB bB),λn hn hh=>(h.bx n hn hh).same (oo _ (Kn.j9 hn hh) bB bB bB),
  λn hn q=>?_,λn hn q=>h.ro n hn (hq n q).2,λi j hi hj=>h.inj i j (pu i hi).1 (pu j hj).1,λi hi=>h.low i (pu i hi).1⟩,
  ⟨(k.mono (λb _ c=>by
   rcases c with c|c
   .exact⟨_,ut,c⟩
   .exact⟨6,cv,c⟩)).setCell ⟨0,cv,rfl⟩ _ _,λb ⟨i,hi,eb⟩=> .inl ⟨i,(pu i hi).1,eb⟩,rfl⟩⟩
 .by_cases c:x=240+z
  .subst c;rw[dF e1 _ _ bB];unfold Kn.kc;rw[nJ,nK,show 240+z-240=z by omega];show _=bj (Kn.ptr _ (if z=z then bA else _));rw[aJ rfl];rfl
  .rw[dm e1 _ _ _ (bQ c),bR e1,<-bR e,h.eE x hx];unfold Kn.kc;by_cases c1:x<240
   .rw[aJ c1,aJ c1];rfl
   .rw[aI c1,aI c1];by_cases c2:x<246
    .rw[aJ c2,aJ c2];have hy:x-240≠z:=bB
     generalize x-240=y at hy|-;show bj (Kn.ptr (s.A (49+y)) (s.k.ht y))=bj (Kn.ptr (s.A (49+y)) (if y=z then bA else s.k.ht y));rw[aI hy]
    .rw[aI c2,aI c2]
 .have q2:=hq n q;exact(h.tb n hn q2.2).same (oo _ (Kn.kE hn q2.2) bB bB bB) (λg eg=>by have:=oo _ (Kn.km hn q2.2 eg) bB bB bB;rwa [h.ro n hn q2.2 g eg]at this)
end
theorem Rh{P Q:Nat->Bool}(h:∀x,P x=bw->Q x=bw)(hQ:Q a=bw)(hP:P a=bA):∀n,a<n->((List.range n).filter P).length<((List.range n).filter Q).length:=by
 have le:∀n,((List.range n).filter P).length<=((List.range n).filter Q).length:=λn=>by
  induction n with
  |zero=>exact aL _
  |succ n ih=>
   rw[List.range_succ,List.filter_append,List.filter_append,List.length_append,List.length_append];cases hp:P n
   .simp[hp];omega
   .simp[hp,h n hp];omega
 intro n
 induction n with
 |zero=>intro c;omega
 |succ n ih=>
  intro c;rw[List.range_succ,List.filter_append,List.filter_append,List.length_append,List.length_append];by_cases e:a=n
  .subst e;have:=le a;simp[hP,hQ];omega
  .have:=ih bB;cases hp:P n
   .simp[hp];omega
   .simp[hp,h n hp];omega
namespace Kn
theorem EI.UJ{k k1:Kp}(h:EI X N d n z k)(h1:EI X N d n z k1)(g:Gz k k1 z)(m20:m<20)(mz:Sp.mem k.sp z m)(e:k1.p m=Pr.no):(eQ k1.sp (z:Int)).length<(eQ k.sp (z:Int)).length:=by
 rw[h.fY,h1.fY];unfold Sp.fY;rw[List.length_map,List.length_map];obtain⟨p,p21,pw⟩:=mz;have o:k1.sp.of m=0:=by
  cases q:k1.sp.of m with
  |zero=>rfl
  |succ y=>exact aZ (show(k1.p m).st=0 by rw[e];rfl) ((h1.vi.kj.of m m20).1 (by rw[q];omega))
 have w0:k1.sp.b7 z p=0:=by
  rcases g.wh z p h.z6.1 p21 with c|c
  .exact aZ o (h1.vi.iv.mem_of h1.z6.1 m20 ⟨p,p21,by rw[c];exact pw⟩).1
  .exact c
 have key:∀q,(Sp.jG k1.sp z q&&decide (q<21))=bw->(Sp.jG k.sp z q&&decide (q<21))=bw:=λq hq=>by
  have hq2:k1.sp.b7 z q≠0/\q<21:=by simpa[Sp.jG]using hq
  rcases g.wh z q h.z6.1 hq2.2 with c|c
  .simp[Sp.jG,<-c,hq2]
  .exact aZ c hq2.1
 have eq:∀t:Sp.T,(List.range 21).filter (Sp.jG t z)=(List.range 21).filter (λq=>Sp.jG t z q&&decide (q<21)):=λt=>List.filter_congr (λq hq=>by
  have:q<21:=by simpa using hq
  simp[this])
 rw[eq k1.sp,eq k.sp];exact Rh key (a:=p) (by simp[Sp.jG,pw,p21]) (by simp[Sp.jG,w0]) 21 p21
end Kn
open Kn (Pr Kp St us KB KJ VI EI)
def VR:Value->Nat
 |aj _ n _=>n
 |_=>0
def Ic(Wt N:Nat)(d:Nat->Nat)(r:Nat):Prop:=∀(X:Nat->Prop) (s:St) (w:bD) (n z:Nat),bO w Wt s->VI X N d s.k->n<20->n≠0->¬X n->s.k.sp.of n=z+1->(Kn.hd s.k n=n->6<=d z+r/\∀m,m<20->X m->¬Sp.mem s.k.sp z m)->1<=r->
 Calls prog 73 #[ai (bj ⟨s.A 0,0,bu⟩),aa az n] w λe w'=>∃k',e=bf (ao #[])/\Kn.iK r s.k n k'/\bO w' Wt {s with k:=k'}/\KF s w {s with k:=k'} w'
theorem Kn.EI.Tt{k:Kp}(h:EI X N d n z k)(m20:m<20)(mn:m≠n)(mz:Sp.mem k.sp z m)(hy:k.sp.of m=y+1)(c:Kn.hd k m=m):d z<d y:=by
 obtain⟨_,y6,yh⟩:=h.vi.iv.dc m20 hy;have a:=(h.vi.iv.mem_of h.z6.1 m20 mz).2;rw[hy,show y+1-1=y by omega]at a;refine h.vi.iv.tree.lower y6 yh a (λe=>?_);have:=(Kn.iG h.vi.iv h.vi.hs m20 hy).1 c;rw[<-e,h.hw]at this;omega
section
variable (Wt N:Nat)(d:Nat->Nat)(r:Nat)(X:Nat->Prop)(s:St)(w:bD)(n z:Nat)
theorem yV(hV:Ic Wt N d r)(hr:1<=r)(hz:5<=d z+r)(h:bO w Wt s)(he:EI X N d n z s.k):
  Calls prog 149 #[ai (bj ⟨s.A 0,0,bu⟩),aa az n] w λe w'=>∃k' j,e=bf (ao #[])/\Kn.jJ (Kn.iK r) (z:Int) j s.k k'/\bO w' Wt {s with k:=k'}/\KF s w {s with k:=k'} w':=by
 have SP:=hJ (iJ Wt s w (n:Int) h);have zi:Sp.dX s.k.sp (n:Int)=z:=Sp.iB he.hn he.ho;rw[zi]at SP;have MM:=hJ (qH Wt s w (z:Int) h);obtain⟨kb,hkb⟩:=hU (s.A 0);have HK:=hJ hkb;have H:=hJ (aK h he);have HV:=hJ (aK hV (aK hr hz));rw[hkb]at SP MM|-;clear h he hV hr hz zi;go_in
 go_wp2_with fail
 refine SP.mono ?_;rintro e w1 ⟨rfl,hw⟩;subst w1;go_wp2_with fail
 refine MM.mono ?_;rintro e w1 ⟨v1,rfl,hL⟩;have S1:Hid (EI X N d n z s.k/\bO w1 Wt {s with k:=s.k}/\KF s w {s with k:=s.k} w1/\LO w (eQ s.k.sp (z:Int)) v1 w1/\∀k' j,Kn.jJ (Kn.iK r) (z:Int) j s.k k'->∃j',Kn.jJ (Kn.iK r) (z:Int) j' s.k k'):=hJ ⟨H.2,H.1.below hL.cU,KF.below hL.cU,hL,λk' j q=>⟨j,q⟩⟩;clear hL SP MM;go_wp2_with fail
 go_loopw [5] (λv wr=>∃(k:Kp) (w0:bD),Hid (EI X N d n z k/\bO wr Wt {s with k:=k}/\KF s w {s with k:=k} wr/\LO w0 (eQ k.sp (z:Int)) v wr/\∀k' j,Kn.jJ (Kn.iK r) (z:Int) j k k'->∃j',Kn.jJ (Kn.iK r) (z:Int) j' s.k k')) (λv _=>VR v)
 case atStart=>exact⟨s.k,w,S1⟩
 case round=>
  clear S1;obtain⟨k,w0,S⟩:=hrel;by_cases hl:1<(eQ k.sp (z:Int)).length
  .obtain⟨gg,cap,hv,hg,hc⟩:=S.2.2.2.1.cells bB;have HVV:=hJ hv;obtain⟨m,hm⟩:∃m,(eQ k.sp (z:Int))[1]? =bj m:=⟨_,aW hl⟩;have c1:=hc 1 hl;have cm:wr.cell? ⟨gg,1,bu⟩=bj (aa az (m:Int)):=by
    rw[show 0+1=1 from rfl]at c1;rw[c1];simp[aF,hm]
   obtain⟨m20,m0,mn,mx,mz,y,hy,hx⟩:=S.1.next hm;have DD:Hid (Kn.hd k m=m->6<=d y+r/\∀x,x<20->X x->¬Sp.mem k.sp y x):=hJ (λc=>⟨by have:=S.1.Tt m20 mn mz hy c;have:=HV.2.2;omega,hx c⟩);have VC:=hJ (HV.1 X {s with k:=k} wr m y S.2.1 S.1.vi m20 m0 mx hy DD.v HV.2.1);rw[show({s with k:=k}:St).A 0=kb from HK.v]at VC;have HM:=hJ (aK hm (aK m20 mz));obtain⟨LL,hLL⟩:=hU ((eQ k.sp (z:Int)).length);have HLL:=hJ hLL;rw[hLL]at hv hl;subst hv;have hlI:(1:Int)<(LL:Int):=bB
   clear hc c1 hm hy hx mx mz hLL hg m0 mn;go_wp2_with fail
   refine VC.mono ?_;rintro e w2 ⟨k1,rfl,hvan,ka,kf⟩;have ST:=hJ (S.1.step HM.1 (Kn.kU r) hvan);have S2:Hid (bO w2 Wt {s with k:=k1}/\KF s w {s with k:=k1} w2/\Kn.iK r k m k1):=hJ ⟨ka,S.2.2.1.trans kf,hvan⟩;clear ka kf hvan cm;have MM:=hJ (qH Wt {s with k:=k1} w2 (z:Int) S2.1);rw[show({s with k:=k1}:St).A 0=kb from HK.v]at MM;go_wp2_with fail
   refine MM.mono ?_;rintro e w3 ⟨v3,rfl,hL3⟩;have S3:Hid (EI X N d n z k1/\bO w3 Wt {s with k:=k1}/\KF s w {s with k:=k1} w3/\LO w2 (eQ k1.sp (z:Int)) v3 w3/\∀k' j,Kn.jJ (Kn.iK r) (z:Int) j k1 k'->∃j',Kn.jJ (Kn.iK r) (z:Int) j' s.k k'):=hJ ⟨ST.1,S2.1.below hL3.cU,S2.2.1.trans (KF.below hL3.cU),hL3,λk' j q=>S.2.2.2.2 k' (j+1) ⟨m,k1,HM.1,S2.2.2,q⟩⟩;obtain⟨a3,c3,hv3⟩:=ib hL3.own;have FW:Hid ((eQ k1.sp (z:Int)).length<LL):=hJ (by rw[<-HLL.v];exact S.1.UJ ST.1 ST.2.1 HM.2.1 HM.2.2 ST.2.2.2);obtain⟨L3,hL3e⟩:=hU ((eQ k1.sp (z:Int)).length);rw[hL3e]at hv3 FW;subst hv3;clear hL3 hL3e;go_wp2
   go_roundw
   case rel=>exact⟨k1,w2,S3⟩
   case measure=>exact FW.v
  .obtain⟨a3,c3,hv3⟩:=ib S.2.2.2.1.own;have FIN:Hid (∃j,Kn.jJ (Kn.iK r) (z:Int) j s.k k):=hJ (S.2.2.2.2 k 0 ⟨rfl,bB⟩);obtain⟨LL,hLL⟩:=hU ((eQ k.sp (z:Int)).length);rw[hLL]at hv3 hl;have hlI:¬(1:Int)<(LL:Int):=bB
   have S2:Hid (bO wr Wt {s with k:=k}/\KF s w {s with k:=k} wr):=hJ ⟨S.2.1,S.2.2.1⟩;clear S hLL;subst hv3;go_wp2_with fail
   go_end0
   obtain⟨j,hj⟩:=FIN.v;exact⟨rfl,k,⟨j,hj⟩,S2.v⟩
end
namespace Kn
theorem VI.Wd{k k1 k2:Kp}(h:VI X N d k)(hn:n<20)(n0:n≠0)(hX:¬X n)(ho:k.sp.of n=z+1)(hx:hd k n=n->∀m,m<20->X m->¬Sp.mem k.sp z m)(h1:lv k n=bw->fP k n k1)(h2:lv k n=bA->k1=k)
  (h3:hd k n≠n->k2=k1) (h4:hd k n=n->∃j,jJ (iK r) (z:Int) j k1 k2):VI (λm=>X m\/m=n) N d k2/\(k2.p n).has=bA/\k2.sp.of n=z+1:=by
 obtain⟨a,sp,tb,hh,s0,fW⟩:=h.first hn hX ho h1 h2;by_cases c:hd k n=n
 .obtain⟨j,ri⟩:=h4 c;have ei:EI (λm=>X m\/m=n) N d n z k1:=⟨a,hn,n0, .inr rfl,by rw[sp];exact ho,by rw[sp];exact(iG h.iv h.hs hn ho).1 c,λm m20 xm mn mz=>by
   rw[sp]at mz;exact hx c m m20 (xm.elim id (λq=>aZ q mn)) mz⟩
  obtain⟨b,g,e,l⟩:=EI.iter (kU r) j k1 ei ri;exact⟨b.vi,by rw[e];exact hh,b.ho⟩
 .have:=h3 c;subst this;exact⟨a,hh,by rw[sp];exact ho⟩
theorem VI.ei{k k1:Kp}(h:VI X N d k)(hn:n<20)(n0:n≠0)(hX:¬X n)(ho:k.sp.of n=z+1)(c:hd k n=n)(hx:∀m,m<20->X m->¬Sp.mem k.sp z m)(h1:lv k n=bw->fP k n k1)(h2:lv k n=bA->k1=k):EI (λm=>X m\/m=n) N d n z k1:=by
 obtain⟨a,sp,tb,hh,s0,fW⟩:=h.first hn hX ho h1 h2;exact⟨a,hn,n0, .inr rfl,by rw[sp];exact ho,by rw[sp];exact(iG h.iv h.hs hn ho).1 c,λm m20 xm mn mz=>by
  rw[sp]at mz;exact hx m m20 (xm.elim id (λq=>aZ q mn)) mz⟩
end Kn
section
variable {ops:Array Oper}{rest:List Oper}{x:Oper}{a:Act}{w:bD}{Q:Exit->Act->bD->Prop}
theorem BJ(a b:Nat):prog.built 74 []=bj (dZ a b Pr.no):=by rw[y9];kernel_rfl
theorem zL(hgd:x.guard=bu)(ho:x.op= .build 74 #[])(h:wpList prog ops Q rest (a.put x.dst (au (dZ 0 0 Pr.no))) w):wpList prog ops Q (x::rest) a w:=
 wpList_build hgd 74 #[] ho (by simp[BJ 0 0]) (by simpa[BJ 0 0]using h)
end
theorem DC(Wt N:Nat)(d:Nat->Nat)(r:Nat)(hN:N<=900)(hV:1<=r->Ic Wt N d r):Ic Wt N d (r+1):=by
 intro X s w n z h hv hn n0 hX ho hx hr;have hnI:(n:Int)<20:=bB
 obtain⟨_,z6,zh⟩:=hv.iv.dc hn ho;have z6I:(z:Int)<6:=bB
 obtain⟨tl,htl⟩:=hU (Kn.lv s.k n);obtain⟨th,hth⟩:=hU (decide (Kn.hd s.k n=n));have SP:=hJ (iJ Wt s w (n:Int) h);rw[Sp.iB hn ho]at SP;have IH:=hJ (mU Wt s w n h th hth);have LV:=hJ (jq Wt s w n h hn tl htl);have KS:=hJ (λ(c:Kn.lv s.k n=bw)=>yY Wt s w X N n h hv.kj hN hn (hv.kj.lv n hn hX (by unfold Kn.lv at c;simpa using c)));have HT:Hid ((Kn.lv s.k n=bw->tl=bw)/\(Kn.lv s.k n=bA->tl=bA)/\(tl=bw->Kn.lv s.k n=bw)/\(th=bw->Kn.hd s.k n=n)/\(th=bA->Kn.hd s.k n≠n)):=hJ ⟨λc=>by rw[<-htl];exact c,λc=>by rw[<-htl];exact c,λc=>by rw[htl];exact c,λc=>by rw[<-hth]at c;exact of_decide_eq_true c,λc=>by rw[<-hth]at c;exact of_decide_eq_false c⟩;obtain⟨kb,hkb⟩:=hU (s.A 0);have HK:=hJ hkb;have H:=hJ (aK h (aK hv (aK hX (aK ho hx))));have HV:=hJ (aK hV (aK hN zh));rw[hkb]at SP IH LV KS|-;go_in
 go_wp2_with fail
 refine sC SP.v ?_;rintro w1 hw;subst w1;go_wp2_with fail
 refine sC IH.v ?_;rintro w1 hw;subst w1;go_wp2_with fail
 refine sC LV.v ?_;rintro w1 hw;subst w1;go_upto_if 14 with fail
 go_cut [15]from 16 to 17 (λ_ wx=>∃k1,Hid (bO wx Wt {s with k:=k1}/\KF s w {s with k:=k1} wx/\(Kn.lv s.k n=bw->Kn.fP s.k n k1)/\(Kn.lv s.k n=bA->k1=s.k)))
 case first=>
  cases tl
  .go_wp2
   go_meet
   case rel=>exact⟨s.k,hJ ⟨H.1,KF.refl _ _,λc=>aZ (HT.1 c) bE,λ_=>rfl⟩⟩
  .go_wp2_with fail
   refine(KS.v (HT.2.2.1 (by first|rfl|trivial))).mono ?_;rintro e w2 ⟨k1,rfl,st,ka,kf⟩;have S2:Hid (bO w2 Wt {s with k:=k1}/\KF s w {s with k:=k1} w2/\(Kn.lv s.k n=bw->Kn.fP s.k n k1)/\(Kn.lv s.k n=bA->k1=s.k)):=hJ ⟨ka,kf,λ_=>st,λc=>aZ (HT.2.1 c) bE⟩;go_wp2
   go_meet
   case rel=>exact⟨k1,S2⟩
 obtain⟨k1,S1⟩:=hcut;go_upto_if 18 with fail
 go_cut [19]from 20 to 21 (λ_ wx=>∃k2,Hid (bO wx Wt {s with k:=k2}/\KF s w {s with k:=k2} wx/\(Kn.hd s.k n≠n->k2=k1)/\(Kn.hd s.k n=n->∃j,Kn.jJ (Kn.iK r) (z:Int) j k1 k2)))
 case first=>
  cases th
  .go_wp2
   go_meet
   case rel=>exact⟨k1,hJ ⟨S1.1,S1.2.1,λ_=>rfl,λc=>aZ c (HT.2.2.2.2 (by first|rfl|trivial))⟩⟩
  .have hd1:=HT.2.2.2.1 (by first|rfl|trivial);have HD:=hJ hd1;have DZ:Hid (1<=r/\5<=d z+r):=hJ (by
    have a:=(H.2.2.2.2 hd1).1;have b:=(H.2.1.iv.tree.le z z6 HV.2.2).2;omega)
   have EE:=hJ (H.2.1.ei hn n0 H.2.2.1 H.2.2.2.1 hd1 (H.2.2.2.2 hd1).2 S1.2.2.1 S1.2.2.2);have EM:=hJ (yV Wt N d r _ {s with k:=k1} wc n z (HV.1 DZ.1) DZ.1 DZ.2 S1.1 EE.v);rw[show({s with k:=k1}:St).A 0=kb from HK.v]at EM;go_wp2_with fail
   refine EM.mono ?_;rintro e w2 ⟨k2,j,rfl,it,ka,kf⟩;have S2:Hid (bO w2 Wt {s with k:=k2}/\KF s w {s with k:=k2} w2/\(Kn.hd s.k n≠n->k2=k1)/\(Kn.hd s.k n=n->∃j,Kn.jJ (Kn.iK r) (z:Int) j k1 k2)):=hJ ⟨ka,S1.2.1.trans kf,λc=>aZ HD.v c,λ_=>⟨j,it⟩⟩;go_wp2
   go_meet
   case rel=>exact⟨k2,S2⟩
 obtain⟨k2,S2⟩:=hcut;have MD:=hJ (H.2.1.Wd hn n0 H.2.2.1 H.2.2.2.1 (λc=>(H.2.2.2.2 c).2) S1.2.2.1 S1.2.2.2 S2.2.2.1 S2.2.2.2);have RES:Hid ((Kn.hd s.k n≠n->Kn.iK (r+1) s.k n (Kn.eH k2 n))/\(Kn.hd s.k n=n->Kn.iK (r+1) s.k n (Kn.mQ (Kn.eH k2 n) z))):=hJ ⟨λc=>⟨k1,S1.2.2.1,S1.2.2.2, .inl ⟨c,by rw[S2.2.2.1 c]⟩⟩,λc=>⟨k1,S1.2.2.1,S1.2.2.2, .inr ⟨c,k2,by
  rw[Sp.iB hn H.2.2.2.1];obtain⟨j,it⟩:=S2.2.2.2 c;exact⟨j,it,rfl⟩⟩⟩⟩
 have S3:Hid (bO wc Wt {s with k:=k2}/\KF s w {s with k:=k2} wc):=hJ ⟨S2.1,S2.2.1⟩;go_upto_region 5 with fail
 obtain⟨g2,hg2⟩:=hU (s.A 2);have HG:=hJ hg2;obtain⟨gz,hgz⟩:=hU ((k2.p n).cA);have HGZ:=hJ hgz;have KC:Hid (∀W k,bO W Wt {s with k:=k}->(k.p n).cA=gz->W.cell? ⟨kb,247,bu⟩=bj (ai (bj ⟨g2,0,bu⟩))/\W.cell? ⟨kb,n*12+2,bu⟩=bj (aa az gz)):=hJ (λW k hW e=>by
  have a:=hW.pA;have b:=hW.pP n hn;rw[show({s with k:=k}:St).A 0=kb from HK.v]at a b;rw[show({s with k:=k}:St).A 2=g2 from HG.v]at a;have b2:W.cell? ⟨kb,n*12+2,bu⟩=bj (aa az (k.p n).cA):=b;rw[e]at b2;exact⟨a,b2⟩)
 have K0:=hJ (KC.v wc k2 S3.1 hgz);have UC:=hJ (Gr.iR (s.A 2) (k2.p n).cA 1 0 k2.gr wc.drew S3.1.drew.gr (by obtain⟨Wy,g⟩:=MD.1.kj.gr;exact g.small (by have:=HV.2.1;omega)));rw[hg2,hgz]at UC;obtain⟨y1,y2⟩:=K0.v;go_region_held3 (λw'=>w'.cell? ⟨kb,247,bu⟩=bj (ai (bj ⟨g2,0,bu⟩))/\w'.cell? ⟨kb,n*12+2,bu⟩=bj (aa az gz)) (first|exact K0.v|exact K4.v) (
  (go_at_call 67;refine sC UC.v ?_;rintro w4 ⟨t4,f4⟩;have S4:Hid (bO w4 Wt {s with k:={k2 with gr:=Gr.dn k2.gr (k2.p n).cA 1 0}}/\KF s w {s with k:={k2 with gr:=Gr.dn k2.gr (k2.p n).cA 1 0}} w4):=hJ (by
    rw[<-HG.v]at t4 f4;rw[<-HGZ.v]at t4;have q:=S3.1.drew.ks t4 f4.sK;exact⟨q.1,S3.2.trans ((KF.drew _ _).trans q.2)⟩);have K4:=hJ (KC.v w4 _ S4.1 HGZ.v)))
 generalize Gr.bN (Gr.gm k2.gr gz 1 0)=ev;have c6:=S4.1.yL;rw[show({s with k:={k2 with gr:=Gr.dn k2.gr (k2.p n).cA 1 0}}:St).A 0=kb from HK.v]at c6;obtain⟨p1,hp1⟩:=hU (s.A 1);have HP:=hJ hp1;have LE:=hJ (Lp (s.A 1) (n:Int) k2.sp d w4 S4.1.sp MD.1.iv);rw[show({s with k:={k2 with gr:=Gr.dn k2.gr (k2.p n).cA 1 0}}:St).A 1=p1 from hp1]at c6;rw[hp1]at LE;go_wp2_with fail
 refine sC LE.v ?_;rintro w5 ⟨t5,f5⟩;generalize bN (Sp.mE k2.sp (n:Int))=ev2;have S5:Hid (bO w5 Wt {s with k:={k2 with gr:=Gr.dn k2.gr (k2.p n).cA 1 0,sp:=Sp.dQ k2.sp (n:Int)}}/\KF s w {s with k:={k2 with gr:=Gr.dn k2.gr (k2.p n).cA 1 0,sp:=Sp.dQ k2.sp (n:Int)}} w5):=hJ (by
  rw[<-HP.v]at t5 f5;have q:=S4.1.ze t5 f5;exact⟨q.1,S4.2.trans q.2⟩)
 have TH:Hid (w5.there kb (n*12) (dZ 0 0 Pr.no).size):=hJ (by rw[dM,<-HK.v];exact S5.1.there hn);have SZ:Hid ((prog.info? 74).map (·.size)=bj (dZ 0 0 Pr.no).size):=hJ (by rw[dM];kernel_rfl);have S6:Hid (bO (w5.setCells kb (n*12) (dZ 0 0 Pr.no).toList) Wt {s with k:=Kn.eH k2 n}/\KF s w {s with k:=Kn.eH k2 n} (w5.setCells kb (n*12) (dZ 0 0 Pr.no).toList)):=hJ (by
  have q:=S5.1.whole hn (x:=Pr.no) MD.2.1 rfl 0 0;rw[show({s with k:={k2 with gr:=Gr.dn k2.gr (k2.p n).cA 1 0,sp:=Sp.dQ k2.sp (n:Int)}}:St).A 0=kb from HK.v]at q;exact⟨q.1,S5.2.trans q.2⟩)
 obtain⟨PA,hPA⟩:=hU (dZ 0 0 Pr.no);have H1:Hid (PA.all (·.oneCell')=bw):=hJ (by rw[<-hPA];exact qj 0 0 Pr.no);rw[hPA]at TH SZ S6;cases th
 .have FIN:=hJ (RES.1 (HT.2.2.2.2 (by first|rfl|trivial)));go_wp2_with (first|(refine zL rfl rfl ?_;rw[hPA])|(refine wpList_store_mid rfl 74 _ _ rfl kb (n*12) PA rfl rfl TH.v SZ.v H1.v ?_))
  go_end0
  exact⟨_,rfl,FIN.v,S6.v⟩
 .have FIN:=hJ (RES.2 (HT.2.2.2.1 (by first|rfl|trivial)));go_upto_region 9 with(first|(refine zL rfl rfl ?_;rw[hPA])|(refine wpList_store_mid rfl 74 _ _ rfl kb (n*12) PA rfl rfl TH.v SZ.v H1.v ?_))
  generalize w5.setCells kb (n*12) PA.toList=w6 at*;have HH:Hid (k2.ht z=bw):=hJ (by
   obtain⟨_,_,b⟩:=MD.1.iv.dc hn MD.2.2;rw[MD.1.kj.ht z z6];exact b)
  have c6:=S6.1.yL;rw[show({s with k:=Kn.eH k2 n}:St).A 0=kb from HK.v,show({s with k:=Kn.eH k2 n}:St).A 1=p1 from HP.v]at c6;have DR:=hJ (NR (s.A 1) (z:Int) (Kn.eH k2 n).sp w6 S6.1.sp);rw[HP.v]at DR;go_wp2_with fail
  refine sC DR.v ?_;rintro w7 ⟨t7,f7⟩;generalize bN (Sp.jg (Kn.eH k2 n).sp (z:Int))=ev3;have S7:Hid (bO w7 Wt {s with k:={Kn.eH k2 n with sp:=Sp.gP (Kn.eH k2 n).sp (z:Int)}}/\KF s w {s with k:={Kn.eH k2 n with sp:=Sp.gP (Kn.eH k2 n).sp (z:Int)}} w7):=hJ (by
   rw[<-HP.v]at t7 f7;have q:=S6.1.ze t7 f7;exact⟨q.1,S6.2.trans q.2⟩)
  have ct:=S7.1.Ns z z6 HH.v;rw[show({s with k:={Kn.eH k2 n with sp:=Sp.gP (Kn.eH k2 n).sp (z:Int)}}:St).A 0=kb from HK.v]at ct;obtain⟨tbk,htbk⟩:=hU (s.A (49+z));have HTB:=hJ htbk;rw[show({s with k:={Kn.eH k2 n with sp:=Sp.gP (Kn.eH k2 n).sp (z:Int)}}:St).A (49+z)=tbk from htbk]at ct;have CL:=hJ (Kb Wt (s.A (49+z)) (s.A 6) 102 (k2.tb z) (s.V z) k2.fo w7 (S7.1.tb z z6 HH.v) S7.1.fo MD.1.kj.hb bE);rw[htbk]at CL;go_wp2_with fail
  refine sC CL.v ?_;rintro w8 ⟨u8,f8⟩;have S8:Hid (bO (w8.setCell ⟨kb,240+z,bu⟩ (ai bu)) Wt {s with k:=Kn.mQ (Kn.eH k2 n) z}/\KF s w {s with k:=Kn.mQ (Kn.eH k2 n) z} (w8.setCell ⟨kb,240+z,bu⟩ (ai bu))):=hJ (by
   rw[<-HTB.v]at f8;have q:=S7.1.U7 z6 HH.v u8 f8;rw[show({s with k:={Kn.eH k2 n with sp:=Sp.gP (Kn.eH k2 n).sp (z:Int)}}:St).A 0=kb from HK.v]at q;exact⟨q.1,S7.2.trans q.2⟩)
  have hb8:w8.heap[kb]? =w7.heap[kb]? :=by
   refine f8.block kb ?_ ?_
   .rw[<-HK.v];exact S7.1.lt cv
   .rintro(c|c)
    .rw[<-HK.v,<-HTB.v]at c;exact S7.1.ne cv (Kn.kE z6 HH.v) bB c
    .rw[<-HK.v]at c;exact S7.1.ne cv cv bB c
  have ct8:w8.cell? ⟨kb,240+z,bu⟩=bj (ai (bj ⟨tbk,0,bu⟩)):=by
   rw[<-ct];exact aV hb8
  have fz:∀o,(w8).frozen? ⟨kb,o,bu⟩=bA:=λo=>by
   have q:=S7.1.frozen o;rw[show({s with k:={Kn.eH k2 n with sp:=Sp.gP (Kn.eH k2 n).sp (z:Int)}}:St).A 0=kb from HK.v]at q;rw[<-q];exact World.frozen?_of_block hb8
  go_wp2_with fail
  go_end0
  exact⟨_,rfl,FIN.v,S8.v⟩
theorem qI(Wt N:Nat)(d:Nat->Nat)(hN:N<=900):∀r,Ic Wt N d r
 |0=>λ_ _ _ _ _ _ _ _ _ _ _ _ h=>aZ h bB
 |r+1=>DC Wt N d r hN (λ_=>qI Wt N d hN r)
theorem FN(Wt N:Nat)(d:Nat->Nat)(hN:N<=900)(X:Nat->Prop)(s:St)(w:bD)(n z:Nat)(h:bO w Wt s)(hv:VI X N d s.k)(hn:n<20)(n0:n≠0)(hX:¬X n)(ho:s.k.sp.of n=z+1)(hx:Kn.hd s.k n=n->∀m,m<20->X m->¬Sp.mem s.k.sp z m):
  Calls prog 73 #[ai (bj ⟨s.A 0,0,bu⟩),aa az n] w λe w'=>∃k',e=bf (ao #[])/\Kn.iK 6 s.k n k'/\bO w' Wt {s with k:=k'}/\KF s w {s with k:=k'} w':=
 qI Wt N d hN 6 X s w n z h hv hn n0 hX ho (λc=>⟨by omega,hx c⟩) bB
theorem Kn.xF(t:Sp.T)(z:Int):(eQ t z).length<=21:=by
 unfold eQ;split
 .unfold Sp.fY;rw[List.length_map];exact aH (bW _ _) (by simp)
 .simp
def Kn.jo(k:Kp)(n:Int)(L:List Nat):List Nat:=L.filter (λm=>decide ((k.p m).par=n))
theorem Kn.QZ{k:Kp}{n:Int}(h:L[i]? =bj m)(e:(k.p m).par=n):Kn.jo k n (L.take (i+1))=Kn.jo k n (L.take i)++[m]:=by
 unfold Kn.jo;rw[List.take_add_one,List.filter_append,h];simp[e]
theorem Kn.Tn{k:Kp}{n:Int}(h:L[i]? =bj m)(e:(k.p m).par≠n):Kn.jo k n (L.take (i+1))=Kn.jo k n (L.take i):=by
 unfold Kn.jo;rw[List.take_add_one,List.filter_append,h];simp[e]
theorem Kn.Aa(k:Kp)(n:Int)(L:List Nat):(Kn.jo k n L).length<=L.length:=bW _ _
def Kn.iU(k:Kp)(n:Nat):List Nat:=Kn.jo k (n:Int) (eQ k.sp ((Sp.dX k.sp (n:Int):Nat):Int))
section
variable (Wt:Nat)(s:St)(w:bD)
theorem tU(n:Nat)(h:bO w Wt s)(hM:∀x∈eQ s.k.sp ((Sp.dX s.k.sp (n:Int):Nat):Int),x<20):
  Calls prog 72 #[ai (bj ⟨s.A 0,0,bu⟩),aa az n] w λe w'=>∃v w0,e=bf v/\Below w.heap.size w w0/\LO w0 (Kn.iU s.k n) v w':=by
 obtain⟨i0,hi,hz0,hz1,hz2⟩:=info_parts Cq;have SP:=hJ (iJ Wt s w (n:Int) h);have MM:=hJ (qH Wt s w ((Sp.dX s.k.sp (n:Int):Nat):Int) h);have HL:Hid ((eQ s.k.sp ((Sp.dX s.k.sp (n:Int):Nat):Int)).length<=21):=hJ (Kn.xF _ _);unfold Kn.iU;generalize Sp.dX s.k.sp (n:Int)=z at*;generalize eQ s.k.sp (z:Int)=L at*;have H:=hJ (aK h hM);obtain⟨kb,hkb⟩:=hU (s.A 0);have HK:=hJ hkb;rw[hkb]at SP MM|-;go_in
 go_wp2_with fail
 refine SP.mono ?_;rintro e w1 ⟨rfl,hw⟩;subst w1;go_wp2_with fail
 refine MM.mono ?_;rintro e w1 ⟨v1,rfl,hL⟩;obtain⟨a1,c1,hv1⟩:=ib hL.own;obtain⟨NN,hNN⟩:=hU (L.length);have HN:=hJ hNN;have hN21:NN<=21:=by rw[<-hNN];exact HL.v
 have LL:=hJ hL;have KW:=hJ (H.1.below hL.cU);rw[hNN]at hv1;have HV1:=hJ hv1;rw[hv1];go_wp2_with fail
 go_loopw [5,7,14] (λl _ i wr=>∃(k:Nat),i=aa az k/\k<=NN/\Hid (LO w1 (Kn.jo s.k (n:Int) (L.take k)) l wr)) (λ_ _ i _=>NN-(intOf i).toNat)
 case atStart=>exact⟨0,rfl,bB,LO.nil w1⟩
 case round=>
  obtain⟨k,rfl,hk,R⟩:=hrel;by_cases hlt:k<NN
  .have hltI:(k:Int)<NN:=bB
   have hkL:k<L.length:=by rw[HN.v];exact hlt
   obtain⟨m,hm⟩:∃m,L[k]? =bj m:=⟨_,aW hkL⟩;have m20:m<20:=H.2 m (bK hm);have m20I:(m:Int)<20:=bB
   obtain⟨gg,cap,hv,hg,hc⟩:=LL.cells bB;rw[HV1.v]at hv;cases hv;have cm:wr.cell? ⟨gg,k,bu⟩=bj (aa az (m:Int)):=by
    have q:=hc k hkL;rw[show 0+k=k by omega]at q;rw[R.cU.cell (p:=⟨gg,k,bu⟩) hg,q];simp[aF,hm]
   have cp:=(KW.below R.cU).uz m m20;rw[HK.v]at cp;by_cases d:(s.k.p m).par=(n:Int)
   .have HM:=hJ (Kn.QZ hm d);rw[d]at cp;obtain⟨a,cap,hv⟩:=ib R.own;rw[hv];have HV:=hJ hv;have hlm:=Kn.Aa s.k (n:Int) (L.take k);rw[List.length_take,Nat.min_eq_left bB]at hlm;generalize hN:(Kn.jo s.k (n:Int) (L.take k)).length=N at*;have HNN:=hJ hN;go_wp2_with (at_builtin;refine wpList_append_lies _ rfl _ _ 46 (by rfl) w1.heap.size 3 i0 (aa .i64 0) 1 8 Tryz.underlying46 hi hz0 hz1 hz2 rfl bE (aj a N cap) N (rowOf (Kn.jo s.k (n:Int) (L.take k))) (by rfl) (by rw[<-HV.v,<-HNN.v];exact R.own.alloc _) ⟨wr.heap.size,0,bu⟩ 1 1 [aa az m] (by rfl) rfl (cell_one_new _ _ _) (by simp[Value.oneCell']) bE (by unfold maxLen;omega) bB (by have:=R.cU.size;simp;omega) (wr.heap.size+1) (by simp) ?_;intro gg2 cap2 w2 hown hgrow hat hlt2;have Q1:Hid (LO w1 (Kn.jo s.k (n:Int) (L.take k)++[m]) (aj (bj ⟨gg2,0,bu⟩) (N+1) cap2) w2):=R.more HNN.v hown _ (by rw[HV.v];exact hgrow))
    go_roundw
    case rel=>exact⟨k+1,by go_num,bB,by rw[HM.v];exact Q1⟩
    case measure=>simp[intOf];omega
   .have HM:=hJ (Kn.Tn hm d);generalize (s.k.p m).par=pp at*;have d1:((pp:Int)==(n:Int))=bA:=by simpa using d
    go_wp2
    go_roundw
    case rel=>exact⟨k+1,by go_num,bB,by rw[HM.v];exact R⟩
    case measure=>simp[intOf];omega
  .obtain rfl:k=NN:=bB
   go_wp2
   go_ret
   exact⟨_,_,rfl,LL.cU,by have q:=R.v;rw[<-HN.v,List.take_length]at q;exact q⟩
end
theorem Sg.Dy{X:Nat->S1}(h:Sg.ft X 0 0):Sg.ft (Sg.mO X 3) 0 0:=by
 rcases h with⟨_,h⟩|⟨h,_⟩
 .refine .inl ⟨rfl,λj h1 h2=>?_⟩;unfold Sg.mO;rw[aJ (by rfl)];by_cases c:j=3
  .subst c;unfold Sg.ok Sg.put;simp[Sg.pV];intro _ c _;exact c
  .have:=h j h1 h2;unfold Sg.ok Sg.put at*;simpa[c]using this
 .omega
section
variable (Wt:Nat)(s:St)(w:bD)
theorem IT(n:Nat)(h:bO w Wt s)(hn:n<20)(hh:(s.k.p n).has=bw)(hf:Sg.ft (s.k.p n).box 0 0):
  Calls prog 99 #[ai (bj ⟨s.A 0,0,bu⟩),aa az n] w λe w'=>e=bf (ao #[])/\Below w.heap.size w w':=by
 have hnI:(n:Int)<20:=bB
 have c5:=h.sX n hn hh;have EN:=hJ (Dj (s.A (29+n)) (s.k.p n).box w (h.bx n hn hh));have HF:=hJ hf;generalize s.A 0=kb at*;generalize s.A (29+n)=bb at*;go_in
 go_wp2_with fail
 refine EN.mono ?_;rintro e w1 ⟨m,rfl,hm,hb⟩;obtain rfl:m=0:=hm.unique HF.v;have HB:=hJ hb;rw[show Sg.nZ 0=bA from rfl];go_wp2_with fail
 go_end0
 exact⟨rfl,HB.v⟩
theorem Fw(n:Nat)(h:bO w Wt s)(hn:n<20)(hh:(s.k.p n).has=bw)(hf:Kn.hd s.k n≠n->Sg.ft (s.k.p n).box 0 0):
  Calls prog 101 #[ai (bj ⟨s.A 0,0,bu⟩),aa az n] w λe w'=>e=bf (ao #[])/\Below w.heap.size w w':=by
 obtain⟨th,hth⟩:=hU (decide (Kn.hd s.k n=n));have IH:=hJ (mU Wt s w n h th hth);cases th
 .have LK:=hJ (IT Wt s w n h hn hh (hf (of_decide_eq_false hth)));generalize s.A 0=kb at*;go_in
  go_wp2_with fail
  refine sC IH.v ?_;rintro w1 hw;subst w1;go_wp2_with fail
  refine sC LK.v ?_;rintro w1 hb;have HB:=hJ hb;go_wp2_with fail
  go_end0
  exact⟨rfl,HB.v⟩
 .clear h hh hf hth;generalize s.A 0=kb at*;go_in
  go_wp2_with fail
  refine sC IH.v ?_;rintro w1 hw;subst w1;go_wp2_with fail
  go_end0
  exact⟨rfl,aQ _ _⟩
def Kn.iO(k:Kp)(n:Nat)(z:Int):Kp:=k.put n {k.p n with box:=Sg.mO (k.p n).box z}
theorem Ld(n:Nat)(h:bO w Wt s)(hn:n<20)(hh:(s.k.p n).has=bw)(hf:Kn.hd s.k n≠n->Sg.ft (s.k.p n).box 0 0):
  Calls prog 151 #[ai (bj ⟨s.A 0,0,bu⟩),aa az n,aa az 3] w λe w'=>e=bf (ao #[])/\bO w' Wt {s with k:=Kn.iO s.k n 3}/\KF s w {s with k:=Kn.iO s.k n 3} w':=by
 have hnI:(n:Int)<20:=bB
 have c5:=h.sX n hn hh;have SE:=hJ (xM (s.A (29+n)) 3 (s.k.p n).box w (h.bx n hn hh));have H:=hJ (aK h (aK hh hf));obtain⟨kb,hkb⟩:=hU (s.A 0);have HK:=hJ hkb;obtain⟨bb,hbb⟩:=hU (s.A (29+n));have HB:=hJ hbb;rw[hkb]at c5|-;rw[hbb]at c5 SE;go_in
 go_wp2_with fail
 refine sC SE.v ?_;rintro w1 ⟨u1,f1⟩;generalize bN (Sg.cN 3)=ev;have S1:Hid (bO w1 Wt {s with k:=Kn.iO s.k n 3}/\KF s w {s with k:=Kn.iO s.k n 3} w1):=hJ (by
  rw[<-HB.v]at u1 f1;exact H.1.wm hn H.2.1 u1 f1)
 have LK:=hJ (Fw Wt {s with k:=Kn.iO s.k n 3} w1 n S1.1 hn (by show((Kn.iO s.k n 3).p n).has=bw;unfold Kn.iO;rw[Kn.bM];exact H.2.1) (λc=>by
  show Sg.ft ((Kn.iO s.k n 3).p n).box 0 0;unfold Kn.iO;rw[Kn.bM];exact Sg.Dy (H.2.2 c)))
 rw[show({s with k:=Kn.iO s.k n 3}:St).A 0=kb from HK.v]at LK;go_wp2_with fail
 refine sC LK.v ?_;rintro w2 hb;have S2:Hid (bO w2 Wt {s with k:=Kn.iO s.k n 3}/\KF s w {s with k:=Kn.iO s.k n 3} w2):=hJ ⟨S1.1.below hb,S1.2.trans (KF.below hb)⟩;go_wp2_with fail
 go_end0
 exact⟨rfl,S2.v⟩
end
namespace Kn
def eA(k:Kp)(n:Nat)(c:Int):Kp:=k.put n {k.p n with st:=2,code:=c}
theorem Kt(k:Kp)(n:Nat)(c:Int):(k.put n {k.p n with st:=2}).put n {(k.put n {k.p n with st:=2}).p n with code:=c}=eA k n c:=by
 rw[bM];unfold eA Kp.put;congr 1;funext m;by_cases e:m=n
 .rw[aJ e,aJ e]
 .rw[aI e,aI e];exact aI e
def gG(k:Kp)(L:List Nat)(h:Int):Kp:={k with p:=λm=>{k.p m with par:=if m∈L then h else(k.p m).par}}
theorem QH(k:Kp)(h:Int):gG k [] h=k:=by
 unfold gG;simp only[List.not_mem_nil,if_false]
theorem Nj(k:Kp)(L:List Nat)(h:Int)(c:Nat):(gG k L h).put c {(gG k L h).p c with par:=h}=gG k (L++[c]) h:=by
 unfold gG Kp.put;congr 1;funext m;by_cases e:m=c
 .subst e;rw[aJ rfl];have:m∈L++[m]:=by simp
  rw[aJ this]
 .rw[aI e];have:(m∈L++[c])↔m∈L:=by simp[e]
  have p:(if m∈L then h else(k.p m).par)=(if m∈L++[c]then h else(k.p m).par):=by
   by_cases q:m∈L
   .rw[aJ q,aJ (this.2 q)]
   .rw[aI q,aI (λx=>q (this.1 x))]
  exact congrArg (λv=>({k.p m with par:=v}:Pr)) p
section
variable {X:Nat->Prop}{N:Nat}{d:Nat->Nat}{k k1 k2 k3:Kp}{n z:Nat}
theorem KJ.gone(h:KJ X N k)(hX:X n)(hn:n<20)(s0:(k.p n).st≠0)(hh:(k.p n).has=bA)(c:Int):KJ X N (eA k n c):=by
 have e:∀m,m≠n->(eA k n c).p m=k.p m:=λm q=>bP _ _ _ _ q;have e2:(eA k n c).p n={k.p n with st:=2,code:=c}:=bM _ _ _;refine⟨h.sp,h.gr,?_,h.wx,h.rf,h.ok,h.tb,λm hm=>?_,λm hm q=>?_,λm hm x=>?_,λm hm=>?_,h.ht,λm hm=>?_⟩
 .rw[show(λm=>((eA k n c).p m).mem)=λm=>(k.p m).mem from funext λm=>by
   by_cases q:m=n
   .subst q;rw[e2]
   .rw[e m q]]
  exact h.me
 .by_cases q:m=n
  .subst q;rw[e2];exact aL 2
  .rw[e m q];exact h.st m hm
 .by_cases r:m=n
  .subst r;rw[e2]at q;have q2:(k.p m).has=bw:=q;rw[hh]at q2;cases q2
  .rw[e m r]at q|-;exact h.hs m hm q
 .by_cases q:m=n
  .subst q;exact aZ hX x
  .rw[e m q];exact h.lv m hm x
 .by_cases q:m=n
  .subst q;rw[e2];exact⟨λ_=>Nat.succ_ne_zero 1,λ_=>(h.of m hm).2 s0⟩
  .rw[e m q];exact h.of m hm
 .by_cases q:m=n
  .subst q;rw[e2];exact h.nm m hm
  .rw[e m q];exact h.nm m hm
theorem KJ.ad(h:KJ X N k)(L:List Nat)(v:Int):KJ X N (gG k L v):=⟨h.sp,h.gr,h.me,h.wx,h.rf,h.ok,h.tb,h.st,h.hs,h.lv,h.of,h.ht,h.nm⟩
theorem VI.gone(h:VI X N d k)(hX:X n)(hn:n<20)(s0:(k.p n).st≠0)(hh:(k.p n).has=bA)(c:Int):VI X N d (eA k n c):=⟨h.kj.gone hX hn s0 hh c,h.iv,h.hs⟩
theorem EI.gone(h:EI X N d n z k)(s0:(k.p n).st≠0)(hh:(k.p n).has=bA)(c:Int):EI X N d n z (eA k n c):=⟨h.vi.gone h.xn h.hn s0 hh c,h.hn,h.n0,h.xn,h.ho,h.hw,h.hx⟩
theorem Gz.head(g:Gz k k1 z)(h:VI X N d k)(h1:VI X N d k1)(hq:q<20)(o:k1.sp.of q≠0)(c:hd k1 q≠q):hd k q≠q:=by
 intro e;obtain⟨y,hy⟩:∃y,k1.sp.of q=y+1:=⟨k1.sp.of q-1,bB⟩;have hk:k.sp.of q=y+1:=by
  rcases g.kp q hq with⟨_,b⟩|⟨_,b,_⟩
  .rw[<-b];exact hy
  .exact aZ b o
 have y6:=(h.iv.dc hq hk).2.1;have w:=(iG h.iv h.hs hq hk).1 e;exact c ((iG h1.iv h1.hs hq hy).2 (g.wk y 1 q y6 bB hq w o))
def yu(r:Nat)(k2:Kp)(n z:Nat)(k3:Kp):Prop:=(hd k2 n≠n/\k3=k2)\/(hd k2 n=n/\∃j,jJ (iK r) (z:Int) j k2 k3)
structure Mid (N:Nat)(d:Nat->Nat)(n z:Nat)(k k3:Kp)(c:Int):Prop where
 vi:VI (λm=>False\/m=n) N d k3
 ho:k3.sp.of n=z+1
 pn:(k3.p n).st=2/\(k3.p n).has=bA/\(k3.p n).par=(k.p n).par/\(k3.p n).code=c
 ot:∀q,q<20->q≠n->(k3.p q=k.p q/\(k3.sp.of q≠0->hd k3 q≠q->hd k q≠q))\/k3.p q=Pr.no
theorem VI.Ag(h:VI (λ_=>False) N d k)(hn:n<20)(n0:n≠0)(l:lv k n=bw)(ho:k.sp.of n=z+1){k1 k3:Kp}{c:Int}(s1:fP k n k1)(m:yu r (eA k1 n c) n z k3):Mid N d n z k k3 c:=by
 obtain⟨a,sp,tb,hh,s0,fW⟩:=h.first hn (λx=>x) ho (λ_=>s1) (λx=>by rw[l]at x;cases x);have pa:=(s1.p n).2.1;have e2:(eA k1 n c).p n={k1.p n with st:=2,code:=c}:=bM _ _ _;have v2:=a.gone (.inr rfl) hn s0 hh c;have o2:(eA k1 n c).sp.of n=z+1:=by show k1.sp.of n=z+1;rw[sp];exact ho
 have pn2:((eA k1 n c).p n).st=2/\((eA k1 n c).p n).has=bA/\((eA k1 n c).p n).par=(k.p n).par/\((eA k1 n c).p n).code=c:=by
  rw[e2];exact⟨rfl,hh,pa,rfl⟩
 have oth2:∀q,q≠n->(eA k1 n c).p q=k.p q:=λq e=>(bP _ _ _ _ e).trans (fW q e);have hd2:∀q,hd (eA k1 n c) q=hd k q:=λq=>by
  show hd k1 q=hd k q;unfold hd;rw[sp]
 rcases m with⟨_,rfl⟩|⟨ih,j,it⟩
 .exact⟨v2,o2,pn2,λq _ qn=> .inl ⟨oth2 q qn,λ_ e=>by rw[<-hd2 q];exact e⟩⟩
 .have ei:EI (λm=>False\/m=n) N d n z k1:=h.ei hn n0 (λx=>x) ho (by rw[<-hd2 n];exact ih) (λ_ _ x=>aZ x (λx=>x)) (λ_=>s1) (λx=>by rw[l]at x;cases x);obtain⟨b,g,e,_⟩:=EI.iter (kU r) j _ (ei.gone s0 hh c) it;refine⟨b.vi,b.ho,by rw[e];exact pn2,λq ic qn=>?_⟩;rcases g.kp q ic with⟨x,y⟩|⟨x,_,_⟩
  .exact .inl ⟨x.trans (oth2 q qn),λo c1=>by rw[<-hd2 q];exact g.head v2 b.vi ic o c1⟩
  .exact .inr x
end
end Kn
namespace Kn
def mL(k:Kp)(q:Nat):Kp:=if lv k q=bw then iO k q 3 else k
def lX(k:Kp)(n:Nat)(c:Int)(z q:Nat)(k':Kp):Prop:=∃k1 k3,fP k n k1/\yu 6 (eA k1 n c) n z k3/\k'=mL (gG k3 (iU k3 n) (Sp.fc k3.sp (z:Int) 1:Nat)) q
theorem VI.OV{k:Kp}(h:VI X N d k)(hn:n<20)(ho:k.sp.of n=z+1):∀x∈eQ k.sp ((Sp.dX k.sp (n:Int):Nat):Int),x<20:=by
 intro x hx;obtain⟨_,z6,zh⟩:=h.iv.dc hn ho;rw[Sp.iB hn ho]at hx;unfold eQ at hx;rw[Sp.jP z6 zh,aJ rfl,hZ]at hx;obtain⟨i,hi⟩:=List.getElem?_of_mem hx;exact(Sp.vZ hi (λp hp=>h.iv.rM z p z6 hp)).1
theorem Mid.par{N:Nat}{d:Nat->Nat}{n z q:Nat}{k k3:Kp}{c:Int}(m:Mid N d n z k k3 c)(hp:(k.p n).par=(q:Int))(qn:q≠n)(L:List Nat)(h:Int)(hL:∀x∈L,(k3.p x).par=(n:Int)):((gG k3 L h).p n).par=(q:Int):=by
 show(if n∈L then h else(k3.p n).par)=(q:Int);have e:=m.pn.2.2.1;rw[aI (λc=>by have:=hL n c;rw[e,hp]at this;omega),e,hp]
theorem vW{k:Kp}:∀x∈iU k n,(k.p x).par=(n:Int):=λx hx=>by
 unfold iU jo at hx;have:=(bX.1 hx).2;simpa using this
theorem J7{k:Kp}(h:VI X N d k)(hn:n<20)(ho:k.sp.of n=z+1):∀x∈iU k n,x<20:=λx hx=>by
 unfold iU jo at hx;exact h.OV hn ho x (bX.1 hx).1
theorem Mid.told{k k3:Kp}{c:Int}(m:Mid N d n z k k3 c)(qn:q≠n)(ic:q<20)(L:List Nat)(h:Int)(hl:lv (gG k3 L h) q=bw)(hF:∀m,m<20->m≠n->lv k m=bw->hd k m≠m->Sg.ft (k.p m).box 0 0):
  ((gG k3 L h).p q).has=bw/\(hd (gG k3 L h) q≠q->Sg.ft ((gG k3 L h).p q).box 0 0):=by
 have l3:(k3.p q).st=1:=by
  have:decide ((k3.p q).st=1)=bw:=hl;simpa using this
 refine⟨m.vi.kj.lv q ic (λx=>x.elim id (λy=>qn y)) l3,λe=>?_⟩;show Sg.ft (k3.p q).box 0 0;have o:=(m.vi.kj.of q ic).2 bB;rcases m.ot q ic qn with⟨a,b⟩|a
 .rw[a];rw[a]at l3;exact hF q ic qn (by unfold lv;simpa using l3) (b o e)
 .rw[a]at l3;cases l3
end Kn
theorem xC(Wt N:Nat)(d:Nat->Nat)(hN:N<=900)(s:St)(w:bD)(n z q:Nat)(c:Int)(h:bO w Wt s)(hv:VI (λ_=>False) N d s.k)(hn:n<20)(n0:n≠0)(l:Kn.lv s.k n=bw)(ho:s.k.sp.of n=z+1)(ic:q<20)(qn:q≠n)(hp:(s.k.p n).par=(q:Int))(hF:∀m,m<20->m≠n->Kn.lv s.k m=bw->Kn.hd s.k m≠m->Sg.ft (s.k.p m).box 0 0):
  Calls prog 71 #[ai (bj ⟨s.A 0,0,bu⟩),aa az n,aa az c] w λe w'=>∃k',e=bf (ao #[])/\Kn.lX s.k n c z q k'/\bO w' Wt {s with k:=k'}/\KF s w {s with k:=k'} w':=by
 have hnI:(n:Int)<20:=bB
 have q20I:(q:Int)<20:=bB
 have KS:=hJ (yY Wt s w (λ_=>False) N n h hv.kj hN hn (hv.kj.lv n hn (λx=>x) (by unfold Kn.lv at l;simpa using l)));obtain⟨kb,hkb⟩:=hU (s.A 0);have HK:=hJ hkb;have H:=hJ (aK h (aK hv (aK l (aK ho (aK hp (aK hF hN))))));rw[hkb]at KS|-;clear h hv l ho hp hF hN;go_in
 go_wp2_with fail
 refine KS.mono ?_;rintro e w1 ⟨k1,rfl,st,ka,kf⟩;have S1:Hid (Kn.fP s.k n k1/\bO w1 Wt {s with k:=k1}/\KF s w {s with k:=k1} w1):=hJ ⟨st,ka,kf⟩;clear st ka kf KS;have c0:=S1.2.1.uA n hn;have c3:=S1.2.1.PS n hn;have fz:=S1.2.1.frozen;rw[show({s with k:=k1}:St).A 0=kb from HK.v]at c0 c3 fz;have S2:Hid (bO ((w1.setCell ⟨kb,n*12,bu⟩ (aa .i64 2)).setCell ⟨kb,n*12+3,bu⟩ (aa az c)) Wt {s with k:=Kn.eA k1 n c}/\KF s w {s with k:=Kn.eA k1 n c} ((w1.setCell ⟨kb,n*12,bu⟩ (aa .i64 2)).setCell ⟨kb,n*12+3,bu⟩ (aa az c))):=hJ (by
  have q1:=S1.2.1.U5 hn 2;have q2:=q1.1.Sn hn c;rw[show({s with k:=k1}:St).A 0=kb from HK.v]at q1;have e2:=Kn.Kt k1 n c;have q3:bO ((w1.setCell ⟨s.A 0,n*12,bu⟩ (aa .i64 2)).setCell ⟨s.A 0,n*12+3,bu⟩ (aa az c)) Wt {s with k:=(k1.put n {k1.p n with st:=2}).put n {(k1.put n {k1.p n with st:=2}).p n with code:=c}}/\KF {s with k:=k1.put n {k1.p n with st:=2}} (w1.setCell ⟨s.A 0,n*12,bu⟩ (aa .i64 2)) {s with k:=(k1.put n {k1.p n with st:=2}).put n {(k1.put n {k1.p n with st:=2}).p n with code:=c}} ((w1.setCell ⟨s.A 0,n*12,bu⟩ (aa .i64 2)).setCell ⟨s.A 0,n*12+3,bu⟩ (aa az c)):=q2;rw[e2,HK.v]at q3;exact⟨q3.1,(S1.2.2.trans q1.2).trans q3.2⟩)
 generalize (({s with k:=k1}:St).k.p n).st=v0 at c0;generalize (({s with k:=k1}:St).k.p n).code=v3 at c3;obtain⟨th,hth⟩:=hU (decide (Kn.hd (Kn.eA k1 n c) n=n));have IH:=hJ (mU Wt {s with k:=Kn.eA k1 n c} _ n S2.1 th hth);rw[show({s with k:=Kn.eA k1 n c}:St).A 0=kb from HK.v]at IH;have HT:Hid ((th=bw->Kn.hd (Kn.eA k1 n c) n=n)/\(th=bA->Kn.hd (Kn.eA k1 n c) n≠n)):=hJ ⟨λc=>by rw[<-hth]at c;exact of_decide_eq_true c,λc=>by rw[<-hth]at c;exact of_decide_eq_false c⟩;clear hth;go_wp2_with fail
 refine sC IH.v ?_;rintro w2 hw;rw[<-hw]at S2;clear hw IH c0 c3 fz;go_upto_if 27 with fail
 go_cut [28]from 29 to 30 (λ_ wx=>∃k3,Hid (bO wx Wt {s with k:=k3}/\KF s w {s with k:=k3} wx/\Kn.yu 6 (Kn.eA k1 n c) n z k3))
 case first=>
  cases th
  .go_wp2
   go_meet
   case rel=>exact⟨_,hJ ⟨S2.1,S2.2, .inl ⟨HT.2 (by first|rfl|trivial),rfl⟩⟩⟩
  .have HD:=hJ (HT.1 (by first|rfl|trivial));have EE:Hid (EI (λm=>False\/m=n) N d n z (Kn.eA k1 n c)):=hJ (by
    obtain⟨a,sp,tb,hh,s0,fW⟩:=H.2.1.first hn (λx=>x) H.2.2.2.1 (λ_=>S1.1) (λx=>by rw[H.2.2.1]at x;cases x);refine EI.gone (H.2.1.ei hn n0 (λx=>x) H.2.2.2.1 ?_ (λ_ _ x=>aZ x (λx=>x)) (λ_=>S1.1) (λx=>by rw[H.2.2.1]at x;cases x)) s0 hh c;have q:=HD.v;have q2:Kn.hd k1 n=n:=q;unfold Kn.hd at q2|-;rw[<-sp];exact q2)
   have EM:=hJ (yV Wt N d 6 _ {s with k:=Kn.eA k1 n c} w2 n z (qI Wt N d H.2.2.2.2.2.2 6) bB bB S2.1 EE.v);rw[show({s with k:=Kn.eA k1 n c}:St).A 0=kb from HK.v]at EM;go_wp2_with fail
   refine EM.mono ?_;rintro e w3 ⟨k3,j,rfl,it,ka,kf⟩;have S3:Hid (bO w3 Wt {s with k:=k3}/\KF s w {s with k:=k3} w3/\Kn.yu 6 (Kn.eA k1 n c) n z k3):=hJ ⟨ka,S2.2.trans kf, .inr ⟨HD.v,j,it⟩⟩;clear it ka kf;go_wp2
   go_meet
   case rel=>exact⟨k3,S3⟩
 obtain⟨k3,S3⟩:=hcut;have MD:=hJ (H.2.1.Ag hn n0 H.2.2.1 H.2.2.2.1 S1.1 S3.2.2);have SP:=hJ (iJ Wt {s with k:=k3} wc (n:Int) S3.1);rw[show Sp.dX ({s with k:=k3}:St).k.sp (n:Int)=z from Sp.iB hn MD.ho,show({s with k:=k3}:St).A 0=kb from HK.v]at SP;have HD:=hJ (Bq Wt {s with k:=k3} wc (z:Int) S3.1);rw[show({s with k:=k3}:St).A 0=kb from HK.v]at HD;obtain⟨hd0,hhd⟩:=hU (Sp.fc ({s with k:=k3}:St).k.sp (z:Int) 1);rw[hhd]at HD;have HHD:=hJ hhd;have CH:=hJ (tU Wt {s with k:=k3} wc n S3.1 (MD.vi.OV hn MD.ho));rw[show({s with k:=k3}:St).A 0=kb from HK.v]at CH;clear hhd S2;go_wp2_with fail
 refine sC SP.v ?_;rintro w4 hw;subst w4;go_wp2_with fail
 refine sC HD.v ?_;rintro w4 hw;subst w4;go_wp2_with fail
 refine CH.mono ?_;rintro e w4 ⟨v4,u4,rfl,hb4,hL⟩;clear SP HD CH;obtain⟨LC,hLC⟩:=hU (Kn.iU ({s with k:=k3}:St).k n);rw[hLC]at hL;have HLC:Hid (Kn.iU k3 n=LC):=hJ hLC;have LP:Hid ((∀x∈LC,x<20)/\∀x∈LC,(k3.p x).par=(n:Int)):=hJ (by rw[<-HLC.v];exact⟨Kn.J7 MD.vi hn MD.ho,Kn.vW⟩);obtain⟨a1,cp1,hv1⟩:=ib hL.own;obtain⟨NN,hNN⟩:=hU (LC.length);have HN:=hJ hNN;have NL:NN<=21:=by
  rw[<-hNN,<-HLC.v];exact aH (Kn.Aa _ _ _) (Kn.xF _ _)
 have BB:Hid (Below wc.heap.size wc w4):=hJ (hb4.trans (hL.cU.mono hb4.size));have S4:Hid (bO w4 Wt {s with k:=Kn.gG k3 (LC.take 0) (hd0:Int)}/\KF s w {s with k:=Kn.gG k3 (LC.take 0) (hd0:Int)} w4/\∀b,b≠kb->w4.heap[b]? =w4.heap[b]?):=hJ (by
  rw[List.take_zero,Kn.QH];exact⟨S3.1.below BB.v,S3.2.1.trans (KF.below BB.v),λ_ _=>rfl⟩)
 have LL:Hid (∀i,i<LC.length->∃gg cap,v4=aj (bj ⟨gg,0,bu⟩) LC.length cap/\gg≠kb/\w4.cell? ⟨gg,i,bu⟩=bj (aa az ((LC.getD i 0:Nat):Int))):=hJ (λi hi=>by
  obtain⟨gg,cap,hv,hg,hc⟩:=hL.cells bB;refine⟨gg,cap,hv,λe=>?_,?_⟩
  .have a:=(hL.own.lt gg (by rw[hv];rfl)).1;have b:kb<wc.heap.size:=by rw[<-HK.v];exact S3.1.lt cv
   have:=hb4.size;omega
  .have q:=hc i hi;rw[show 0+i=i by omega]at q;exact q)
 rw[hNN]at hv1;have HV1:=hJ hv1;rw[hv1];clear hL hv1 hNN hb4 hLC;go_wp2_with fail
 go_loopw [9,40] (λ_ i wr=>∃(k:Nat),i=aa az k/\k<=NN/\Hid (bO wr Wt {s with k:=Kn.gG k3 (LC.take k) (hd0:Int)}/\KF s w {s with k:=Kn.gG k3 (LC.take k) (hd0:Int)} wr/\∀b,b≠kb->wr.heap[b]? =w4.heap[b]?)) (λ_ i _=>NN-(intOf i).toNat)
 case atStart=>exact⟨0,rfl,bB,hJ ⟨S4.1,S4.2.1,λ_ _=>rfl⟩⟩
 case round=>
  obtain⟨k,rfl,hk,R⟩:=hrel;by_cases hlt:k<NN
  .have hltI:(k:Int)<NN:=bB
   have hkL:k<LC.length:=by rw[HN.v];exact hlt
   obtain⟨m,hm⟩:∃m,LC[k]? =bj m:=⟨_,aW hkL⟩;have m20:m<20:=LP.1 m (bK hm);have m20I:(m:Int)<20:=bB
   obtain⟨gg,cap,hv,hg,hc⟩:=LL.v k hkL;rw[HV1.v]at hv;cases hv;have cm:wr.cell? ⟨gg,k,bu⟩=bj (aa az (m:Int)):=by
    rw[show wr.cell? ⟨gg,k,bu⟩=w4.cell? ⟨gg,k,bu⟩from aV (R.2.2 gg hg),hc];simp[aF,hm]
   have cp:=R.1.uz m m20;have fz:=R.1.frozen;rw[show({s with k:=Kn.gG k3 (LC.take k) (hd0:Int)}:St).A 0=kb from HK.v]at cp fz;generalize (({s with k:=Kn.gG k3 (LC.take k) (hd0:Int)}:St).k.p m).par=pv at cp;have R1:Hid (bO (wr.setCell ⟨kb,m*12+1,bu⟩ (aa az (hd0:Int))) Wt {s with k:=Kn.gG k3 (LC.take (k+1)) (hd0:Int)}/\KF s w {s with k:=Kn.gG k3 (LC.take (k+1)) (hd0:Int)} (wr.setCell ⟨kb,m*12+1,bu⟩ (aa az (hd0:Int)))/\∀b,b≠kb->(wr.setCell ⟨kb,m*12+1,bu⟩ (aa az (hd0:Int))).heap[b]? =w4.heap[b]?):=hJ (by
    have q:=R.1.Eo m20 (hd0:Int);rw[show({s with k:=Kn.gG k3 (LC.take k) (hd0:Int)}:St).A 0=kb from HK.v]at q;have e:=Kn.Nj k3 (LC.take k) (hd0:Int) m;rw[show LC.take k++[m]=LC.take (k+1)by rw[List.take_add_one,hm];rfl]at e;rw[<-e];exact⟨q.1,R.2.1.trans q.2,λb hb=>(dE _ _ _ _ hb).trans (R.2.2 b hb)⟩)
   clear hc hm hkL hg;go_wp2
   go_roundw
   case rel=>exact⟨k+1,by go_num,bB,R1⟩
   case measure=>simp[intOf];omega
  .obtain rfl:k=NN:=bB
   have R1:Hid (bO wr Wt {s with k:=Kn.gG k3 LC (hd0:Int)}/\KF s w {s with k:=Kn.gG k3 LC (hd0:Int)} wr):=hJ (by
    have q:=R.v;rw[<-HN.v,List.take_length]at q;exact⟨q.1,q.2.1⟩)
   clear R S4;have cp:=R1.1.uz n hn;rw[show({s with k:=Kn.gG k3 LC (hd0:Int)}:St).A 0=kb from HK.v,show(({s with k:=Kn.gG k3 LC (hd0:Int)}:St).k.p n).par=(q:Int)from MD.par H.2.2.2.2.1 qn LC (hd0:Int) LP.2]at cp;obtain⟨tl,htl⟩:=hU (Kn.lv (Kn.gG k3 LC (hd0:Int)) q);have LV:=hJ (jq Wt {s with k:=Kn.gG k3 LC (hd0:Int)} wr q R1.1 ic tl htl);rw[show({s with k:=Kn.gG k3 LC (hd0:Int)}:St).A 0=kb from HK.v]at LV;have ET:Hid (∀k',k'=Kn.mL (Kn.gG k3 LC (hd0:Int)) q->Kn.lX s.k n c z q k'):=hJ (λk' e=>⟨k1,k3,S1.1,S3.2.2,by rw[HLC.v,show Sp.fc k3.sp (z:Int) 1=hd0 from HHD.v];exact e⟩);cases tl
   .have FIN:=hJ (ET.v _ (by unfold Kn.mL;rw[aI (by rw[htl];decide)]));clear htl ET;go_wp2_with fail
    refine sC LV.v ?_;rintro w5 hw;subst w5;go_wp2_with fail
    go_end0
    exact⟨_,rfl,FIN.v,R1.v⟩
   .have FIN:=hJ (ET.v _ (by unfold Kn.mL;rw[aJ htl]));have TD:=MD.told qn ic LC (hd0:Int) htl H.2.2.2.2.2.1;have SE:=hJ (Ld Wt {s with k:=Kn.gG k3 LC (hd0:Int)} wr q R1.1 ic TD.1 TD.2);rw[show({s with k:=Kn.gG k3 LC (hd0:Int)}:St).A 0=kb from HK.v]at SE;clear htl ET TD;go_wp2_with fail
    refine sC LV.v ?_;rintro w5 hw;subst w5;go_wp2_with fail
    refine sC SE.v ?_;rintro w5 ⟨ka,kf⟩;have S5:Hid (bO w5 Wt {s with k:=Kn.iO (Kn.gG k3 LC (hd0:Int)) q 3}/\KF s w {s with k:=Kn.iO (Kn.gG k3 LC (hd0:Int)) q 3} w5):=hJ ⟨ka,R1.2.trans kf⟩;clear ka kf;go_wp2_with fail
    go_end0
    exact⟨_,rfl,FIN.v,S5.v⟩
def Kn.fH(k:Kp)(z p:Int):Int:=if Kn.cD k z=0 then(if Sp.iw k.sp (Sp.dX k.sp z:Nat) p=0 then(if Kn.lv k (Sp.fc k.sp (Sp.dX k.sp z:Nat) p)=bw then 0 else 8)else Sp.iw k.sp (Sp.dX k.sp z:Nat) p)else Kn.cD k z
def Kn.j5(k:Kp)(z p:Int):Nat:=if Kn.fH k z p=0 then Sp.fc k.sp (Sp.dX k.sp z:Nat) p else 0
section
variable (Wt:Nat)(s:St)(w:bD)
theorem Kn.ma{t:Sp.T}(hw:∀z p,z<6->p<21->t.b7 z p<=20)(z p:Int):Sp.fc t z p<20:=by
 unfold Sp.fc;by_cases c:Sp.iw t z p=0
 .rw[aJ c];unfold Sp.iw at c;by_cases i:Sp.cN t z=0
  .rw[aJ i]at c;by_cases j:p<1\/20<p\/t.b7 z.toNat p.toNat=0
   .rw[aJ j]at c;omega
   .have z6:z.toNat<6:=by
     unfold Sp.cN at i;split at i
     .omega
     .omega
    have:=hw z.toNat p.toNat z6 bB;omega
  .rw[aI i]at c;exact aZ c i
 .rw[aI c];omega
theorem Ov(z p:Int)(h:bO w Wt s)(hw:∀z p,z<6->p<21->s.k.sp.b7 z p<=20):
  Calls prog 16 #[ai (bj ⟨s.A 0,0,bu⟩),aa az z,aa az p] w λe w'=>e=bf (ao #[aa az (Kn.j5 s.k z p:Int),bN (Kn.fH s.k z p)])/\Below w.heap.size w w':=by
 have AC:=hJ (dG Wt s w z h);by_cases c:Kn.cD s.k z=0
 .have SP:=hJ (λq=>iJ Wt s (w.drewN q) z (h.drewN q));have FI:=hJ (λq=>Dm (s.A 1) (Sp.dX s.k.sp z:Nat) p s.k.sp (w.drewN q) (h.drewN q).sp);have c6:=h.yL;have lt:=Kn.ma hw (Sp.dX s.k.sp z:Nat) p;have LV:=hJ (λq v hv=>jq Wt s (w.drewN q) (Sp.fc s.k.sp (Sp.dX s.k.sp z:Nat) p) (h.drewN q) lt v hv);rw[c,bF]at AC;generalize gQ (s.A 0) z 0=ap at*;by_cases f:Sp.iw s.k.sp (Sp.dX s.k.sp z:Nat) p=0
  .rw[f,bF]at FI;obtain⟨v,hv⟩:=hU (Kn.lv s.k (Sp.fc s.k.sp (Sp.dX s.k.sp z:Nat) p));have LV2:=hJ (λq=>LV.v q v hv);have E1:Kn.fH s.k z p=if v=bw then 0 else 8:=by unfold Kn.fH;rw[aJ c,aJ f,hv]
   have E2:Kn.j5 s.k z p=if v=bw then Sp.fc s.k.sp (Sp.dX s.k.sp z:Nat) p else 0:=by
    unfold Kn.j5;rw[E1];cases v<;>rfl
   rw[E1,E2];generalize s.A 0=kb at*;generalize s.A 1=sb at*;generalize Sp.fc s.k.sp (Sp.dX s.k.sp z:Nat) p=ff at*;generalize Sp.dX s.k.sp z=ss at*;have ltI:(ff:Int)<20:=bB
   go_in
   go_wp2_with fail
   refine sC AC.v ?_;rintro w1 hw;subst w1;go_wp2_with fail
   go_quiet ((first|(go_at_call 62;exact Calls.quiet_of_same (SP.v _))|(go_at_call 61;exact Calls.quiet_of_same (FI.v _))))
   go_wp2_with fail
   refine sC (LV2.v _) ?_;rintro w1 hw;subst w1;cases v
   .go_wp2
    go_ret2
    exact⟨rfl,below_drewN (aQ _ _) _⟩
   .go_wp2
    go_ret2
    exact⟨rfl,below_drewN (aQ _ _) _⟩
  .have E1:Kn.fH s.k z p=Sp.iw s.k.sp (Sp.dX s.k.sp z:Nat) p:=by unfold Kn.fH;rw[aJ c,aI f]
   have E2:Kn.j5 s.k z p=0:=by unfold Kn.j5;rw[E1,aI f]
   rw[bH f]at FI;rw[E1,E2,bH f];generalize s.A 0=kb at*;generalize s.A 1=sb at*;generalize Sp.fc s.k.sp (Sp.dX s.k.sp z:Nat) p=ff at*;generalize Sp.iw s.k.sp (Sp.dX s.k.sp z:Nat) p=fe at*;generalize Sp.dX s.k.sp z=ss at*;go_in
   go_wp2_with fail
   refine sC AC.v ?_;rintro w1 hw;subst w1;go_wp2_with fail
   go_quiet ((first|(go_at_call 62;exact Calls.quiet_of_same (SP.v _))|(go_at_call 61;exact Calls.quiet_of_same (FI.v _))))
   go_wp2
   go_ret2
   exact⟨rfl,below_drewN (aQ _ _) _⟩
 .have E1:Kn.fH s.k z p=Kn.cD s.k z:=aI c;have E2:Kn.j5 s.k z p=0:=by unfold Kn.j5;rw[E1,aI c]
  rw[bH c]at AC;rw[E1,E2,bH c];generalize gQ (s.A 0) z (Kn.cD s.k z)=ap at*;generalize Kn.cD s.k z=ae at*;generalize s.A 0=kb at*;go_in
  go_wp2_with fail
  refine sC AC.v ?_;rintro w1 hw;subst w1;go_wp2
  go_ret2
  exact⟨rfl,aQ _ _⟩
end
structure Kn.KI (N:Nat)(d:Nat->Nat)(k:Kp):Prop where
 vi:VI (λ_=>False) N d k
 fi:∀m,m<20->Kn.lv k m=bw->Kn.hd k m≠m->Sg.ft (k.p m).box 0 0
 pr:∀m,m<20->m≠0->(k.p m).st≠0->∃q,q<20/\q≠m/\(k.p m).par=(q:Int)
 h0:Kn.hd k 0=0
def Kn.rO(k:Kp)(z c:Int):Int:=if Kn.cD k z=0 then(if c<0\/255<c then 1 else if z=0 then 8 else 0)else Kn.cD k z
def Kn.qX(k:Kp)(z c:Int)(k':Kp):Prop:=(Kn.rO k z c≠0/\k'=k)\/(Kn.rO k z c=0/\∃n y q,z=(n:Nat)/\n<20/\n≠0/\Kn.lv k n=bw/\k.sp.of n=y+1/\q<20/\q≠n/\(k.p n).par=(q:Nat)/\Kn.lX k n c y q k')
section
variable (Wt N:Nat)(d:Nat->Nat)(s:St)(w:bD)
theorem KU(hN:N<=900)(z c:Int)(h:bO w Wt s)(hi:Kn.KI N d s.k):
  Calls prog 20 #[ai (bj ⟨s.A 0,0,bu⟩),aa az z,aa az c] w λe w'=>∃k',e=bf (bN (Kn.rO s.k z c))/\Kn.qX s.k z c k'/\bO w' Wt {s with k:=k'}/\KF s w {s with k:=k'} w':=by
 have AC:=hJ (dG Wt s w z h);have H:=hJ (aK h hi);by_cases a:Kn.cD s.k z=0
 .obtain⟨n,rfl,hn,hl⟩:=Kn.fL a;rw[a,bF]at AC;generalize gQ (s.A 0) (n:Int) 0=ap at*;by_cases b:c<0\/255<c
  .have E:Kn.rO s.k (n:Int) c=1:=by unfold Kn.rO;rw[aJ a,aJ b]
   have FIN:Hid (Kn.qX s.k (n:Int) c s.k):=hJ (.inl ⟨by rw[E];decide,rfl⟩);rw[E];generalize s.A 0=kb at*;by_cases b1:c<0
   .clear b;go_in
    go_wp2_with fail
    refine sC AC.v ?_;rintro w1 hw;subst w1;go_wp2
    go_ret
    exact⟨s.k,rfl,FIN.v,H.1,KF.refl _ _⟩
   .have b2:255<c:=bB
    go_in
    go_wp2_with fail
    refine sC AC.v ?_;rintro w1 hw;subst w1;go_wp2
    go_ret
    exact⟨s.k,rfl,FIN.v,H.1,KF.refl _ _⟩
  .have b1:¬c<0:=bB
   have b2:¬255<c:=bB
   by_cases n0:n=0
   .subst n0;have E:Kn.rO s.k ((0:Nat):Int) c=8:=by unfold Kn.rO;rw[aJ a,aI b];rfl
    have FIN:Hid (Kn.qX s.k ((0:Nat):Int) c s.k):=hJ (.inl ⟨by rw[E];decide,rfl⟩);rw[E];generalize s.A 0=kb at*;go_in
    go_wp2_with fail
    refine sC AC.v ?_;rintro w1 hw;subst w1;go_wp2
    go_ret
    exact⟨s.k,rfl,FIN.v,H.1,KF.refl _ _⟩
   .have E:Kn.rO s.k (n:Int) c=0:=by unfold Kn.rO;rw[aJ a,aI b,nJ]
    have st0:(s.k.p n).st≠0:=by
     have:decide ((s.k.p n).st=1)=bw:=hl;have:(s.k.p n).st=1:=by simpa using this
     omega
    obtain⟨q,ic,qn,hp⟩:=hi.pr n hn n0 st0;obtain⟨y,hy⟩:∃y,s.k.sp.of n=y+1:=⟨s.k.sp.of n-1,by have:=(hi.vi.kj.of n hn).2 st0;omega⟩;have EN:=hJ (xC Wt N d hN s w n y q c h hi.vi hn n0 hl hy ic qn hp (λm hm _=>hi.fi m hm));have FIN:Hid (∀k',Kn.lX s.k n c y q k'->Kn.qX s.k (n:Int) c k'):=hJ (λk' e=> .inr ⟨E,n,y,q,rfl,hn,n0,hl,hy,ic,qn,hp,e⟩);rw[E,bF];have nI:((n:Int)==0)=bA:=by simpa using n0
    have nI2:¬(n:Int)=0:=bB
    generalize s.A 0=kb at*;go_in
    go_wp2_with fail
    refine sC AC.v ?_;rintro w1 hw;subst w1;go_wp2_with fail
    refine EN.mono ?_;rintro e w1 ⟨k',rfl,et,ka,kf⟩;have S1:Hid (Kn.qX s.k (n:Int) c k'/\bO w1 Wt {s with k:=k'}/\KF s w {s with k:=k'} w1):=hJ ⟨FIN.v k' et,ka,kf⟩;go_wp2
    go_ret
    exact⟨k',rfl,S1.v⟩
 .have E:Kn.rO s.k z c=Kn.cD s.k z:=aI a;have FIN:Hid (Kn.qX s.k z c s.k):=hJ (.inl ⟨by rw[E];exact a,rfl⟩);rw[bH a]at AC;rw[E,bH a];generalize gQ (s.A 0) z (Kn.cD s.k z)=ap at*;generalize Kn.cD s.k z=ae at*;generalize s.A 0=kb at*;go_in
  go_wp2_with fail
  refine sC AC.v ?_;rintro w1 hw;subst w1;go_wp2
  go_ret
  exact⟨s.k,rfl,FIN.v,H.1,KF.refl _ _⟩
end
namespace Kn
def ed(s:St)(n mb bb:Nat)(x:Pr):St:={s with A:=λi=>if i=9+n then mb else if i=29+n then bb else s.A i,k:=s.k.put n x}
theorem ny(s:St)(n mb bb:Nat)(x:Pr):(ed s n mb bb x).A (9+n)=mb:=aJ rfl
theorem nv(s:St)(n mb bb:Nat)(x:Pr):(ed s n mb bb x).A (29+n)=bb:=(nJ).trans (aJ rfl)
theorem fa(s:St)(n mb bb:Nat)(x:Pr)(h1:i≠9+n)(h2:i≠29+n):(ed s n mb bb x).A i=s.A i:=(aI h1).trans (aI h2)
theorem wC{s:St}{x:Pr}(hi:us (ed s n mb bb x) i):i=9+n\/i=29+n\/(us s i/\i≠9+n/\i≠29+n):=by
 by_cases c1:i=9+n
 .exact .inl c1
 .by_cases c2:i=29+n
  .exact .inr (.inl c2)
  .refine .inr (.inr ⟨?_,c1,c2⟩);rcases hi with hi|⟨h1,h2,h3⟩|⟨h1,h2,h3⟩|⟨h1,h2,h3⟩|⟨h1,h2,h3,h4⟩
   .exact .inl hi
   .have h5:((s.k.put n x).p (i-9)).has=bw:=h3;rw[bP _ _ _ _ bB]at h5;exact .inr (.inl ⟨h1,h2,h5⟩)
   .have h5:((s.k.put n x).p (i-29)).has=bw:=h3;rw[bP _ _ _ _ bB]at h5;exact .inr (.inr (.inl ⟨h1,h2,h5⟩))
   .exact .inr (.inr (.inr (.inl ⟨h1,h2,h3⟩)))
   .exact .inr (.inr (.inr (.inr ⟨h1,h2,h3,h4⟩)))
theorem Rt(s:St)(n mb bb:Nat)(x:Pr)(hn:n<20)(o:Nat)(ho:o<253):kc (ed s n mb bb x) o=if o<240/\o/12=n then fw mb bb x (o%12)else kc s o:=by
 unfold kc;by_cases c:o<240
 .rw[aJ c,aJ c];unfold pc;by_cases e:o/12=n
  .rw[aJ ⟨c,e⟩,e,ny,nv];show fw mb bb ((s.k.put n x).p n) _=_;rw[bM]
  .rw[aI (λq=>e q.2),fa _ _ _ _ _ bB bB,fa _ _ _ _ _ bB bB];show fw _ _ ((s.k.put n x).p (o/12)) _=_;rw[bP _ _ _ _ e]
 .have c':¬(o<240/\o/12=n):=λq=>c q.1;rw[aI c,aI c',aI c];by_cases c2:o<246
  .rw[aJ c2,aJ c2,fa _ _ _ _ _ bB bB];rfl
  .rw[aI c2,aI c2];by_cases c3:o<250
   .rw[aJ c3,aJ c3,fa _ _ _ _ _ bB bB]
   .rw[aI c3,aI c3,fa _ _ _ _ _ bB bB]
end Kn
section
variable {w w':bD}{Wt:Nat}{s:St}
theorem bO.born(h:bO w Wt s)(hn:n<20){x:Pr}(um:dj w mb (s.A 4) x.mem)(ub:CX w bb x.box)(am:∀i,us s i->s.A i≠mb)(ab:∀i,us s i->s.A i≠bb)(mn:mb≠bb)(lm:Wt<=mb)(lb:Wt<=bb):
  bO (w.setCells (s.A 0) (n*12) (dZ mb bb x).toList) Wt (Kn.ed s n mb bb x)/\bG (s.A 0) w (w.setCells (s.A 0) (n*12) (dZ mb bb x).toList):=by
 obtain⟨C,e,sz⟩:=h.mT;obtain⟨C',e',sz'⟩:=eP (s.A 0) (dZ mb bb x).toList (n*12) w C e;have hl:(dZ mb bb x).toList.length=12:=by rw[aB,dM]
 have f:bG (s.A 0) w (w.setCells (s.A 0) (n*12) (dZ mb bb x).toList):=bG.setCells _ _ (bG.refl _ _);have eE:∀o,o<253->(w.setCells (s.A 0) (n*12) (dZ mb bb x).toList).cell? ⟨s.A 0,o,bu⟩=bj (Kn.kc (Kn.ed s n mb bb x) o):=λo ho=>by
  rw[Kn.Rt s n mb bb x hn o ho];by_cases c:o<240/\o/12=n
  .rw[aJ c];obtain⟨j,rfl,hj⟩:∃j,o=n*12+j/\j<12:=⟨o%12,bB,bB⟩;rw[aS (s.A 0) (dZ mb bb x).toList (n*12) w (λi hi=>by rw[hl]at hi;rw[h.cP n i hn hi];rfl) j bB,<-aW bB,aM,lT mb bb x j hj,show(n*12+j)%12=j by omega]
  .rw[aI c,aA (s.A 0) _ (n*12) w ⟨s.A 0,o,bu⟩ (λ_ _=>by rw[hl];show o<_\/_<=o;omega)];exact h.eE o ho
 have o:=h.others cv f;have A9:∀i,i<9->(Kn.ed s n mb bb x).A i=s.A i:=λi hi=>Kn.fa _ _ _ _ _ bB bB;have pj:∀j,j≠n->(Kn.ed s n mb bb x).k.p j=s.k.p j:=λj c=>Kn.bP _ _ _ _ c;have pn:(Kn.ed s n mb bb x).k.p n=x:=Kn.bM _ _ _;have um':dj (w.setCells (s.A 0) (n*12) (dZ mb bb x).toList) mb (s.A 4) x.mem:=um.same (f.block _ um.lt (am 0 cv).symm);have ub':CX (w.setCells (s.A 0) (n*12) (dZ mb bb x).toList) bb x.box:=ub.same (f.block _ ub.lt (ab 0 cv).symm);refine⟨⟨⟨C',by rw[A9 0 bB];exact e',bB⟩,λi hi=>by rw[A9 0 bB];exact eE i hi,by rw[A9 1 bB];exact h.sp.same (o 1 cv bB),by rw[A9 2 bB];exact(o 2 cv bB).trans h.gr,by rw[A9 3 bB];exact h.sc.same (o 3 cv bB),by rw[A9 4 bB,A9 5 bB];exact h.bk.same (o 4 cv bB) (o 5 cv bB),by rw[A9 8 bB,A9 6 bB,A9 7 bB];exact h.fi.same (o 8 cv bB),by rw[A9 6 bB];exact h.fo.same (o 6 cv bB),by rw[A9 7 bB];exact h.pi.same (o 7 cv bB),
  λj hj jh=>?_,λj hj jh=>?_,λj hj hh=>?_,λj hj hh g eg=>?_,λi j hi hj eq=>?_,λi hi=>?_⟩,f⟩
 .by_cases c:j=n
  .subst c;rw[Kn.ny,A9 4 bB,pn];exact um'
  .rw[pj j c]at jh|-;rw[Kn.fa _ _ _ _ _ bB bB,A9 4 bB];exact(h.me j hj jh).same (o _ (Kn.ja hj jh) bB)
 .by_cases c:j=n
  .subst c;rw[Kn.nv,pn];exact ub'
  .rw[pj j c]at jh|-;rw[Kn.fa _ _ _ _ _ bB bB];exact(h.bx j hj jh).same (o _ (Kn.j9 hj jh) bB)
 .rw[Kn.fa _ _ _ _ _ bB bB,A9 6 bB];exact(h.tb j hj hh).same (o _ (Kn.kE hj hh) bB) (λg eg=>by have:=o _ (Kn.km hj hh eg) bB;rwa [h.ro j hj hh g eg]at this)
 .rw[Kn.fa _ _ _ _ _ bB bB];exact h.ro j hj hh g eg
 .rcases Kn.wC hi with rfl|rfl|⟨ui,i1,i2⟩<;>rcases Kn.wC hj with rfl|rfl|⟨uj,j1,j2⟩
  .rfl
  .rw[Kn.ny,Kn.nv]at eq;exact aZ eq mn
  .rw[Kn.ny,Kn.fa _ _ _ _ _ j1 j2]at eq;exact aZ eq.symm (am j uj)
  .rw[Kn.ny,Kn.nv]at eq;exact aZ eq.symm mn
  .rfl
  .rw[Kn.nv,Kn.fa _ _ _ _ _ j1 j2]at eq;exact aZ eq.symm (ab j uj)
  .rw[Kn.ny,Kn.fa _ _ _ _ _ i1 i2]at eq;exact aZ eq (am i ui)
  .rw[Kn.nv,Kn.fa _ _ _ _ _ i1 i2]at eq;exact aZ eq (ab i ui)
  .rw[Kn.fa _ _ _ _ _ i1 i2,Kn.fa _ _ _ _ _ j1 j2]at eq;exact h.inj i j ui uj eq
 .rcases Kn.wC hi with rfl|rfl|⟨ui,i1,i2⟩
  .rw[Kn.ny];exact lm
  .rw[Kn.nv];exact lb
  .rw[Kn.fa _ _ _ _ _ i1 i2];exact h.low i ui
end
theorem yg{P:Program}{ops:Array Oper}{rest:List Oper}{op:Oper}{a:Act}{Q:Act->Prop}(hgd:op.guard=bu)(ty:TypeId)(x:Operand)(ho:op.op= .load ty x)
  (b o:Nat) (hx:a.eval x=ai (bj ⟨b,o,bu⟩)) (cs:List Value) (d:TypeDesc) (hc:w.rangeAt b o cs)
  (hu:P.underlying ty=bj d) (hd:d.isRow=bw) (hi:(P.info? ty).map (·.size)=bj cs.length)
  (h:wpStill P ops w Q rest (a.put op.dst (au cs.toArray))):wpStill P ops w Q (op::rest) a:=
 wpStill_step (λK hK=>by
  have hw:Region.wanted op (yielded ops a.tmps)=bw:=by simp[Region.wanted,hgd]
  rw[aJ hw];unfold Oper.still execOp;simp only[ho,hx,Instr.loadAt,Instr.sureAddr,Sem.run_bind,Sem.run_pure,Result.andThen_ok,run_loadVar_mid w b o ty cs d hc hu hd hi];rw[Oper.stillUpon_value];exact hK _ h)
section
variable {ops:Array Oper}{rest:List Oper}{x:Oper}{a:Act}{w:bD}{Q:Exit->Act->bD->Prop}
theorem Fk(hgd:x.guard=bu)(y:Operand)(A:Array Value)(ho:x.op= .box 74 y)(hy:a.eval y=au A)(h:wpList prog ops Q rest (a.put x.dst (ai (bj ⟨w.heap.size,0,bu⟩))) (w.alloc (bh A 74))):wpList prog ops Q (x::rest) a w:=
 wpList_plain hgd λ_ hK=>by
  unfold Oper.wp execOp;simp only[ho,hy];simp[go_sem];exact hK _ _ h
end
def Kn.iP(k:Kp)(n:Nat)(x:Pr)(z:Int)(m:Wf.M):Kp:={k.put n x with sp:=Sp.fM k.sp z (n:Int),sc:=m}
section
variable (Wt:Nat)(s:St)(w:bD)
theorem yX(n mb bb:Nat)(x:Pr)(z:Int)(d:Nat->Nat)(h:bO w Wt s)(hn:n<20)(hI:Sp.Inv s.k.sp d)(um:dj w mb (s.A 4) x.mem)(ub:CX w bb x.box)(am:∀i,us s i->s.A i≠mb)(ab:∀i,us s i->s.A i≠bb)(mn:mb≠bb)(lm:Wt<=mb)(lb:Wt<=bb):
  Calls prog 68 #[ai (bj ⟨s.A 0,0,bu⟩),aa az n,au (dZ mb bb x),aa az z] w λe w'=>∃m',e=bf (ao #[])/\Wf.jb (Wf.dH s.k.sc (n:Int) x.cA) (n:Int) bw m'/\bO w' Wt {Kn.ed s n mb bb x with k:=Kn.iP s.k n x z m'}/\dS (KB s) w w':=by
 have hnI:(n:Int)<20:=bB
 obtain⟨kb,hkb⟩:=hU (s.A 0);have HK:=hJ hkb;have b0:Below w.heap.size w (w.alloc (bh (dZ mb bb x) 74)):=(aQ _ _).alloc (aL _) _;have N0:Hid ((w.alloc (bh (dZ mb bb x) 74)).heap[w.heap.size]? =bj (bh (dZ mb bb x) 74 (0,0))):=hJ (heap_alloc_new w _);have BN:=hJ ((h.below b0).drew.born hn (x:=x) (um.below b0).drew (ub.below b0 ub.lt).drew am ab mn lm lb);have B0:=hJ b0;have H:=hJ (aK h hI);have RG:Hid ((w.alloc (bh (dZ mb bb x) 74)).rangeAt w.heap.size 0 (dZ mb bb x).toList):=hJ (λj hj=>by
  rw[Nat.zero_add,bR N0.v];simp)
 have TH:Hid ((w.alloc (bh (dZ mb bb x) 74)).there kb (n*12) (dZ mb bb x).size):=hJ (by rw[dM,<-hkb];exact(h.below b0).there hn);have SZ:Hid ((prog.info? 74).map (·.size)=bj (dZ mb bb x).size):=hJ (by rw[dM];kernel_rfl);have SL:Hid ((prog.info? 74).map (·.size)=bj (dZ mb bb x).toList.length):=hJ (by rw[aB,dM];kernel_rfl);have H1:Hid ((dZ mb bb x).all (·.oneCell')=bw):=hJ (qj mb bb x);have GR:Hid ((dZ mb bb x)[2]? =bj (aa az x.cA)):=hJ (by rw[lT mb bb x 2 bB];rfl);obtain⟨PA,hPA⟩:=hU (dZ mb bb x);rw[hPA]at N0 BN B0 RG TH SZ SL H1 GR|-;rw[hkb]at BN|-;go_in
 go_upto_region 1 with(refine Fk rfl _ PA rfl rfl ?_)
 refine wp_region_still_tail 6 bC bC ?_;simp only[List.take_succ_cons,List.take_zero,List.drop_succ_cons,List.drop_zero]
 iterate 2 still_step
 refine yg rfl 74 _ rfl w.heap.size 0 rfl PA.toList _ RG.v Tryz.underlying74 rfl SL.v ?_;rw[Array.toArray_toList]
 iterate 3 still_step
 refine wpStill_nil ?_;go_upto_region 2 with(refine wpList_store_mid rfl 74 _ _ rfl kb (n*12) PA rfl rfl TH.v SZ.v H1.v ?_)
 have KL:Hid (∀i,us s i->s.A i<w.heap.size):=hJ (λi hi=>H.1.lt hi);have FIN0:Hid (bO ((w.alloc (bh PA 74)).drew.setCells kb (n*12) PA.toList) Wt (Kn.ed s n mb bb x)/\dS (KB s) w ((w.alloc (bh PA 74)).drew.setCells kb (n*12) PA.toList)/\((w.alloc (bh PA 74)).drew.setCells kb (n*12) PA.toList).cell? ⟨w.heap.size,2,bu⟩=bj (aa az x.cA)/\w.heap.size<((w.alloc (bh PA 74)).drew.setCells kb (n*12) PA.toList).heap.size):=hJ (by
  have ls:w.heap.size<(w.alloc (bh PA 74)).heap.size:=by simp
  refine⟨BN.1,(dS.cL B0.v).drew.trans (dS.kS BN.2 (by rw[<-HK.v];exact⟨0,cv,rfl⟩)),?_,aD ls BN.2.size⟩;rw[aV (BN.2.block w.heap.size ls (by have:=KL.v 0 cv;rw[HK.v]at this;omega))];show(w.alloc (bh PA 74)).cell? ⟨w.heap.size,2,bu⟩=_;rw[bR N0.v];exact GR.v)
 refine cJ (λW=>bO W Wt (Kn.ed s n mb bb x)/\dS (KB s) w W/\W.cell? ⟨w.heap.size,2,bu⟩=bj (aa az x.cA)/\w.heap.size<W.heap.size) FIN0.v ?_;intro W1 hW1;have S1:=hJ hW1;obtain⟨bx,hbx⟩:=hU (w.heap.size);rw[hbx]at S1 KL|-;obtain⟨gz,hgz⟩:=hU (x.cA);have HGZ:=hJ hgz;have A0:Hid ((Kn.ed s n mb bb x).A 0=kb/\(Kn.ed s n mb bb x).A 1=s.A 1/\(Kn.ed s n mb bb x).A 3=s.A 3):=hJ ⟨(Kn.fa _ _ _ _ _ bB bB).trans HK.v,Kn.fa _ _ _ _ _ bB bB,Kn.fa _ _ _ _ _ bB bB⟩;obtain⟨p1,hp1⟩:=hU (s.A 1);obtain⟨p3,hp3⟩:=hU (s.A 3);have HP:Hid (s.A 1=p1/\s.A 3=p3/\p1≠bx/\p3≠bx):=hJ ⟨hp1,hp3,by have:=KL.v 1 cv;omega,by have:=KL.v 3 cv;omega⟩;rw[hp1,hp3]at A0;have c6:=S1.1.yL;rw[A0.1,A0.2.1]at c6;have EN:=hJ (Ko p1 z (n:Int) s.k.sp d W1 (by have q:=S1.1.sp;rw[A0.2.1]at q;exact q) H.2);go_wp2_with fail
 refine EN.mono ?_;rintro e w5 ⟨rfl,t5,f5⟩;generalize (ao #[aa az (Sp.uG s.k.sp z (n:Int):Int),bN (Sp.mJ s.k.sp z (n:Int))])=ev2;have S2:Hid (bO w5 Wt {Kn.ed s n mb bb x with k:={s.k.put n x with sp:=Sp.fM s.k.sp z (n:Int)}}/\dS (KB s) w w5/\w5.cell? ⟨bx,2,bu⟩=bj (aa az x.cA)/\bx<w5.heap.size):=hJ (by
  have q:=S1.1.ze (by rw[A0.2.1];exact t5) (by rw[A0.2.1];exact f5);refine⟨q.1,S1.2.1.trans (dS.kS f5 (by rw[<-HP.1];exact⟨1,cv,rfl⟩)),?_,aD S1.2.2.2 f5.size⟩;rw[aV (f5.block bx S1.2.2.2 (bQ HP.2.2.1))];exact S1.2.2.1)
 go_upto_region 3 with fail
 have KC:Hid (∀W k,bO W Wt {Kn.ed s n mb bb x with k:=k}->W.cell? ⟨bx,2,bu⟩=bj (aa az x.cA)->W.cell? ⟨kb,248,bu⟩=bj (ai (bj ⟨p3,0,bu⟩))/\W.cell? ⟨bx,2,bu⟩=bj (aa az gz)):=hJ (λW k hW e=>by
  have a:=hW.wM;rw[show({Kn.ed s n mb bb x with k:=k}:St).A 0=kb from A0.1,show({Kn.ed s n mb bb x with k:=k}:St).A 3=p3 from A0.2.2]at a;rw[HGZ.v]at e;exact⟨a,e⟩)
 have K0:=hJ (KC.v w5 _ S2.1 S2.2.2.1);have AT:=hJ (Wf.Fm p3 s.k.sc w5.drew (n:Int) gz 100 (by have q:=S2.1.drew.sc;rw[show({Kn.ed s n mb bb x with k:={s.k.put n x with sp:=Sp.fM s.k.sp z (n:Int)}}:St).A 3=p3 from A0.2.2]at q;exact q) ⟨by omega,bB⟩);obtain⟨y1,y2⟩:=K0.v;go_region_held3 (λw'=>w'.cell? ⟨kb,248,bu⟩=bj (ai (bj ⟨p3,0,bu⟩))/\w'.cell? ⟨bx,2,bu⟩=bj (aa az gz)) (first|exact K0.v|exact K4.v) (
  (go_at_call 143;refine AT.mono ?_;rintro e w6 ⟨⟨E6,rfl⟩,t6,f6⟩;have S4:Hid (bO w6 Wt {Kn.ed s n mb bb x with k:={s.k.put n x with sp:=Sp.fM s.k.sp z (n:Int),sc:=Wf.dH s.k.sc (n:Int) gz}}/\dS (KB s) w w6/\w6.cell? ⟨bx,2,bu⟩=bj (aa az x.cA)/\bx<w6.heap.size):=hJ (by
   have q:=S2.1.drew.lH (by rw[show({Kn.ed s n mb bb x with k:={s.k.put n x with sp:=Sp.fM s.k.sp z (n:Int)}}:St).A 3=p3 from A0.2.2];exact t6) (by rw[show({Kn.ed s n mb bb x with k:={s.k.put n x with sp:=Sp.fM s.k.sp z (n:Int)}}:St).A 3=p3 from A0.2.2];exact f6);refine⟨q.1,S2.2.1.drew.trans (dS.kS f6 (by rw[<-HP.2.1];exact⟨3,cv,rfl⟩)),?_,aD S2.2.2.2 f6.size⟩;rw[aV (f6.block bx S2.2.2.2 (bQ HP.2.2.2))];exact S2.2.2.1);have K4:=hJ (KC.v w6 _ S4.1 S4.2.2.1)))
 generalize bN E6=ev3;have c8:=(KC.v w6 _ S4.1 S4.2.2.1).1;have WK:=hJ (Wf.Fb p3 (Wf.dH s.k.sc (n:Int) gz) w6 (n:Int) bw (by have q:=S4.1.sc;rw[show({Kn.ed s n mb bb x with k:={s.k.put n x with sp:=Sp.fM s.k.sp z (n:Int),sc:=Wf.dH s.k.sc (n:Int) gz}}:St).A 3=p3 from A0.2.2]at q;exact q));go_wp2_with fail
 refine WK.mono ?_;rintro e w7 ⟨⟨E7,rfl⟩,t7,f7⟩;obtain⟨m',wk⟩:∃m',Wf.jb (Wf.dH s.k.sc (n:Int) gz) (n:Int) bw m':=⟨_,rfl⟩;rw[<-wk]at t7;generalize bN E7=ev4;have S5:Hid (Wf.jb (Wf.dH s.k.sc (n:Int) x.cA) (n:Int) bw m'/\bO w7 Wt {Kn.ed s n mb bb x with k:=Kn.iP s.k n x z m'}/\dS (KB s) w w7):=hJ (by
  have q:=S4.1.lH (by rw[show({Kn.ed s n mb bb x with k:={s.k.put n x with sp:=Sp.fM s.k.sp z (n:Int),sc:=Wf.dH s.k.sc (n:Int) gz}}:St).A 3=p3 from A0.2.2];exact t7) (by rw[show({Kn.ed s n mb bb x with k:={s.k.put n x with sp:=Sp.fM s.k.sp z (n:Int),sc:=Wf.dH s.k.sc (n:Int) gz}}:St).A 3=p3 from A0.2.2];exact f7);exact⟨by rw[HGZ.v];exact wk,q.1,S4.2.1.trans (dS.kS f7 (by rw[<-HP.2.1];exact⟨3,cv,rfl⟩))⟩)
 go_wp2_with fail
 go_end0
 exact⟨m',rfl,S5.v⟩
