import Derived.Test.YtpmmdkcfenjiaaaGreatDoorGam
set_option maxRecDepth 100000
set_option maxHeartbeats 4000000
set_option linter.unusedVariables false
set_option linter.unusedSimpArgs false
namespace Go.Proofs.YtpmmdkcfenjiaaaGreatDoor
open Value renaming int->aa,pointer->ai,slice->aj,tuple->ao,agg->au
open IntKind renaming i64->az
open Ending renaming returned->bf
open Obj renaming cells->bh
open Option renaming some->bj,none->bu
open Bool renaming true->bw,false->bA
open Tryz (prog)
open Go.RowKit
open Pp (Pi)
variable {E:Int}{L:List Nat}{K N Wr a bb c i m mb n q r x y z:Nat}{d:Nat->Nat}{R:Nat->Pi}{X:Nat->Prop}{w:bD}{s:bU}
def Pp.fW:Nat->Pi:=λ_=>Pi.no
def Pp.zA:Array Value:=((List.range 120).map λo=>if o%15<12 then aa .u8 0 else aa .i64 0).toArray
theorem Pp.zR(o:Nat)(h:o<120):Pp.zA[o]? =bj (if o%15<12 then aa .u8 0 else aa .i64 0):=by simp[Pp.zA,h]
theorem Pp.zeroV(w:bD):(zeroValue 122).run prog w= .ok (au Pp.zA) w:=by kernel_rfl
section
variable {ops:Array Oper}{rest:List Oper}{x:Oper}{a:Act}{w:bD}{Q:Exit->Act->bD->Prop}
theorem Pp.MX(hgd:x.guard=bu)(ho:x.op= .build 122 #[])(h:wpList prog ops Q rest (a.put x.dst (au Pp.zA)) w):wpList prog ops Q (x::rest) a w:=
 wpList_plain hgd λ_ hK=>by
  unfold Oper.wp execOp;have hz:=Pp.zeroV w;simp only[ho];simp[go_sem,hz];exact hK _ _ h
end
theorem dN.zero{b:Nat}{T:TypeId}(h:w.heap[b]? =bj (bh Pp.zA T (0,0))):dN w b Pp.fW:=by
 refine⟨⟨_,T,h,by simp[Pp.zA]⟩,λn hn j v hv=>?_,λn hn=>?_,λn hn=>?_,λn hn=>?_,λn hn=>aC _⟩
 .exact aZ (Pp.pF hv) (by show¬j<0;omega)
 .rw[bS h,Pp.zR _ bB,nK];rfl
 .rw[bS h,Pp.zR _ bB,nK];rfl
 .rw[bS h,Pp.zR _ bB,nK];rfl
theorem Gb(w:bD):dN (w.alloc (bh Pp.zA 122)) w.heap.size Pp.fW/\Below w.heap.size w (w.alloc (bh Pp.zA 122)):=by
 exact⟨dN.zero (heap_alloc_new w _),(aQ _ _).alloc (aL _) _⟩
open Fx (Fi)
open Tr (Fo Nd)
def Fx.hit(x:Fi)(k m:Nat):Nat:=if x.refs≠0/\x.kind=k/\x.num=m then 1 else 0
def Fx.cK(T:Nat->Fi)(k m:Nat):Nat->Nat
 |0=>0
 |n+1=>Fx.cK T k m n+Fx.hit (T n) k m
theorem Fx.J5(T:Nat->Fi)(n:Nat)(x:Fi)(k m:Nat):∀N,Fx.cK (Fx.put T n x) k m N+(if n<N then Fx.hit (T n) k m else 0)=Fx.cK T k m N+(if n<N then Fx.hit x k m else 0)
 |0=>by rw[aI (Nat.not_lt_zero n),aI (Nat.not_lt_zero n)];rfl
 |N+1=>by
  have ih:=Fx.J5 T n x k m N;show Fx.cK (Fx.put T n x) k m N+Fx.hit (Fx.put T n x N) k m+_=Fx.cK T k m N+Fx.hit (T N) k m+_;by_cases c:N=n
  .subst c;rw[Fx.bG,aJ (Nat.lt_succ_self N),aJ (Nat.lt_succ_self N)];rw[aI (bV N),aI (bV N)]at ih;omega
  .rw[Fx.bO _ _ _ _ c];by_cases d:n<N
   .rw[nL,nL];rw[aJ d,aJ d]at ih;omega
   .rw[nK,nK];rw[aI d,aI d]at ih;omega
theorem Fx.yH(T:Nat->Fi)(x:Fi)(k m:Nat)(hn:n<24):Fx.cK (Fx.put T n x) k m 24+Fx.hit (T n) k m=Fx.cK T k m 24+Fx.hit x k m:=by
 have:=Fx.J5 T n x k m 24;rw[aJ hn,aJ hn]at this;exact this
theorem Fx.TC(x:Fi)(k m:Nat):Fx.hit x k m<=1:=by unfold Fx.hit;split<;>omega
theorem Fx.TF(k m:Nat):Fx.hit Fi.no k m=0:=aI (λd=>d.1 rfl)
theorem Fx.xu{x:Fi}(h:x.refs=0)(k m:Nat):Fx.hit x k m=0:=aI (λd=>d.1 h)
theorem Fx.nM{x:Fi}(h:x.refs≠0):Fx.hit x x.kind x.num=1:=aJ ⟨h,rfl,rfl⟩
theorem Fx.Og{x y:Fi}(h1:x.refs≠0)(h2:y.refs≠0)(hk:x.kind=y.kind)(hn:x.num=y.num)(k m:Nat):Fx.hit x k m=Fx.hit y k m:=by
 unfold Fx.hit;rw[hk,hn];by_cases c:y.kind=k/\y.num=m
 .rw[aJ ⟨h1,c⟩,aJ ⟨h2,c⟩]
 .rw[aI (λd=>c d.2),aI (λd=>c d.2)]
theorem Fx.rD{T:Nat->Fi}{k m:Nat}:∀{N n:Nat},n<N->Fx.hit (T n) k m<=Fx.cK T k m N
 |0,n,h=>aZ h (Nat.not_lt_zero n)
 |N+1,n,h=>by
  show _<=Fx.cK T k m N+Fx.hit (T N) k m;by_cases c:n=N
  .subst c;omega
  .have:=Fx.rD (T:=T) (k:=k) (m:=m) (N:=N) (n:=n) bB;omega
theorem Fx.tC(T:Nat->Fi)(k m:Nat):∀N,Fx.cK T k m N<=N
 |0=>aL 0
 |N+1=>by
  have:=Fx.tC T k m N;have:=Fx.TC (T N) k m;show Fx.cK T k m N+Fx.hit (T N) k m<=N+1;omega
structure WX (xx:Nat->Nat)(T:Nat->Fi)(F:Fo)(S:Nat->Pi):Prop where
 no:∀n,n<24->(T n).refs=0->T n=Fi.no
 kd:∀n,n<24->(T n).refs≠0->(T n).kind=1\/(T n).kind=2\/(T n).kind=3
 nd:∀n,n<24->(T n).refs≠0->(T n).kind=1->(T n).num<40/\(F.nd (T n).num).kind=1
 pn:∀n,n<24->(T n).refs≠0->(T n).kind≠1->(T n).num<8
 ps:∀n,n<24->(T n).pos<=40
 hl:∀m,m<40->(F.nd m).held=Fx.cK T 1 m 24+xx m
 z0:∀m,m<40->(F.nd m).kind=0->(F.nd m).held=0
 rd:∀m,m<8->(S m).reads=Fx.cK T 2 m 24
 wt:∀m,m<8->(S m).writes=Fx.cK T 3 m 24
section
variable {xx:Nat->Nat}{T:Nat->Fi}{F G:Fo}{S:Nat->Pi}
theorem WX.sm(h:WX xx T F S)(hx:∀m,m<40->xx m<=600):Fx.Sm F S:=by
 refine⟨λn hn=>?_,λwr n hn=>?_⟩
 .rw[h.hl n hn];have:=Fx.tC T 1 n 24;have:=hx n hn;omega
 .unfold Pp.kY;cases wr
  .show(S n).reads<_;rw[h.rd n hn];have:=Fx.tC T 2 n 24;omega
  .show(S n).writes<_;rw[h.wt n hn];have:=Fx.tC T 3 n 24;omega
theorem WX.pz(h:WX xx T F S):Fx.Pz T:=λn hn=>by
 have p:40<2^60:=by decide
 have:=h.ps n hn;omega
theorem WX.letE(h:WX xx T F S){n:Nat}(hn:n<24)(r:(T n).refs≠0)(k:(T n).kind=1):Tr.letE F ((T n).num:Int)=0:=by
 obtain⟨a,b⟩:=h.nd n hn r k;have c:=h.hl _ a;have d:=Fx.rD (T:=T) (k:=1) (m:=(T n).num) hn;have e:=Fx.nM r;rw[k]at e;have z:Tr.cH F ((T n).num:Int)=0:=by
  unfold Tr.cH;grind
 unfold Tr.letE;rw[aJ z,hU,nK]
theorem WX.ib(h:WX xx T F S){n:Nat}(hn:n<24)(r:(T n).refs≠0)(k:(T n).kind≠1):Pp.ib S ((T n).num:Int) (decide ((T n).kind=3))=0:=by
 have a:=h.pn n hn r k;have e:=Fx.nM r;have tm:Pp.kY (S (T n).num) (decide ((T n).kind=3))≠0:=by
  rcases h.kd n hn r with c|c|c
  .exact aZ c k
  .rw[c];show(S (T n).num).reads≠0;rw[h.rd _ a];have d:=Fx.rD (T:=T) (k:=2) (m:=(T n).num) hn;rw[c]at e;omega
  .rw[c];show(S (T n).num).writes≠0;rw[h.wt _ a];have d:=Fx.rD (T:=T) (k:=3) (m:=(T n).num) hn;rw[c]at e;omega
 have th:Pp.jL (S (T n).num)=bw:=by
  apply aO;unfold Pp.kY at tm;grind
 have z:Pp.j7 S ((T n).num:Int)=0:=by
  unfold Pp.j7;rw[hU,nK,aJ th]
 unfold Pp.ib;rw[z,aI (λd=>d rfl),hU,aI tm]
theorem WX.sH(h:WX xx T F S)(hh:∀m,m<40->(G.nd m).held=(F.nd m).held)(hk:∀m,m<40->(F.nd m).held≠0->(G.nd m).kind=(F.nd m).kind)(hz:∀m,m<40->(G.nd m).kind=0->(G.nd m).held=0):WX xx T G S:=by
 refine⟨h.no,h.kd,λn hn r k=>?_,h.pn,h.ps,λm hm=>(hh m hm).trans (h.hl m hm),hz,h.rd,h.wt⟩;obtain⟨a,b⟩:=h.nd n hn r k;refine⟨a,?_⟩;rw[hk _ a ?_]
 .exact b
 .rw[h.hl _ a];have d:=Fx.rD (T:=T) (k:=1) (m:=(T n).num) hn;have e:=Fx.nM r;rw[k]at e;omega
theorem WX.zc(h:WX xx T F S)(h1:∀m,m<8->(R m).reads=(S m).reads/\(R m).writes=(S m).writes):WX xx T F R:=
 ⟨h.no,h.kd,h.nd,h.pn,h.ps,h.hl,h.z0,λm hm=>(h1 m hm).1.trans (h.rd m hm),λm hm=>(h1 m hm).2.trans (h.wt m hm)⟩
theorem WX.kU(h:WX xx T F S)(hn:n<24)(r:(T n).refs≠0)(x:Fi)(h1:x.refs≠0)(h2:x.kind=(T n).kind)(h3:x.num=(T n).num)(h4:x.pos<=40):WX xx (Fx.put T n x) F S:=by
 have cc:∀k m,Fx.cK (Fx.put T n x) k m 24=Fx.cK T k m 24:=λk m=>by
  have:=Fx.yH T x k m hn;rw[Fx.Og h1 r h2 h3]at this;omega
 refine⟨λm hm e=>?_,λm hm e=>?_,λm hm e k=>?_,λm hm e k=>?_,λm hm=>?_,λm hm=>by rw[cc 1 m];exact h.hl m hm,h.z0,λm hm=>(h.rd m hm).trans (cc 2 m).symm,λm hm=>(h.wt m hm).trans (cc 3 m).symm⟩
 .by_cases c:m=n
  .subst c;rw[Fx.bG]at e;exact aZ e h1
  .rw[Fx.bO _ _ _ _ c]at e|-;exact h.no m hm e
 .by_cases c:m=n
  .subst c;rw[Fx.bG,h2];exact h.kd m hm r
  .rw[Fx.bO _ _ _ _ c]at e|-;exact h.kd m hm e
 .by_cases c:m=n
  .subst c;rw[Fx.bG]at k|-;rw[h3];exact h.nd m hm r (by rw[<-h2];exact k)
  .rw[Fx.bO _ _ _ _ c]at e k|-;exact h.nd m hm e k
 .by_cases c:m=n
  .subst c;rw[Fx.bG]at k|-;rw[h3];exact h.pn m hm r (by rw[<-h2];exact k)
  .rw[Fx.bO _ _ _ _ c]at e k|-;exact h.pn m hm e k
 .by_cases c:m=n
  .subst c;rw[Fx.bG];exact h4
  .rw[Fx.bO _ _ _ _ c];exact h.ps m hm
theorem WX.node(h:WX xx T F S){wr:Bool}(hl:Fx.uD T K)(hz:Tr.cL F (z:Int) 1=0):WX xx (Fx.put T K ⟨1,z,wr,0,1⟩) (Tr.dK F (z:Int)) S:=by
 obtain⟨n,e,n40,_,k1⟩:=Tr.fB hz;obtain rfl:z=n:=bB
 have ne:Tr.cH F (z:Int)=0:=by
  unfold Tr.cH;rw[hU,nK,nK]
 have eh:Tr.dK F (z:Int)=F.put z {F.nd z with held:=(F.nd z).held+1}:=by unfold Tr.dK;rw[aJ ne,hU]
 have cc:∀k m,Fx.cK (Fx.put T K ⟨1,z,wr,0,1⟩) k m 24=Fx.cK T k m 24+if k=1/\m=z then 1 else 0:=λk m=>by
  have:=Fx.yH T ⟨1,z,wr,0,1⟩ k m hl.1;rw[Fx.xu hl.2.1]at this;have e2:Fx.hit ⟨1,z,wr,0,1⟩ k m=if k=1/\m=z then 1 else 0:=by
   unfold Fx.hit;grind
  omega
 have kk:∀m,((F.put z {F.nd z with held:=(F.nd z).held+1}).nd m).kind=(F.nd m).kind:=λm=>by
  by_cases c:m=z
  .subst c;rw[Tr.bG]
  .rw[Tr.bO _ _ _ _ c]
 rw[eh];refine⟨λm hm e=>?_,λm hm e=>?_,λm hm e k=>?_,λm hm e k=>?_,λm hm=>?_,λm hm=>?_,λm hm e=>?_,λm hm=>?_,λm hm=>?_⟩
 .by_cases c:m=K
  .subst c;rw[Fx.bG]at e;exact aZ e (Nat.succ_ne_zero 0)
  .rw[Fx.bO _ _ _ _ c]at e|-;exact h.no m hm e
 .by_cases c:m=K
  .subst c;rw[Fx.bG];exact .inl rfl
  .rw[Fx.bO _ _ _ _ c]at e|-;exact h.kd m hm e
 .rw[kk];by_cases c:m=K
  .subst c;rw[Fx.bG];exact⟨n40,k1⟩
  .rw[Fx.bO _ _ _ _ c]at e k|-;exact h.nd m hm e k
 .by_cases c:m=K
  .subst c;rw[Fx.bG]at k;exact aZ rfl k
  .rw[Fx.bO _ _ _ _ c]at e k|-;exact h.pn m hm e k
 .by_cases c:m=K
  .subst c;rw[Fx.bG];exact aC _
  .rw[Fx.bO _ _ _ _ c];exact h.ps m hm
 .rw[cc];by_cases c:m=z
  .subst c;rw[Tr.bG,aJ ⟨rfl,rfl⟩];show(F.nd m).held+1=_;rw[h.hl m hm];omega
  .rw[Tr.bO _ _ _ _ c,aI (λd=>c d.2)];exact h.hl m hm
 .rw[kk]at e;by_cases c:m=z
  .subst c;omega
  .rw[Tr.bO _ _ _ _ c];exact h.z0 m hm e
 .rw[cc,aI (λd=>aZ d.1 bE)];exact h.rd m hm
 .rw[cc,aI (λd=>aZ d.1 bE)];exact h.wt m hm
theorem WX.gone(h:WX xx T F S)(hn:n<24)(r:(T n).refs≠0):WX xx (Fx.put T n Fi.no) (Fx.uU F (T n)) (Fx.uV S (T n)):=by
 have cc:∀k m,Fx.cK (Fx.put T n Fi.no) k m 24+Fx.hit (T n) k m=Fx.cK T k m 24:=λk m=>by
  have:=Fx.yH T Fi.no k m hn;rw[Fx.TF]at this;omega
 have no:∀m,m<24->(Fx.put T n Fi.no m).refs=0->Fx.put T n Fi.no m=Fi.no:=λm hm e=>by
  by_cases c:m=n
  .subst c;rw[Fx.bG]
  .rw[Fx.bO _ _ _ _ c]at e|-;exact h.no m hm e
 have up:∀m,m<24->(Fx.put T n Fi.no m).refs≠0->m≠n/\Fx.put T n Fi.no m=T m:=λm hm e=>by
  by_cases c:m=n
  .subst c;rw[Fx.bG]at e;exact aZ rfl e
  .exact⟨c,Fx.bO _ _ _ _ c⟩
 have ps:∀m,m<24->(Fx.put T n Fi.no m).pos<=40:=λm hm=>by
  by_cases c:m=n
  .subst c;rw[Fx.bG];exact aC _
  .rw[Fx.bO _ _ _ _ c];exact h.ps m hm
 by_cases k:(T n).kind=1
 .obtain⟨a,b⟩:=h.nd n hn r k;have le:=h.letE hn r k;have h1:=Fx.nM r;rw[k]at h1;have fP:∀m q,q≠1\/m≠(T n).num->Fx.cK (Fx.put T n Fi.no) q m 24=Fx.cK T q m 24:=λm q d=>by
   have:=cc q m;have e0:Fx.hit (T n) q m=0:=aI (λe=>by
    rcases d with d|d
    .exact d (by rw[<-e.2.1,k])
    .exact d e.2.2.symm)
   omega
  have own:=cc 1 (T n).num;have e1:Fx.uU F (T n)=Tr.dC F ((T n).num:Int):=aJ k;have e2:Fx.uV S (T n)=S:=aJ k;rw[e1,e2];generalize hm0:(T n).num=m0 at*;have hl0:=h.hl m0 a;have eT:Tr.dC F (m0:Int)=Tr.mM (F.put m0 {F.nd m0 with held:=(F.nd m0).held-1}) m0:=by unfold Tr.dC;rw[aJ le,hU]
  rw[eT];by_cases sw:(F.nd m0).cW=0/\(F.nd m0).held-1=0
  .rw[Tr.Hn (by rw[Tr.bG];exact sw)];have nd:∀q,q≠m0->(((F.put m0 {F.nd m0 with held:=(F.nd m0).held-1}).put m0 Nd.no).nd q)=F.nd q:=λq hq=>by rw[Tr.bO _ _ _ _ hq,Tr.bO _ _ _ _ hq]
   refine⟨no,λm hm e=>?_,λm hm e k2=>?_,λm hm e k2=>?_,ps,λm hm=>?_,λm hm e=>?_,λm hm=>?_,λm hm=>?_⟩
   .have y:=(up m hm e).2;rw[y]at e|-;exact h.kd m hm e
   .obtain⟨x,y⟩:=up m hm e;rw[y]at e k2|-;obtain⟨p,q⟩:=h.nd m hm e k2;refine⟨p,?_⟩;by_cases c:(T m).num=m0
    .exfalso;have g:=Fx.rD (T:=Fx.put T n Fi.no) (k:=1) (m:=m0) hm;rw[y]at g;have g2:=Fx.nM e;rw[k2,c]at g2;omega
    .rw[nd _ c];exact q
   .have y:=(up m hm e).2;rw[y]at e k2|-;exact h.pn m hm e k2
   .by_cases c:m=m0
    .subst c;rw[Tr.bG];show 0=_;omega
    .rw[nd _ c,fP m 1 (.inr c)];exact h.hl m hm
   .by_cases c:m=m0
    .subst c;rw[Tr.bG];rfl
    .rw[nd _ c]at e|-;exact h.z0 m hm e
   .rw[fP m 2 (.inl bE)];exact h.rd m hm
   .rw[fP m 3 (.inl bE)];exact h.wt m hm
  .rw[Tr.ES (by rw[Tr.bG];exact sw)];refine⟨no,λm hm e=>?_,λm hm e k2=>?_,λm hm e k2=>?_,ps,λm hm=>?_,λm hm e=>?_,λm hm=>?_,λm hm=>?_⟩
   .have y:=(up m hm e).2;rw[y]at e|-;exact h.kd m hm e
   .obtain⟨x,y⟩:=up m hm e;rw[y]at e k2|-;obtain⟨p,q⟩:=h.nd m hm e k2;refine⟨p,?_⟩;by_cases c:(T m).num=m0
    .rw[c,Tr.bG];exact b
    .rw[Tr.bO _ _ _ _ c];exact q
   .have y:=(up m hm e).2;rw[y]at e k2|-;exact h.pn m hm e k2
   .by_cases c:m=m0
    .subst c;rw[Tr.bG];show(F.nd m).held-1=_;omega
    .rw[Tr.bO _ _ _ _ c,fP m 1 (.inr c)];exact h.hl m hm
   .by_cases c:m=m0
    .subst c;rw[Tr.bG]at e;grind
    .rw[Tr.bO _ _ _ _ c]at e|-;exact h.z0 m hm e
   .rw[fP m 2 (.inl bE)];exact h.rd m hm
   .rw[fP m 3 (.inl bE)];exact h.wt m hm
 .have a:=h.pn n hn r k;have oe:=h.ib hn r k;have h1:=Fx.nM r;have fP:∀m q,q≠(T n).kind\/m≠(T n).num->Fx.cK (Fx.put T n Fi.no) q m 24=Fx.cK T q m 24:=λm q d=>by
   have:=cc q m;have e0:Fx.hit (T n) q m=0:=aI (λe=>by
    rcases d with d|d
    .exact d e.2.1.symm
    .exact d e.2.2.symm)
   omega
  have own:=cc (T n).kind (T n).num;have e1:Fx.uU F (T n)=F:=aI k;have e2:Fx.uV S (T n)=Pp.pW S ((T n).num:Int) (decide ((T n).kind=3)):=aI k;have hk:=h.kd n hn r;rw[e1,e2];have eD:Pp.pW S ((T n).num:Int) (decide ((T n).kind=3))=Pp.put S (T n).num (Pp.less (S (T n).num) (decide ((T n).kind=3))):=by unfold Pp.pW;rw[aJ oe,hU]
  have rl:=h.rd _ a;have wl:=h.wt _ a;rw[eD];have less:∀x:Pi,∀wr,(Pp.less x wr).reads=(Pp.mf x wr (Pp.kY x wr-1)).reads/\(Pp.less x wr).writes=(Pp.mf x wr (Pp.kY x wr-1)).writes:=λx wr=>by
   unfold Pp.less;split
   .exact⟨rfl,rfl⟩
   .rename_i c;have:Pp.jL (Pp.mf x wr (Pp.kY x wr-1))=bA:=by simpa using c
    have:=of_decide_eq_false this;exact⟨by show 0=_;omega,by show 0=_;omega⟩
  refine⟨no,λm hm e=>?_,λm hm e k2=>?_,λm hm e k2=>?_,ps,λm hm=>?_,h.z0,λm hm=>?_,λm hm=>?_⟩
  .have y:=(up m hm e).2;rw[y]at e|-;exact h.kd m hm e
  .have y:=(up m hm e).2;rw[y]at e k2|-;exact h.nd m hm e k2
  .have y:=(up m hm e).2;rw[y]at e k2|-;exact h.pn m hm e k2
  .rw[fP m 1 (.inl (λd=>k d.symm))];exact h.hl m hm
  .by_cases c:m=(T n).num
   .rw[c,Pp.bG,(less _ _).1];rcases hk with d|d|d
    .exact aZ d k
    .rw[d]at own h1|-;show(S (T n).num).reads-1=_;omega
    .rw[fP _ 2 (.inl bB)];rw[d];exact rl
   .rw[Pp.bO _ _ _ _ c,fP m 2 (.inr c)];exact h.rd m hm
  .by_cases c:m=(T n).num
   .rw[c,Pp.bG,(less _ _).2];rcases hk with d|d|d
    .exact aZ d k
    .rw[fP _ 3 (.inl bB)];rw[d];exact wl
    .rw[d]at own h1|-;show(S (T n).num).writes-1=_;omega
   .rw[Pp.bO _ _ _ _ c,fP m 3 (.inr c)];exact h.wt m hm
end
section
variable {xx:Nat->Nat}{T:Nat->Fi}{F G:Fo}{S:Nat->Pi}
theorem WX.entry(h:WX xx T F S)(hl:Fx.uD T K)(hq:q=2\/q=3)(n8:n<8)(h2:∀m,m<8->(R m).reads=(S m).reads+if q=2/\m=n then 1 else 0)(h3:∀m,m<8->(R m).writes=(S m).writes+if q=3/\m=n then 1 else 0):WX xx (Fx.put T K ⟨q,n,bA,0,1⟩) F R:=by
 have cc:∀k m,Fx.cK (Fx.put T K ⟨q,n,bA,0,1⟩) k m 24=Fx.cK T k m 24+if k=q/\m=n then 1 else 0:=λk m=>by
  have:=Fx.yH T ⟨q,n,bA,0,1⟩ k m hl.1;rw[Fx.xu hl.2.1]at this;grind [Fx.cK,Fx.yH,Fx.xu,Fx.hit]
 refine⟨λm hm e=>?_,λm hm e=>?_,λm hm e k=>?_,λm hm e k=>?_,λm hm=>?_,λm hm=>?_,h.z0,λm hm=>?_,λm hm=>?_⟩
 .by_cases c:m=K
  .subst c;rw[Fx.bG]at e;exact aZ e (Nat.succ_ne_zero 0)
  .rw[Fx.bO _ _ _ _ c]at e|-;exact h.no m hm e
 .by_cases c:m=K
  .subst c;rw[Fx.bG];exact .inr hq
  .rw[Fx.bO _ _ _ _ c]at e|-;exact h.kd m hm e
 .by_cases c:m=K
  .subst c;rw[Fx.bG]at k;have:q=1:=k;omega
  .rw[Fx.bO _ _ _ _ c]at e k|-;exact h.nd m hm e k
 .by_cases c:m=K
  .subst c;rw[Fx.bG];exact n8
  .rw[Fx.bO _ _ _ _ c]at e k|-;exact h.pn m hm e k
 .by_cases c:m=K
  .subst c;rw[Fx.bG];exact aC _
  .rw[Fx.bO _ _ _ _ c];exact h.ps m hm
 .rw[cc,nK];exact h.hl m hm
 .rw[cc,h2 m hm,h.rd m hm];by_cases c:q=2/\m=n
  .rw[aJ c,aJ ⟨c.1.symm,c.2⟩]
  .rw[aI c,aI (λd=>c ⟨d.1.symm,d.2⟩)]
 .rw[cc,h3 m hm,h.wt m hm];by_cases c:q=3/\m=n
  .rw[aJ c,aJ ⟨c.1.symm,c.2⟩]
  .rw[aI c,aI (λd=>c ⟨d.1.symm,d.2⟩)]
theorem WX.pipe(h:WX xx T F S)(hf:Pp.gK S n 0)(h1:Fx.uD T a)(h2:Fx.uD (Fx.put T a ⟨2,n,bA,0,1⟩) c):WX xx (Fx.put (Fx.put T a ⟨2,n,bA,0,1⟩) c ⟨3,n,bA,0,1⟩) F (Pp.jQ S n 0):=by
 have n8:n<8/\Pp.jL (S n)=bA:=by
  rcases hf with⟨_,x,y,_⟩|⟨x,_⟩
  .exact⟨x,y⟩
  omega
 have z:(S n).reads=0/\(S n).writes=0:=by
  have:=n8.2;have:=of_decide_eq_false this;omega
 have eM:Pp.jQ S n 0=Pp.put S n ⟨⟨#[]⟩,1,1⟩:=aJ rfl;rw[eM];have s1:=h.entry (q:=2) (R:=Pp.put S n ⟨⟨#[]⟩,1,0⟩) h1 (.inl rfl) n8.1 (λm hm=>by
  by_cases d:m=n
  .subst d;rw[Pp.bG,aJ ⟨rfl,rfl⟩,z.1]
  .rw[Pp.bO _ _ _ _ d,aI (λe=>d e.2)];rfl) (λm hm=>by
  rw[aI (λe=>aZ e.1 bE)];by_cases d:m=n
  .subst d;rw[Pp.bG,z.2]
  .rw[Pp.bO _ _ _ _ d];rfl)
 refine s1.entry (q:=3) h2 (.inr rfl) n8.1 (λm hm=>?_) (λm hm=>?_)
 .rw[aI (λe=>aZ e.1 bE)];by_cases d:m=n
  .subst d;rw[Pp.bG,Pp.bG]
  .rw[Pp.bO _ _ _ _ d,Pp.bO _ _ _ _ d];rfl
 .by_cases d:m=n
  .subst d;rw[Pp.bG,Pp.bG,aJ ⟨rfl,rfl⟩]
  .rw[Pp.bO _ _ _ _ d,Pp.bO _ _ _ _ d,aI (λe=>d e.2)];rfl
theorem WX.Lm{k:Nat}(F:Fo)(m:Nat):((Tr.lB F n s k).nd m).held=(F.nd m).held/\((Tr.lB F n s k).nd m).kind=(F.nd m).kind:=by
 have one:∀m,((F.put n (Tr.jg (F.nd n) s k)).nd m).held=(F.nd m).held/\((F.put n (Tr.jg (F.nd n) s k)).nd m).kind=(F.nd m).kind:=λm=>by
  by_cases c:m=n
  .subst c;rw[Tr.bG];exact⟨rfl,rfl⟩
  .rw[Tr.bO _ _ _ _ c];exact⟨rfl,rfl⟩
 unfold Tr.lB;split
 .by_cases c:m=k
  .subst c;rw[Tr.bG];exact one m
  .rw[Tr.bO _ _ _ _ c];exact one m
 .exact one m
theorem WX.T7(h:WX xx T F S){z kz:Int}(hm:Tr.tf F z s kz K E G):WX xx T G S:=by
 rcases hm with⟨_,_,_,_,rfl⟩|⟨kk,e,_,⟨_,_,_,rfl⟩|⟨_,k,e2,hf,⟨_,_,_,rfl⟩|⟨e0,_,_,rfl⟩⟩⟩
 .exact h
 .exact h
 .exact h
 .obtain⟨k40,k0⟩:k<40/\(F.nd k).kind=0:=by
   rcases hf with⟨_,x,y,_⟩|⟨x,_⟩
   .exact⟨x,y⟩
   .omega
  have hk:=h.z0 k k40 k0;have kz0:kz.toNat≠0:=bB
  have cut:∀m,((Tr.jQ F z.toNat s kz.toNat k).nd m).held=(F.nd m).held/\(((Tr.jQ F z.toNat s kz.toNat k).nd m).kind=if m=k then kz.toNat else(F.nd m).kind):=λm=>by
   unfold Tr.jQ;obtain⟨x,y⟩:=WX.Lm (n:=z.toNat) (k:=k) (s:=s) (F.put k (fq kz.toNat (F.nd z.toNat).tree 0)) m;rw[x,y];by_cases c:m=k
   .subst c;rw[Tr.bG,aJ rfl];exact⟨hk.symm,rfl⟩
   .rw[Tr.bO _ _ _ _ c,aI c];exact⟨rfl,rfl⟩
  refine h.sH (λm _=>(cut m).1) (λm hm hh=>?_) (λm hm e=>?_)
  .rw[(cut m).2,aI (λc=>by subst c;exact hh hk)]
  .rw[(cut m).2]at e;rw[(cut m).1];by_cases c:m=k
   .rw[aJ c]at e;exact aZ e kz0
   .rw[aI c]at e;exact h.z0 m hm e
theorem WX.rem(h:WX xx T F S){z:Int}(hm:Tr.yy F z s E G):WX xx T G S:=by
 obtain⟨K,e,_,⟨_,_,rfl⟩|⟨_,⟨_,_,_,rfl⟩|⟨_,_,i,_,rfl⟩⟩⟩:=hm
 .exact h
 .exact h
 .have one:∀m,(((F.put z.toNat (Tr.eX (F.nd z.toNat) i)).put K {(F.put z.toNat (Tr.eX (F.nd z.toNat) i)).nd K with cW:=(F.nd K).cW-1}).nd m).held=(F.nd m).held/\(((F.put z.toNat (Tr.eX (F.nd z.toNat) i)).put K {(F.put z.toNat (Tr.eX (F.nd z.toNat) i)).nd K with cW:=(F.nd K).cW-1}).nd m).kind=(F.nd m).kind:=λm=>by
   have two:((F.put z.toNat (Tr.eX (F.nd z.toNat) i)).nd m).held=(F.nd m).held/\((F.put z.toNat (Tr.eX (F.nd z.toNat) i)).nd m).kind=(F.nd m).kind:=by
    by_cases c:m=z.toNat
    .subst c;rw[Tr.bG];exact⟨rfl,rfl⟩
    .rw[Tr.bO _ _ _ _ c];exact⟨rfl,rfl⟩
   by_cases c:m=K
   .subst c;rw[Tr.bG];exact two
   .rw[Tr.bO _ _ _ _ c];exact two
  unfold Tr.xK Tr.mM;split
  .rename_i c;refine h.sH (λm hm=>?_) (λm hm hh=>?_) (λm hm e=>?_)
   .by_cases d:m=K
    .subst d;rw[Tr.bG,<-(one m).1,c.2];rfl
    .rw[Tr.bO _ _ _ _ d];exact(one m).1
   .by_cases d:m=K
    .subst d;rw[<-(one m).1]at hh;exact aZ c.2 hh
    .rw[Tr.bO _ _ _ _ d];exact(one m).2
   .by_cases d:m=K
    .subst d;rw[Tr.bG];rfl
    .rw[Tr.bO _ _ _ _ d]at e|-;rw[(one m).2]at e;rw[(one m).1];exact h.z0 m hm e
  .refine h.sH (λm hm=>(one m).1) (λm hm _=>(one m).2) (λm hm e=>?_);rw[(one m).2]at e;rw[(one m).1];exact h.z0 m hm e
theorem WX.zN(h:WX xx T F S)(z a:Int)(s:bU):WX xx T (Tr.eV F z a s) S:=by
 unfold Tr.eV;split
 .have one:∀m,((F.put z.toNat (Tr.A8 (F.nd z.toNat) a.toNat s)).nd m).held=(F.nd m).held/\((F.put z.toNat (Tr.A8 (F.nd z.toNat) a.toNat s)).nd m).kind=(F.nd m).kind:=λm=>by
   by_cases c:m=z.toNat
   .subst c;rw[Tr.bG];exact⟨rfl,rfl⟩
   .rw[Tr.bO _ _ _ _ c];exact⟨rfl,rfl⟩
  refine h.sH (λm hm=>(one m).1) (λm hm _=>(one m).2) (λm hm e=>?_);rw[(one m).2]at e;rw[(one m).1];exact h.z0 m hm e
 .exact h
theorem WX.Ul(h:WX xx T F S)(z m:Int):WX xx T F (Pp.oT S z m):=by
 unfold Pp.oT;split
 .refine h.zc (λq hq=>?_);by_cases c:q=z.toNat
  .subst c;rw[Pp.bG];exact⟨rfl,rfl⟩
  .rw[Pp.bO _ _ _ _ c];exact⟨rfl,rfl⟩
 .exact h
theorem WX.VK(h:WX xx T F S)(z:Int)(s:bU):WX xx T F (Pp.eV S z s):=by
 unfold Pp.eV;split
 .refine h.zc (λq hq=>?_);by_cases c:q=z.toNat
  .subst c;rw[Pp.bG];exact⟨rfl,rfl⟩
  .rw[Pp.bO _ _ _ _ c];exact⟨rfl,rfl⟩
 .exact h
end
open Mo (Wh Mt)
open Mv (Me Bk)
open Sg (S1)
open Kn (Pr Kp St us KB)
namespace Kn
def lE(k:Kp)(m:Nat):Nat->Nat
 |0=>0
 |s+1=>lE k m s+if k.ht s=bw then Mo.tc (k.tb s) m else 0
def jR(k:Kp)(m:Nat):Nat:=lE k m 6
structure KJ (X:Nat->Prop)(N:Nat)(k:Kp):Prop where
 sp:∃d,Sp.Inv k.sp d
 gr:∃Wy,Gr.Tree k.gr Wy N
 me:Mv.fX k.bk 20 (λn=>(k.p n).mem)
 wx:WX (jR k) k.fi k.fo k.pi
 rf:∀n,n<24->(k.fi n).refs<=8*N
 ok:Tr.Ok k.fo
 tb:∀s,s<6->k.ht s=bw->Mo.Rg (k.tb s)/\(k.tb s).ms.length<=6
 st:∀n,n<20->(k.p n).st<=2
 hs:∀n,n<20->(k.p n).has=bw->(k.p n).st=1
 lv:∀n,n<20->¬X n->(k.p n).st=1->(k.p n).has=bw
 of:∀n,n<20->(k.sp.of n≠0↔(k.p n).st≠0)
 ht:∀s,s<6->k.ht s=k.sp.here s
 nm:∀n,n<20->(k.p n).has=bA->(k.p n).mem=Mv.lL
theorem Ho{k:Kp}(h:∀s,s<6->k.ht s=bw->Mo.Rg (k.tb s)/\(k.tb s).ms.length<=6)(m:Nat):∀s,s<=6->lE k m s<=13*s
 |0,_=>aL 0
 |s+1,hs=>by
  have ih:=Ho h m s bB;show lE k m s+_<=_;by_cases c:k.ht s=bw
  .rw[aJ c];have:=Mo.Vc (k.tb s) (h s bB c).2 m;omega
  .rw[aI c];omega
section
variable {X:Nat->Prop}{N:Nat}{k:Kp}
theorem KJ.tx(h:KJ X N k)(m:Nat):jR k m<=78:=Ho h.tb m 6 (aL _)
theorem KJ.sm(h:KJ X N k):Fx.Sm k.fo k.pi:=h.wx.sm (λm _=>by have:=h.tx m;omega)
theorem KJ.hb(h:KJ X N k):Tr.Hb k.fo 102:=λn hn=>by
 rw[h.wx.hl n hn];have:=Fx.tC k.fi 1 n 24;have:=h.tx n;omega
theorem KJ.mono(h:KJ X N k){Y:Nat->Prop}{M:Nat}(hX:∀n,n<20->X n->Y n)(hM:N<=M):KJ Y M k:=
 ⟨h.sp,(by obtain⟨Wy,g⟩:=h.gr;exact⟨Wy,g.mono hM⟩),h.me,h.wx,λn hn=>by have:=h.rf n hn;omega,h.ok,h.tb,h.st,h.hs,λn hn hx=>h.lv n hn (λc=>hx (hX n hn c)),h.of,h.ht,h.nm⟩
theorem KJ.Ed(h:KJ X N k){x:Pr}(h1:x.st=(k.p n).st)(h2:x.has=(k.p n).has)(h3:x.mem=(k.p n).mem):KJ X N (k.put n x):=by
 have e:∀m,((k.put n x).p m).st=(k.p m).st/\((k.put n x).p m).has=(k.p m).has/\((k.put n x).p m).mem=(k.p m).mem:=λm=>by
  by_cases c:m=n
  .subst c;rw[bG];exact⟨h1,h2,h3⟩
  .rw[bO _ _ _ _ c];exact⟨rfl,rfl,rfl⟩
 exact⟨h.sp,h.gr,by rw[show(λm=>((k.put n x).p m).mem)=λm=>(k.p m).mem from funext λm=>(e m).2.2];exact h.me,h.wx,h.rf,h.ok,h.tb,λm hm=>by rw[(e m).1];exact h.st m hm,λm hm=>by rw[(e m).1,(e m).2.1];exact h.hs m hm,λm hm=>by rw[(e m).1,(e m).2.1];exact h.lv m hm,λm hm=>by rw[(e m).1];exact h.of m hm,h.ht,λm hm=>by rw[(e m).2.1,(e m).2.2];exact h.nm m hm⟩
def dj(k:Kp)(n:Nat)(a m:Int):Kp:=if Mv.oF a m=0 then{cY k n (Mv.jM (k.p n).mem a m) (Mv.ml (k.p n).mem k.bk a m)with gr:=Gr.dD k.gr (k.p n).cD 0 (Mv.qa (k.p n).mem a m:Int)}else k
def sy(k:Kp)(n:Nat)(a m:Int):Int:=if Mv.oF a m=0 then Gr.gm k.gr (k.p n).cD 0 (Mv.qa (k.p n).mem a m:Int)else Mv.oF a m
theorem oX{t:Nat->Gr.Gp}{Wy:Nat->List (Fin 10)}(h:Gr.Tree t Wy c)(g p q:Int):Gr.Tree (Gr.dD t g p q) Wy c:=by
 unfold Gr.dD;by_cases e:Gr.gm t g p q=0
 .rw[aJ e];have hr:Gr.eQ t g p q=0:=by
   unfold Gr.gm at e;by_cases r:Gr.eQ t g p q=0
   .exact r
   .rw[aI r]at e;exact aZ e r
  obtain⟨n,rfl,hn,hh,hp,hq⟩:=Gr.ma hr;rw[hU];unfold Gr.gm at e;rw[aJ hr,hU]at e;have o:=h.own n hn;obtain⟨hp,hq⟩:=Gr.oU hr;by_cases l:p<=(t n).op/\q<=(t n).oq
  .exact h.gq (aL _) ⟨by omega,bB⟩ ⟨by omega,bB⟩
  .rw[aI l]at e;omega
 .rw[aI e];exact h
theorem KJ.kv(h:KJ X N k){t:Nat->Gr.Gp}(g:∃Wy,Gr.Tree t Wy N):KJ X N {k with gr:=t}:=⟨h.sp,g,h.me,h.wx,h.rf,h.ok,h.tb,h.st,h.hs,h.lv,h.of,h.ht,h.nm⟩
theorem KJ.cY(h:KJ X N k){n:Nat}{m:Me}{b:Bk}(hn:n<20)(hh:(k.p n).has=bw)(w:Mv.fX b 20 (Mv.kE (λn=>(k.p n).mem) n m)):KJ X N (cY k n m b):=by
 have e:∀j,((Kn.cY k n m b).p j).st=(k.p j).st/\((Kn.cY k n m b).p j).has=(k.p j).has:=λj=>by
  by_cases c:j=n
  .subst c;rw[show(Kn.cY k j m b).p j={k.p j with mem:=m}from bG _ _ _];exact⟨rfl,rfl⟩
  .rw[show(Kn.cY k n m b).p j=k.p j from bO _ _ _ _ c];exact⟨rfl,rfl⟩
 have e2:(λj=>((Kn.cY k n m b).p j).mem)=Mv.kE (λn=>(k.p n).mem) n m:=funext λj=>by
  by_cases c:j=n
  .subst c;rw[show(Kn.cY k j m b).p j={k.p j with mem:=m}from bG _ _ _,Mv.gC]
  .rw[show(Kn.cY k n m b).p j=k.p j from bO _ _ _ _ c,Mv.jz _ _ _ _ c]
 exact⟨h.sp,h.gr,by rw[e2];exact w,h.wx,h.rf,h.ok,h.tb,λm hm=>by rw[(e m).1];exact h.st m hm,λm hm=>by rw[(e m).1,(e m).2];exact h.hs m hm,λm hm=>by rw[(e m).1,(e m).2];exact h.lv m hm,λm hm=>by rw[(e m).1];exact h.of m hm,h.ht,λj hj=>by
  by_cases c:j=n
  .subst c;intro q;rw[(e j).2,hh]at q;cases q
  .rw[show(Kn.cY k n m b).p j=k.p j from bO _ _ _ _ c];exact h.nm j hj⟩
theorem KJ.vF(h:KJ X N k)(hn:n<20)(hh:(k.p n).has=bw)(a m:Int):KJ X N (dj k n a m):=by
 unfold dj;by_cases c:Mv.oF a m=0
 .rw[aJ c];have w:Mv.fX (Mv.ml (k.p n).mem k.bk a m) 20 (Mv.kE (λn=>(k.p n).mem) n (Mv.jM (k.p n).mem a m)):=by
   unfold Mv.oF at c;unfold Mv.ml Mv.jM;cases hb:Mv.lu a m
   .obtain⟨x,j,rfl,rfl,hx,h1,h2⟩:=Mv.sE hb;rw[aI bE,aI bE,hU,hU];exact h.me.Qy (i:=n) hn j h2
   .rw[hb,aJ rfl]at c;omega
  refine(h.cY hn hh w).kv ?_;obtain⟨Wy,g⟩:=h.gr;exact⟨Wy,oX g _ _ _⟩
 .rw[aI c];exact h
def gS(k:Kp)(z:Int):Kp:={k with fi:=Fx.lQ k.fi z,fo:=Fx.tG k.fi k.fo z,pi:=Fx.qE k.fi k.pi z}
theorem KJ.Ke(h:KJ X N k)(z:Int):KJ X N (gS k z):=by
 have key:WX (jR k) (Fx.lQ k.fi z) (Fx.tG k.fi k.fo z) (Fx.qE k.fi k.pi z)/\(∀n,n<24->(Fx.lQ k.fi z n).refs<=(k.fi n).refs)/\Tr.Ok (Fx.tG k.fi k.fo z):=by
  unfold Fx.lQ Fx.tG Fx.qE;by_cases c:Fx.dg k.fi z=0
  .obtain⟨n,rfl,hn,r⟩:=Fx.iX c;rw[hU,aJ c];by_cases d:(k.fi n).refs=1
   .rw[aJ d,aJ ⟨c,d⟩,aJ ⟨c,d⟩];refine⟨h.wx.gone hn r,λm _=>?_,?_⟩
    .by_cases e:m=n
     .subst e;rw[Fx.bG];exact aC _
     .rw[Fx.bO _ _ _ _ e];exact aL _
    .unfold Fx.uU;split
     .exact h.ok.dC _
     .exact h.ok
   .rw[aI d,aI (λe=>d e.2),aI (λe=>d e.2)];refine⟨h.wx.kU hn r _ (by show(k.fi n).refs-1≠0;omega) rfl rfl (h.wx.ps n hn),λm _=>?_,h.ok⟩;by_cases e:m=n
    .subst e;rw[Fx.bG];show(k.fi m).refs-1<=_;omega
    .rw[Fx.bO _ _ _ _ e];exact aL _
  .rw[aI c,aI (λe=>c e.1),aI (λe=>c e.1)];exact⟨h.wx,λ_ _=>aL _,h.ok⟩
 exact⟨h.sp,h.gr,h.me,key.1,λn hn=>aH (key.2.1 n hn) (h.rf n hn),key.2.2,h.tb,h.st,h.hs,h.lv,h.of,h.ht,h.nm⟩
def cV(k:Kp)(n:Nat)(fd:Nat->Int):Nat->Kp
 |0=>k
 |j+1=>if fd j= -1 then cV k n fd j else eJ (gS (cV k n fd j) (fd j)) n j (-1)
theorem KJ.cV(h:KJ X N k)(n:Nat)(fd:Nat->Int):∀j,KJ X N (cV k n fd j)
 |0=>h
 |j+1=>by
  show KJ X N (if fd j= -1 then _ else _);split
  .exact h.cV n fd j
  .exact((h.cV n fd j).Ke _).Ed rfl rfl rfl
theorem sX(k:Kp)(n:Nat)(fd:Nat->Int):∀j m,((cV k n fd j).p m).st=(k.p m).st/\((cV k n fd j).p m).has=(k.p m).has/\((cV k n fd j).p m).mem=(k.p m).mem/\((cV k n fd j).p m).box=(k.p m).box/\((cV k n fd j).p m).cD=(k.p m).cD/\((cV k n fd j).p m).par=(k.p m).par/\((cV k n fd j).p m).code=(k.p m).code
 |0,_=>⟨rfl,rfl,rfl,rfl,rfl,rfl,rfl⟩
 |j+1,m=>by
  have ih:=sX k n fd j;show(((if fd j= -1 then Kn.cV k n fd j else eJ (gS (Kn.cV k n fd j) (fd j)) n j (-1)):Kp).p m).st=_/\_;by_cases c:fd j= -1
  .have e:Kn.cV k n fd (j+1)=Kn.cV k n fd j:=aJ c;rw[aJ c,e];exact ih m
  .have e:Kn.cV k n fd (j+1)=eJ (gS (Kn.cV k n fd j) (fd j)) n j (-1):=aI c;rw[aI c,e];unfold eJ;by_cases d:m=n
   .subst d;rw[bG];exact ih m
   .rw[bO _ _ _ _ d];exact ih m
end
def qX(k:Kp)(n:Nat)(m':Wf.M):Kp:=
 let k1:=cV (dj k n 0 16) n (k.p n).fd 6
 {k1 with sc:=m'}.put n {k1.p n with has:=false,mem:=Mv.lL,box:=Sg.fW}
def fY(k:Kp)(n:Nat)(k':Kp):Prop:=∃m',Wf.JP k.sc n m'/\k'=qX k n m'
end Kn
open Kn (Pr Kp St us KB KJ)
theorem Kn.jj(k:Kp)(n:Nat)(m:Me)(b:Bk):(Kn.cY k n m b).p n={k.p n with mem:=m}:=Kn.bG _ _ _
section
variable (Wr:Nat)(s:St)(w:bD)
theorem y9(n:Nat)(a m:Int)(h:bP w Wr s)(hn:n<20)(hh:(s.k.p n).has=bw)(C:Mv.yo (s.k.p n).mem s.k.bk)(hS:Gr.Small s.k.gr):
  Calls prog 78 #[ai (bj ⟨s.A 0,0,bu⟩),ai (bj ⟨s.A 0,n*12,bu⟩),aa az a,aa az m] w λe w'=>e=bf (bN (Kn.sy s.k n a m))/\bP w' Wr {s with k:=Kn.dj s.k n a m}/\KF s w {s with k:=Kn.dj s.k n a m} w':=by
 have c4:=h.rX n hn hh;have UM:=hZ (JK (s.A (9+n)) (s.A 4) (s.A 5) a m (s.k.p n).mem s.k.bk w (h.ub hn hh) C);obtain⟨kb,hkb⟩:=nJ (s.A 0);have HK:=hZ hkb;have H:=hZ h;have HS:=hZ hS;have HH:=hZ hh;rw[hkb]at c4|-;by_cases c:Mv.oF a m=0
 .have E:Hid (Kn.sy s.k n a m=Gr.gm s.k.gr (s.k.p n).cD 0 (Mv.qa (s.k.p n).mem a m:Int)/\Kn.dj s.k n a m={Kn.cY s.k n (Mv.jM (s.k.p n).mem a m) (Mv.ml (s.k.p n).mem s.k.bk a m)with gr:=Gr.dD s.k.gr (s.k.p n).cD 0 (Mv.qa (s.k.p n).mem a m:Int)}):=hZ ⟨aJ c,aJ c⟩;rw[c]at UM;go_in
  go_wp2_with fail
  refine sC UM.v ?_;rintro w1 ⟨u1,f1⟩;have S1:=hZ (H.zl hn HH.v u1 f1);rw[bF];go_upto_region 4 with fail
  have KF1:Hid (∀W,bP W Wr {s with k:=Kn.cY s.k n (Mv.jM (s.k.p n).mem a m) (Mv.ml (s.k.p n).mem s.k.bk a m)}->W.cell? ⟨kb,247,bu⟩=bj (ai (bj ⟨s.A 2,0,bu⟩))/\W.cell? ⟨kb,n*12+2,bu⟩=bj (aa az (s.k.p n).cD)):=hZ (λW hW=>by
   have e1:=hW.pG;have e2:=hW.pU n hn;rw[Kn.jj]at e2;rw[<-HK.v];exact⟨e1,e2⟩)
  have K0:=hZ (KF1.v w1 S1.1);have UC:=hZ (Gr.iT (s.A 2) (s.k.p n).cD 0 (Mv.qa (s.k.p n).mem a m:Int) s.k.gr w1.drew S1.1.drew.gr HS.v);obtain⟨gz,hgz⟩:=nJ ((s.k.p n).cD);obtain⟨cz,hcz⟩:=nJ ((Mv.qa (s.k.p n).mem a m:Int));obtain⟨g2,hg2⟩:=nJ (s.A 2);rw[hgz,hcz,hg2]at UC;rw[hgz,hg2]at K0;rw[hcz];have HG:=hZ (aK hgz (aK hcz hg2));obtain⟨y1,y2⟩:=K0.v;go_region_held3 (λw'=>w'.cell? ⟨kb,247,bu⟩=bj (ai (bj ⟨g2,0,bu⟩))/\w'.cell? ⟨kb,n*12+2,bu⟩=bj (aa az gz)) (first|exact K0.v|exact K4.v) (
   (go_at_call 67;refine sC UC.v ?_;rintro w4 ⟨t4,f4⟩;have S4:Hid (bP w4 Wr {s with k:=Kn.dj s.k n a m}/\KF s w {s with k:=Kn.dj s.k n a m} w4):=hZ (by
     obtain⟨e1,e2,e3⟩:=HG.v;rw[<-e1,<-e2]at t4;rw[<-e3]at t4 f4;have q:=S1.1.drew.kv t4 f4.sW;rw[E.2];exact⟨q.1,S1.2.trans ((KF.drew _ _).trans q.2)⟩);have K4:Hid (w4.cell? ⟨kb,247,bu⟩=bj (ai (bj ⟨g2,0,bu⟩))/\w4.cell? ⟨kb,n*12+2,bu⟩=bj (aa az gz)):=hZ (by
     obtain⟨e1,e2,e3⟩:=HG.v;have q1:=S4.1.pG;have q2:=S4.1.pU n hn;rw[E.2]at q2;have q3:w4.cell? ⟨s.A 0,n*12+2,bu⟩=bj (aa az ((Kn.cY s.k n (Mv.jM (s.k.p n).mem a m) (Mv.ml (s.k.p n).mem s.k.bk a m)).p n).cD):=q2;rw[Kn.jj]at q3;rw[<-HK.v,<-e1,<-e3];exact⟨q1,q3⟩)))
  go_wp2
  go_ret
  obtain⟨e1,e2,e3⟩:=HG.v;rw[E.1,e1,e2];exact⟨rfl,S4.v⟩
 .have E:Hid (Kn.sy s.k n a m=Mv.oF a m/\Kn.dj s.k n a m=s.k):=hZ ⟨aI c,aI c⟩;have E2:=hZ (bM c);have M0:Hid (Mv.jM (s.k.p n).mem a m=(s.k.p n).mem/\Mv.ml (s.k.p n).mem s.k.bk a m=s.k.bk):=hZ (by
   unfold Mv.oF at c;unfold Mv.jM Mv.ml;cases hb:Mv.lu a m
   .rw[hb,aI bE]at c;exact aZ rfl c
   .rw[aJ rfl,aJ rfl];exact⟨rfl,rfl⟩)
  go_in
  go_wp2_with fail
  refine sC UM.v ?_;rintro w1 ⟨u1,f1⟩;have S1:Hid (bP w1 Wr s/\KF s w s w1):=hZ (by
   rw[M0.1,M0.2]at u1;have q:=H.zl hn HH.v u1 f1;have e:({s with k:=Kn.cY s.k n (s.k.p n).mem s.k.bk}:St)=s:=by
    have:Kn.cY s.k n (s.k.p n).mem s.k.bk=s.k:=by
     unfold Kn.cY Kp.put;have:(λm=>if m=n then{s.k.p n with mem:=(s.k.p n).mem}else s.k.p m)=s.k.p:=funext λm=>by
      by_cases c:m=n
      .rw[aJ c,c]
      .rw[aI c]
     rw[this]
    rw[this]
   rw[e]at q;exact q)
  rw[E2.v];generalize (Mv.qa (s.k.p n).mem a m:Int)=cz;go_wp2
  go_ret
  rw[E.1,E.2,E2.v];exact⟨rfl,S1.v⟩
end
def mJ(f:Nat->Int):Array Value:=((List.range 6).map λi=>aa az (f i)).toArray
theorem qI(f:Nat->Int):(mJ f).size=6:=by simp[mJ]
theorem Dn(f:Nat->Int)(i:Nat)(h:i<6):(mJ f)[i]? =bj (aa az (f i)):=by simp[mJ,h]
theorem xz(f:Nat->Int)(x:Nat)(h:x<6)(w:bD):Sem.run prog (Instr.index 72 (au (mJ f)) (aa az x)) w= .ok (aa az (f x)) w:=by
 have hu:prog.underlying 72=bj (.array 6 3):=by kernel_rfl
 have h1:(x:Int)<6:=bB
 simp[Instr.index,Sem.run_bind,run_underlying hu,go_sem];rw[aJ h,Dn f x h];rfl
theorem bP.fds{s:St}(h:bP w Wr s)(hn:n<20)(j:Nat)(hj:j<(mJ (s.k.p n).fd).size):w.cell? ⟨s.A 0,n*12+6+j,bu⟩=(mJ (s.k.p n).fd)[j]? :=by
 rw[qI]at hj;rw[Dn _ j hj];exact h.qA n j hn hj
namespace Kn
theorem pR(k:Kp)(n:Nat)(a m:Int)(j:Nat):((dj k n a m).p j).fd=(k.p j).fd/\((dj k n a m).p j).has=(k.p j).has/\((dj k n a m).p j).st=(k.p j).st/\((dj k n a m).p j).box=(k.p j).box/\((dj k n a m).p j).cD=(k.p j).cD/\((dj k n a m).p j).par=(k.p j).par/\((dj k n a m).p j).code=(k.p j).code:=by
 have key:∀(x:Me) (b:Bk),((cY k n x b).p j).fd=(k.p j).fd/\((cY k n x b).p j).has=(k.p j).has/\((cY k n x b).p j).st=(k.p j).st/\((cY k n x b).p j).box=(k.p j).box/\((cY k n x b).p j).cD=(k.p j).cD/\((cY k n x b).p j).par=(k.p j).par/\((cY k n x b).p j).code=(k.p j).code:=λx b=>by
  by_cases c:j=n
  .subst c;rw[jj];exact⟨rfl,rfl,rfl,rfl,rfl,rfl,rfl⟩
  .rw[show(cY k n x b).p j=k.p j from bO _ _ _ _ c];exact⟨rfl,rfl,rfl,rfl,rfl,rfl,rfl⟩
 unfold dj;split
 .exact key _ (Mv.ml (k.p n).mem k.bk a m)
 .exact⟨rfl,rfl,rfl,rfl,rfl,rfl,rfl⟩
theorem SF(k:Kp)(n:Nat)(a m:Int):(dj k n a m).sc=k.sc:=by unfold dj;split<;>rfl
theorem AO(k:Kp)(n:Nat)(fd:Nat->Int):∀j,(cV k n fd j).sc=k.sc
 |0=>rfl
 |j+1=>by
  show(if fd j= -1 then _ else _:Kp).sc=_;split
  .exact AO k n fd j
  .exact AO k n fd j
end Kn
theorem bP.bare{s:St}(h:bP w Wr s)(hn:n<20)(m:Me)(X:Nat->S1)(hm:(s.k.p n).has=bw):
  bP ((w.setCell ⟨s.A 0,n*12+4,bu⟩ (ai bu)).setCell ⟨s.A 0,n*12+5,bu⟩ (ai bu)) Wr {s with k:=s.k.put n {s.k.p n with has:=false,mem:=m,box:=X}}/\
   KF s w {s with k:=s.k.put n {s.k.p n with has:=false,mem:=m,box:=X}} ((w.setCell ⟨s.A 0,n*12+4,bu⟩ (ai bu)).setCell ⟨s.A 0,n*12+5,bu⟩ (ai bu)):=by
 obtain⟨C,e,sz⟩:=h.mW;have f:bH (s.A 0) w ((w.setCell ⟨s.A 0,n*12+4,bu⟩ (ai bu)).setCell ⟨s.A 0,n*12+5,bu⟩ (ai bu)):=((bH.refl _ _).setCell _ _).setCell _ _;have e1:=cO e (n*12+4) (ai bu);have o:=h.others cv f;have hp:∀j,((s.k.put n {s.k.p n with has:=false,mem:=m,box:=X}).p j).has=bw->j≠n/\(s.k.put n {s.k.p n with has:=false,mem:=m,box:=X}).p j=s.k.p j:=λj hj=>by
  by_cases c:j=n
  .subst c;rw[Kn.bG]at hj;cases hj
  .exact⟨c,Kn.bO _ _ _ _ c⟩
 have pu:∀i,us {s with k:=s.k.put n {s.k.p n with has:=false,mem:=m,box:=X}} i->us s i:=λi hi=>by
  rcases hi with hi|⟨h1,h2,h3⟩|⟨h1,h2,h3⟩|hi|hi
  .exact .inl hi
  .have q:=hp _ h3;have h4:((s.k.put n {s.k.p n with has:=false,mem:=m,box:=X}).p (i-9)).has=bw:=h3;rw[q.2]at h4;exact .inr (.inl ⟨h1,h2,h4⟩)
  .have q:=hp _ h3;have h4:((s.k.put n {s.k.p n with has:=false,mem:=m,box:=X}).p (i-29)).has=bw:=h3;rw[q.2]at h4;exact .inr (.inr (.inl ⟨h1,h2,h4⟩))
  .exact .inr (.inr (.inr (.inl hi)))
  .exact .inr (.inr (.inr (.inr hi)))
 refine⟨⟨⟨_,cO e1 _ _,by simpa using sz⟩,λx hx=>?_,h.sp.same (o 1 cv bB),(o 2 cv bB).trans h.gr,h.sc.same (o 3 cv bB),h.bk.same (o 4 cv bB) (o 5 cv bB),h.fi.same (o 8 cv bB),h.fo.same (o 6 cv bB),h.pi.same (o 7 cv bB),
  λj hj jh=>?_,λj hj jh=>?_,
  λn hn hh=>(h.tb n hn hh).same (o _ (Kn.kF hn hh) bB) (λg eg=>by have:=o _ (Kn.km hn hh eg) bB;rwa [h.ro n hn hh g eg]at this),h.ro,λi j hi hj=>h.inj i j (pu i hi) (pu j hj),λi hi=>h.low i (pu i hi)⟩,KF.one _ cv f rfl pu⟩
 .rw[Kn.yV];by_cases c5:x=n*12+5
  .subst c5;rw[dE e1 _ _ (by simp;omega),aJ ⟨by omega,bB⟩,show(n*12+5)%12=5 by omega];rfl
  .rw[du e1 _ _ _ (bQ c5)];by_cases c4:x=n*12+4
   .subst c4;rw[dE e _ _ bB,aJ ⟨by omega,bB⟩,show(n*12+4)%12=4 by omega];rfl
   .rw[du e _ _ _ (bQ c4),h.dY x hx];by_cases d:x<240/\x/12=n
    .rw[aJ d];unfold Kn.kc Kn.pc Kn.fv;rw[aJ d.1,d.2,aI (show¬x%12=4 by omega),aI (show¬x%12=5 by omega),aI (show¬x%12=4 by omega),aI (show¬x%12=5 by omega)]
    .rw[aI d]
 .have q:=hp j jh;rw[q.2]at jh|-;exact(h.me j hj jh).same (o _ (Kn.jf hj jh) bB)
 .have q:=hp j jh;rw[q.2]at jh|-;exact(h.bx j hj jh).same (o _ (Kn.j9 hj jh) bB)
section
variable (Wr:Nat)(s:St)(w:bD)(X:Nat->Prop)(N:Nat)
theorem y8(n:Nat)(h:bP w Wr s)(hj:KJ X N s.k)(hN:N<=900)(hn:n<20)(hh:(s.k.p n).has=bw):
  Calls prog 148 #[ai (bj ⟨s.A 0,0,bu⟩),aa az n] w λe w'=>∃k',e=bf (ao #[])/\Kn.fY s.k n k'/\bP w' Wr {s with k:=k'}/\KF s w {s with k:=k'} w':=by
 have hnI:(n:Int)<20:=bB
 have UM:=hZ (y9 Wr s w n 0 16 h hn hh (hj.me.cQ (i:=n) hn) (by obtain⟨Wy,g⟩:=hj.gr;exact g.small bB));obtain⟨kb,hkb⟩:=nJ (s.A 0);have HK:=hZ hkb;have HJ:=hZ (hj.vF hn hh 0 16);have HH:=hZ hh;have HN:=hZ hN;rw[hkb]at UM|-;go_in
 go_wp2_with fail
 refine UM.mono ?_;rintro e w1 ⟨rfl,k1,f1⟩;generalize bN (Kn.sy s.k n 0 16)=ev;have S1:=hZ (aK k1 f1);have FD:Hid (((Kn.dj s.k n 0 16).p n).fd=(s.k.p n).fd):=hZ (Kn.pR s.k n 0 16 n).1;obtain⟨fd,hfd⟩:=nJ ((s.k.p n).fd);have HFD:=hZ hfd;have LD:Hid (∀j,j<(mJ fd).size->w1.cell? ⟨kb,n*12+6+j,bu⟩=(mJ fd)[j]?):=hZ (λj hj=>by
  have q:=S1.1.fds hn j (by rw[FD.v,hfd];exact hj);rw[FD.v,hfd]at q;rw[<-HK.v];exact q)
 have hsz:Hid ((prog.info? 72).map (·.size)=bj (mJ fd).size):=hZ (by rw[qI];kernel_rfl);go_wp2_with (refine jA rfl 72 _ rfl kb (n*12+6) rfl (mJ fd) 6 3 LD.v bC hsz.v ?_)
 go_loopw [5,6,19] (λ_ _ i wr=>∃(j:Nat),i=aa az j/\j<=6/\Hid (bP wr Wr {s with k:=Kn.cV (Kn.dj s.k n 0 16) n fd j}/\KF s w {s with k:=Kn.cV (Kn.dj s.k n 0 16) n fd j} wr)) (λ_ _ i _=>6-(intOf i).toNat)
 case atStart=>exact⟨0,rfl,bB,S1⟩
 case round=>
  obtain⟨j,rfl,hj6,S⟩:=hrel;have JJ:=hZ (HJ.cV n fd j);by_cases hlt:j<6
  .have hltI:(j:Int)<6:=bB
   have hix:=xz fd j hlt wr;have SU:Hid (Kn.cV (Kn.dj s.k n 0 16) n fd (j+1)=if fd j= -1 then Kn.cV (Kn.dj s.k n 0 16) n fd j else Kn.eJ (Kn.gS (Kn.cV (Kn.dj s.k n 0 16) n fd j) (fd j)) n j (-1)):=hZ rfl;generalize Kn.cV (Kn.dj s.k n 0 16) n fd j=kj at*;obtain⟨z,hz⟩:=nJ (fd j);rw[hz]at SU hix;by_cases hz1:z= -1
   .subst hz1;rw[aJ rfl]at SU;go_wp2
    go_roundw
    case rel=>exact⟨j+1,by go_num,bB,by rw[SU.v];exact S⟩
    case measure=>simp[intOf];omega
   .have z1:(z== -1)=bA:=by simpa using hz1
    rw[aI hz1]at SU;have cF:=S.1.sF;rw[show({s with k:=kj}:St).A 0=kb from HK.v]at cF;have CL:=hZ (zP (s.A 8) (s.A 6) (s.A 7) z kj.fi kj.fo kj.pi wr S.1.fx JJ.sm (λm hm=>by have:=JJ.rf m hm;have:=HN.v;omega));obtain⟨f8,hf8⟩:=nJ (s.A 8);have H8:=hZ hf8;rw[show({s with k:=kj}:St).A 8=f8 from hf8]at cF;rw[hf8]at CL;go_wp2_with fail
    refine CL.mono ?_;rintro e w2 ⟨rfl,u2,f2⟩;generalize bN (Fx.dg kj.fi z)=ev2;have S2:Hid (bP w2 Wr {s with k:=Kn.gS kj z}/\KF s w {s with k:=Kn.gS kj z} w2):=hZ (by
     rw[<-H8.v]at u2 f2;have q:=S.1.wB u2 f2;exact⟨q.1,S.2.trans q.2⟩)
    have c6:=S2.1.qA n j hn hlt;rw[show({s with k:=Kn.gS kj z}:St).A 0=kb from HK.v]at c6;have fz:=S2.1.frozen;rw[show({s with k:=Kn.gS kj z}:St).A 0=kb from HK.v]at fz;have S3:Hid (bP (w2.setCell ⟨kb,n*12+6+j,bu⟩ (aa az (-1))) Wr {s with k:=Kn.cV (Kn.dj s.k n 0 16) n fd (j+1)}/\KF s w {s with k:=Kn.cV (Kn.dj s.k n 0 16) n fd (j+1)} (w2.setCell ⟨kb,n*12+6+j,bu⟩ (aa az (-1)))):=hZ (by
     have q:=S2.1.rP hn hlt (-1);rw[show({s with k:=Kn.gS kj z}:St).A 0=kb from HK.v]at q;rw[SU.v];exact⟨q.1,S2.2.trans q.2⟩)
    generalize ((({s with k:=Kn.gS kj z}:St).k.p n).fd j)=zz at*;go_wp2
    go_roundw
    case rel=>exact⟨j+1,by go_num,bB,S3⟩
    case measure=>simp[intOf];omega
  .obtain rfl:j=6:=bB
   have hltI:¬((6:Nat):Int)<6:=bB
   have SC:Hid ((Kn.cV (Kn.dj s.k n 0 16) n fd 6).sc=s.k.sc):=hZ (by rw[Kn.AO,Kn.SF]);have PH:Hid (((Kn.cV (Kn.dj s.k n 0 16) n fd 6).p n).has=bw):=hZ (by rw[(Kn.sX _ n fd 6 n).2.1,(Kn.pR s.k n 0 16 n).2.1];exact HH.v);have SK:Hid (∀m',Kn.qX s.k n m'=({Kn.cV (Kn.dj s.k n 0 16) n fd 6 with sc:=m'}).put n {(Kn.cV (Kn.dj s.k n 0 16) n fd 6).p n with has:=false,mem:=Mv.lL,box:=Sg.fW}):=hZ (λm'=>by unfold Kn.qX;rw[HFD.v]);generalize Kn.cV (Kn.dj s.k n 0 16) n fd 6=kj at*;have cS:=S.1.yK;rw[show({s with k:=kj}:St).A 0=kb from HK.v]at cS;have DT:=hZ (Wf.Di (s.A 3) kj.sc wr (n:Int) S.1.sc);obtain⟨f3,hf3⟩:=nJ (s.A 3);have H3:=hZ hf3;rw[show({s with k:=kj}:St).A 3=f3 from hf3]at cS;rw[hf3]at DT;go_wp2_with fail
   refine DT.mono ?_;rintro e w2 ⟨⟨E2,rfl⟩,u2,f2⟩;obtain⟨m',d2⟩:∃m',Wf.JP kj.sc (n:Int) m':=⟨_,rfl⟩;rw[<-d2]at u2;generalize bN E2=ev2;have S2:Hid (bP w2 Wr {s with k:={kj with sc:=m'}}/\KF s w {s with k:={kj with sc:=m'}} w2):=hZ (by
    rw[<-H3.v]at u2 f2;have q:=S.1.lN u2 f2;exact⟨q.1,S.2.trans q.2⟩)
   have D2:=hZ d2;have c4:=S2.1.rX n hn PH.v;have c5:=S2.1.tB n hn PH.v;have fz:=S2.1.frozen;rw[show({s with k:={kj with sc:=m'}}:St).A 0=kb from HK.v]at c4 c5 fz;have FIN:Hid (bP ((w2.setCell ⟨kb,n*12+4,bu⟩ (ai bu)).setCell ⟨kb,n*12+5,bu⟩ (ai bu)) Wr {s with k:=Kn.qX s.k n m'}/\KF s w {s with k:=Kn.qX s.k n m'} ((w2.setCell ⟨kb,n*12+4,bu⟩ (ai bu)).setCell ⟨kb,n*12+5,bu⟩ (ai bu))):=hZ (by
    have q:=S2.1.bare hn Mv.lL Sg.fW PH.v;rw[show({s with k:={kj with sc:=m'}}:St).A 0=kb from HK.v]at q;rw[SK.v m'];exact⟨q.1,S2.2.trans q.2⟩)
   go_wp2_with fail
   go_end0
   exact⟨_,rfl,⟨m',by rw[<-SC.v];exact D2.v,rfl⟩,FIN.v⟩
end
open Mo (Mt)
namespace Sp
theorem DL{t:T}(hn:n<20)(h:t.of n≠0):dG t (n:Int)={Ag t (List.range 6) n with of:=uA t.of n 0}:=by
 have e:mL t (n:Int)=0:=by unfold mL;rw[vp hn,aJ rfl,hU,aI h]
 unfold dG;rw[aJ e,hU]
theorem jG{t:T}(hn:n<20)(h:t.of n≠0):(dG t (n:Int)).here=t.here/\(dG t (n:Int)).par=t.par:=by rw[DL hn h];exact⟨rfl,rfl⟩
theorem kW{t:T}(hn:n<20)(h:t.of n≠0)(m:Nat):(dG t (n:Int)).of m=if m=n then 0 else t.of m:=by rw[DL hn h];rfl
theorem mv{t:T}(hn:n<20)(h:t.of n≠0){s:Nat}(hs:s<6)(p:Nat):(dG t (n:Int)).cr s p=if t.cr s p=n+1 then 0 else t.cr s p:=by
 rw[DL hn h];show(if s∈List.range 6/\t.cr s p=n+1 then 0 else t.cr s p)=_;by_cases c:t.cr s p=n+1
 .rw[aJ c,aJ ⟨by simpa using hs,c⟩]
 .rw[aI c,aI (λe=>c e.2)]
structure ru (t:T):Prop where
 hd:∀s,s<6->t.here s=bw->∃h,h<20/\t.cr s 1=h+1/\t.of h=s+1
 r0:t.of 0=1/\t.cr 0 1=1
theorem iD{t:T}(hn:n<20)(h:t.of n=z+1):dQ t (n:Int)=z:=by
 have e:mL t (n:Int)=0:=by unfold mL;rw[vp hn,aJ rfl,hU,nK]
 unfold dQ;rw[aJ e,hU];omega
theorem P9{t:T}{h:Nat}(hz:z<6)(hh:t.here z=bw)(hw:t.cr z 1=h+1):e9 t (z:Int) 1=h:=by
 have e:ix t (z:Int) 1=0:=by
  unfold ix;rw[jT hz hh,aJ rfl,hU,show(1:Int).toNat=1 from rfl,nK]
 unfold e9;rw[aJ e,hU,show(1:Int).toNat=1 from rfl,hw];omega
section
variable {t:T}{d:Nat->Nat}
theorem ru.leave(h:ru t)(hn:n<20)(n0:n≠0)(ho:t.of n=z+1)(hw:t.cr z 1≠n+1):ru (dG t (n:Int)):=by
 have o:t.of n≠0:=bB
 refine⟨λs hs hh=>?_,?_⟩
 .rw[(jG hn o).1]at hh;obtain⟨x,x20,xw,xo⟩:=h.hd s hs hh;have xn:x≠n:=λe=>by
   subst e;have:s=z:=bB
   subst this;exact hw xw
  exact⟨x,x20,by rw[mv hn o hs,nK];exact xw,by rw[kW hn o,aI xn];exact xo⟩
 .rw[kW hn o,aI (bQ n0),mv hn o bB,aI (by have:=h.r0.2;omega)];exact h.r0
theorem Lu{t:T}(h:∀p,p<21->t.cr z p=0):fE t z=[]:=by
 unfold fE;rw[List.map_eq_nil_iff,List.filter_eq_nil_iff];intro p hp;unfold jH;rw[h p (by simpa using hp)];simp
theorem ru.shut(h:ru t)(hI:Inv t d)(hn:n<20)(n0:n≠0)(ho:t.of n=z+1)(hz:z<6)(hh:t.here z=bw)(hw:t.cr z 1=n+1)(al:∀p,p<21->t.cr z p≠0->p=1):
  jo (dG t (n:Int)) (z:Int)=0/\ru (gx (dG t (n:Int)) (z:Int)):=by
 have o:t.of n≠0:=bB
 have z0:z≠0:=λe=>by subst e;have:=h.r0.2;omega
 have emp:∀p,p<21->(dG t (n:Int)).cr z p=0:=λp hp=>by
  rw[mv hn o hz];by_cases c:t.cr z p=n+1
  .rw[aJ c]
  .rw[aI c];by_cases e:t.cr z p=0
   .exact e
   .have:=al p hp e;subst this;exact aZ hw c
 have kd:kids (dG t (n:Int)) z=bA:=by
  unfold kids;rw[List.any_eq_false];intro k hk;have k6:k<6:=by simpa using hk
  unfold uS;rw[(jG hn o).1,(jG hn o).2];intro c;have c1:t.here k=bw/\t.par k=(z:Int):=by simpa using c
  obtain⟨x,x20,xw,xo⟩:=h.hd k k6 c1.1;have mem:z∈W t ((t.of x-1:Nat):Int):=by
   rw[xo,show k+1-1=k by omega,hI.tree.step k6 c1.1,c1.2,hI.tree.step hz hh];simp
  obtain⟨p,hp,pw⟩:=(hI.has z x hz x20).2 ⟨by omega,mem⟩;have p1:=al p hp bB;subst p1;have:x=n:=bB
  subst this;have:k=z:=bB
  subst this;rcases hI.tree.im hz hh with⟨e,_⟩|⟨q,_,e,_,e2⟩
  .exact z0 e
  .rw[c1.2]at e;have:q=k:=bB
   subst this;omega
 have de:jo (dG t (n:Int)) (z:Int)=0:=by
  unfold jo;rw[jT hz (by rw[(jG hn o).1];exact hh),aJ rfl,hU,aI (λc=>by
   rcases c with c|c|c
   .omega
   .exact c (Lu emp)
   .rw[kd]at c;cases c)]
 refine⟨de,?_⟩;have e:gx (dG t (n:Int)) (z:Int)={dG t (n:Int)with here:=nT (dG t (n:Int)).here z bA,par:=gE (dG t (n:Int)).par z 0}:=by unfold gx;rw[aJ de,hU]
 rw[e];refine⟨λs hs hs2=>?_,?_⟩
 .have hs3:(if s=z then bA else(dG t (n:Int)).here s)=bw:=hs2;by_cases c:s=z
  .rw[aJ c]at hs3;cases hs3
  .rw[aI c,(jG hn o).1]at hs3;obtain⟨x,x20,xw,xo⟩:=h.hd s hs hs3;have xn:x≠n:=λe=>by subst e;omega
   exact⟨x,x20,by show(dG t (n:Int)).cr s 1=_;rw[mv hn o hs,nK];exact xw,by show(dG t (n:Int)).of x=_;rw[kW hn o,aI xn];exact xo⟩
 .show(dG t (n:Int)).of 0=1/\(dG t (n:Int)).cr 0 1=1;rw[kW hn o,aI (bQ n0),mv hn o bB,aI (by have:=h.r0.2;omega)];exact h.r0
end
end Sp
namespace Mo
theorem uY{F:Fo}{z:Int}(n:Nat):((Tr.dC F z).nd n).held<=(F.nd n).held:=by
 unfold Tr.dC;split
 .rw[xW];by_cases e:n=z.toNat
  .subst e;rw[Tr.bG];show(F.nd _).held-1<=_;omega
  .rw[Tr.bO _ _ _ _ e];exact aL _
 .exact aL _
theorem uZ{F:Fo}{z:Int}(h:0<((Tr.dC F z).nd n).held):((Tr.dC F z).nd n).kind=(F.nd n).kind:=by
 unfold Tr.dC at*;split
 .rename_i c;rw[aJ c]at h;rw[xW]at h;rw[ER _ _ _ h];by_cases e:n=z.toNat
  .subst e;rw[Tr.bG]
  .rw[Tr.bO _ _ _ _ e]
 .rfl
theorem OB{F:Fo}{m:Mt}(n:Nat):((ji F m).nd n).held<=(F.nd n).held:=aH (uY n) (uY n)
theorem DJ{F:Fo}{m:Mt}(h:0<((ji F m).nd n).held):((ji F m).nd n).kind=(F.nd n).kind:=(uZ h).trans (uZ (aD h (uY n)))
theorem uQ(n:Nat):∀(L:List Mt) (F:Fo),((L.foldl ji F).nd n).held<=(F.nd n).held
 |[],_=>aL _
 |m::L,F=>aH (uQ n L (ji F m)) (OB n)
theorem Bl(n:Nat):∀(L:List Mt) (F:Fo),0<((L.foldl ji F).nd n).held->((L.foldl ji F).nd n).kind=(F.nd n).kind
 |[],_,_=>rfl
 |m::L,F,h=>(Bl n L (ji F m) h).trans (DJ (aD h (uQ n L _)))
theorem DH{F:Fo}{T:Mo.Tb}(h:0<((lK F T).nd n).held):((lK F T).nd n).kind=(F.nd n).kind:=
 (Bl n T.ms _ h).trans (uZ (aD h (uQ n T.ms _)))
end Mo
namespace Kn
section
variable {X:Nat->Prop}{N:Nat}{k:Kp}
theorem KJ.lN(h:KJ X N k)(m:Wf.M):KJ X N {k with sc:=m}:=⟨h.sp,h.gr,h.me,h.wx,h.rf,h.ok,h.tb,h.st,h.hs,h.lv,h.of,h.ht,h.nm⟩
theorem UG(k:Kp)(n x:Nat)(hx:x<16):((dj k n 0 16).p n).mem.fr x=0:=by
 unfold dj;have c:Mv.oF 0 16=0:=by decide
 rw[aJ c];show((cY k n _ (Mv.ml (k.p n).mem k.bk 0 16)).p n).mem.fr x=0;rw[jj];show(Mv.jM (k.p n).mem 0 16).fr x=0;unfold Mv.jM;have b:Mv.lu 0 16=bA:=by decide
 rw[b,aI bE];show(if _ then 0 else _)=0;rw[aJ ⟨aC _,by show x<0+16;omega⟩]
theorem KJ.str(h:KJ X N k)(hn:n<20)(hh:(k.p n).has=bw){k':Kp}(hs:fY k n k'):KJ (λm=>X m\/m=n) N k':=by
 obtain⟨m',hd,rfl⟩:=hs;have a:=((h.vF hn hh 0 16).cV n (k.p n).fd 6).lN m';have pp:=sX (dj k n 0 16) n (k.p n).fd 6;have z0:∀x,x<16->((Kn.cV (dj k n 0 16) n (k.p n).fd 6).p n).mem.fr x=0:=λx hx=>by rw[(pp n).2.2.1];exact UG k n x hx
 unfold qX;dsimp only;generalize Kn.cV (dj k n 0 16) n (k.p n).fd 6=k1 at*;have e:∀j,j≠n->(({k1 with sc:=m'}:Kp).put n {k1.p n with has:=false,mem:=Mv.lL,box:=Sg.fW}).p j=k1.p j:=λj c=>bO _ _ _ _ c;have e2:(({k1 with sc:=m'}:Kp).put n {k1.p n with has:=false,mem:=Mv.lL,box:=Sg.fW}).p n={k1.p n with has:=false,mem:=Mv.lL,box:=Sg.fW}:=bG _ _ _;refine⟨a.sp,a.gr,?_,a.wx,a.rf,a.ok,a.tb,λm hm=>?_,λm hm=>?_,λm hm=>?_,λm hm=>?_,a.ht,λm hm=>?_⟩
 .refine a.me.congr (λi hi x hx=>?_);by_cases c:i=n
  .subst c;rw[e2];exact(z0 x hx).symm
  .rw[e i c]
 .by_cases c:m=n
  .subst c;rw[e2];exact a.st m hm
  .rw[e m c];exact a.st m hm
 .by_cases c:m=n
  .subst c;rw[e2];intro q;cases q
  .rw[e m c];exact a.hs m hm
 .intro hx;by_cases c:m=n
  .exact aZ (.inr c) hx
  .rw[e m c];exact a.lv m hm (λq=>hx (.inl q))
 .by_cases c:m=n
  .subst c;rw[e2];exact a.of m hm
  .rw[e m c];exact a.of m hm
 .by_cases c:m=n
  .subst c;rw[e2];intro _;rfl
  .rw[e m c];exact a.nm m hm
theorem UH(k:Kp)(n:Nat)(a m:Int):(dj k n a m).sp=k.sp/\(dj k n a m).ht=k.ht/\(dj k n a m).tb=k.tb:=by unfold dj;split<;>exact⟨rfl,rfl,rfl⟩
theorem AP(k:Kp)(n:Nat)(fd:Nat->Int):∀j,(cV k n fd j).sp=k.sp/\(cV k n fd j).ht=k.ht/\(cV k n fd j).tb=k.tb
 |0=>⟨rfl,rfl,rfl⟩
 |j+1=>by
  show(if fd j= -1 then _ else _:Kp).sp=_/\(if fd j= -1 then _ else _:Kp).ht=_/\(if fd j= -1 then _ else _:Kp).tb=_;split
  .exact AP k n fd j
  .exact AP k n fd j
theorem fY.sp{n:Nat}{k':Kp}(hs:fY k n k'):k'.sp=k.sp/\k'.ht=k.ht/\k'.tb=k.tb:=by
 obtain⟨m',_,rfl⟩:=hs;have a:=AP (dj k n 0 16) n (k.p n).fd 6;have b:=UH k n 0 16;exact⟨a.1.trans b.1,a.2.1.trans b.2.1,a.2.2.trans b.2.2⟩
theorem fY.p{n:Nat}{k':Kp}(hs:fY k n k')(m:Nat):(k'.p m).st=(k.p m).st/\(k'.p m).par=(k.p m).par/\(k'.p m).cD=(k.p m).cD/\(k'.p m).code=(k.p m).code/\(m≠n->(k'.p m).has=(k.p m).has/\(k'.p m).mem=(k.p m).mem/\(k'.p m).box=(k.p m).box):=by
 obtain⟨m',_,rfl⟩:=hs;have a:=sX (dj k n 0 16) n (k.p n).fd 6 m;have b:=pR k n 0 16 m;unfold qX;dsimp only;by_cases c:m=n
 .subst c;rw[bG];exact⟨a.1.trans b.2.2.1,a.2.2.2.2.2.1.trans b.2.2.2.2.2.1,a.2.2.2.2.1.trans b.2.2.2.2.1,a.2.2.2.2.2.2.trans b.2.2.2.2.2.2,λe=>aZ rfl e⟩
 .rw[bO _ _ _ _ c];have mm:((dj k n 0 16).p m).mem=(k.p m).mem:=by
   unfold dj;split
   .show((cY k n _ (Mv.ml (k.p n).mem k.bk 0 16)).p m).mem=_;rw[show∀x b,(cY k n x b).p m=k.p m from λx b=>bO _ _ _ _ c]
   .rfl
  exact⟨a.1.trans b.2.2.1,a.2.2.2.2.2.1.trans b.2.2.2.2.2.1,a.2.2.2.2.1.trans b.2.2.2.2.1,a.2.2.2.2.2.2.trans b.2.2.2.2.2.2,λ_=>⟨a.2.1.trans b.2.1,a.2.2.1.trans mm,a.2.2.2.1.trans b.2.2.2.1⟩⟩
def eG(k:Kp)(n:Nat):Kp:=({k with gr:=Gr.dD k.gr (k.p n).cD 1 0,sp:=Sp.dG k.sp (n:Int)}).put n Pr.no
theorem KJ.fin(h:KJ X N k)(hn:n<20)(h0:(k.p n).st≠0)(hh:(k.p n).has=bA):KJ (λm=>X m/\m≠n) N (eG k n):=by
 have o:=(h.of n hn).2 h0;have e:∀j,j≠n->(eG k n).p j=k.p j:=λj c=>bO _ _ _ _ c;have e2:(eG k n).p n=Pr.no:=bG _ _ _;have hr:=Sp.jG hn o;refine⟨?_,?_,?_,h.wx,h.rf,h.ok,h.tb,λm hm=>?_,λm hm=>?_,λm hm=>?_,λm hm=>?_,λs hs=>?_,λm hm=>?_⟩
 .obtain⟨d,hd⟩:=h.sp;exact⟨d,hd.leave _⟩
 .obtain⟨Wy,g⟩:=h.gr;exact⟨Wy,oX g _ _ _⟩
 .refine h.me.congr (λi hi x hx=>?_);by_cases c:i=n
  .subst c;rw[e2,h.nm i hn hh];rfl
  .rw[e i c]
 .by_cases c:m=n
  .subst c;rw[e2];exact aC _
  .rw[e m c];exact h.st m hm
 .by_cases c:m=n
  .subst c;rw[e2];intro q;cases q
  .rw[e m c];exact h.hs m hm
 .intro hx;by_cases c:m=n
  .subst c;rw[e2];intro q;cases q
  .rw[e m c];exact h.lv m hm (λq=>hx ⟨q,c⟩)
 .show(Sp.dG k.sp (n:Int)).of m≠0↔_;rw[Sp.kW hn o];by_cases c:m=n
  .subst c;rw[e2,aJ rfl];exact⟨λq=>aZ rfl q,λq=>aZ rfl q⟩
  .rw[e m c,aI c];exact h.of m hm
 .show k.ht s=(Sp.dG k.sp (n:Int)).here s;rw[hr.1];exact h.ht s hs
 .by_cases c:m=n
  .subst c;rw[e2];intro _;rfl
  .rw[e m c];exact h.nm m hm
def mh(k:Kp)(z:Nat):Kp:={k with sp:=Sp.gx k.sp (z:Int),fo:=Mo.lK k.fo (k.tb z),ht:=λs=>if s=z then bA else k.ht s}
theorem EU(k:Kp)(z m:Nat):∀s,lE (mh k z) m s+(if z<s/\k.ht z=bw then Mo.tc (k.tb z) m else 0)=lE k m s
 |0=>by rw[aI (λc=>aZ c.1 (Nat.not_lt_zero _))];rfl
 |s+1=>by
  have ih:=EU k z m s;show lE (mh k z) m s+(if(if s=z then bA else k.ht s)=bw then Mo.tc (k.tb s) m else 0)+_=lE k m s+_;by_cases c:s=z
  .subst c;rw[aI (λc=>bB)]at ih;rw[aJ rfl,aI bE];by_cases d:k.ht s=bw
   .rw[aJ ⟨by omega,d⟩,aJ d];omega
   .rw[aI (λe=>d e.2),aI d];omega
  .rw[aI c];by_cases d:z<s/\k.ht z=bw
   .rw[aJ d]at ih;rw[aJ (show z<s+1/\k.ht z=bw from⟨by omega,d.2⟩)];omega
   .rw[aI d]at ih;rw[aI (show¬(z<s+1/\k.ht z=bw)from λe=>d ⟨by omega,e.2⟩)];omega
theorem KJ.Wi(h:KJ X N k)(hz:z<6)(hh:k.sp.here z=bw)(de:Sp.jo k.sp (z:Int)=0):KJ X N (mh k z):=by
 have ht:k.ht z=bw:=by rw[h.ht z hz];exact hh
 have tx:∀m,jR k m=jR (mh k z) m+Mo.tc (k.tb z) m:=λm=>by
  have:=EU k z m 6;rw[aJ ⟨hz,ht⟩]at this;exact this.symm
 have rg:=h.tb z hz ht;have hi:Mo.HI k.fo (λn=>(Fx.cK k.fi 1 n 24+jR (mh k z) n)+Mo.tc (k.tb z) n):=⟨λn hn=>by rw[h.wx.hl n hn,tx n];omega,λn hn c kz=>by
  have:=h.wx.z0 n hn kz;rw[h.wx.hl n hn,tx n]at this;omega⟩
 have hl:=Mo.Li hi rg.1;have e:(mh k z).sp={k.sp with here:=Sp.nT k.sp.here z bA,par:=Sp.gE k.sp.par z 0}:=by show Sp.gx k.sp (z:Int)=_;unfold Sp.gx;rw[aJ de,hU]
 refine⟨?_,h.gr,h.me,?_,h.rf,Mo.Lj h.ok,λs hs q=>?_,h.st,h.hs,h.lv,λn hn=>?_,λs hs=>?_,h.nm⟩
 .obtain⟨d,hd⟩:=h.sp;exact⟨d,hd.drop _⟩
 .refine⟨h.wx.no,h.wx.kd,λn hn r k1=>?_,h.wx.pn,h.wx.ps,λm hm=>hl.hd m hm,λm hm kz=>?_,h.wx.rd,h.wx.wt⟩
  .have a:=h.wx.nd n hn r k1;refine⟨a.1,?_⟩;have c1:=Fx.rD (T:=k.fi) (k:=1) (m:=(k.fi n).num) hn;have c2:=Fx.nM r;rw[k1]at c2;show((Mo.lK k.fo (k.tb z)).nd (k.fi n).num).kind=1;have c3:Fx.hit (k.fi n) 1 (k.fi n).num=1:=c2;rw[Mo.DH (n:=(k.fi n).num) (by rw[hl.hd _ a.1];omega)];exact a.2
  .by_cases c:((Mo.lK k.fo (k.tb z)).nd m).held=0
   .exact c
   .exact aZ kz (hl.lv m hm (by rw[<-hl.hd m hm];omega))
 .have q2:(if s=z then bA else k.ht s)=bw:=q;by_cases c:s=z
  .rw[aJ c]at q2;cases q2
  .rw[aI c]at q2;exact h.tb s hs q2
 .rw[e];exact h.of n hn
 .rw[e];show(if s=z then bA else k.ht s)=if s=z then bA else k.sp.here s;by_cases c:s=z
  .rw[aJ c,aJ c]
  .rw[aI c,aI c];exact h.ht s hs
end
end Kn
namespace Sp
def mem(t:T)(z m:Nat):Prop:=∃p,p<21/\t.cr z p=m+1
theorem Tree.sub{t:T}(h:Tree t d)(hn:n<6)(hh:t.here n=bw):∀x,x∈W t (n:Int)->∀y,y∈W t (x:Int)->y∈W t (n:Int):=by
 refine h.ind (P:=λn=>∀x,x∈W t (n:Int)->∀y,y∈W t (x:Int)->y∈W t (n:Int)) (λn hn hh ih=>?_) n hn hh;intro x hx y hy;rw[h.step hn hh]at hx|-;rcases List.mem_cons.1 hx with e|hx
 .subst e;rw[<-h.step hn hh];exact hy
 .rcases h.im hn hh with⟨_,e,_⟩|⟨p,h1,e,h2,h3⟩
  .rw[e,qh _ _ bB]at hx;cases hx
  .rw[e]at hx|-;exact List.mem_cons_of_mem _ (ih p h1 h2 e h3 x hx y hy)
section
variable {t:T}{d:Nat->Nat}
theorem Inv.mem_of(h:Inv t d)(hz:z<6)(hm:m<20)(k:mem t z m):t.of m≠0/\z∈W t ((t.of m-1:Nat):Int):=(h.has z m hz hm).1 k
theorem Inv.dh(h:Inv t d)(hm:m<20)(ho:t.of m=z+1):mem t z m/\z<6/\t.here z=bw:=by
 have o:=h.pM m hm bB;rw[ho,show z+1-1=z by omega]at o;have z6:z<6:=bB
 refine⟨(h.has z m z6 hm).2 ⟨by omega,?_⟩,z6,o.2⟩;rw[ho,show z+1-1=z by omega,h.tree.step z6 o.2];simp
theorem Inv.DY(h:Inv t d)(hz:z<6)(hm:m<20)(hx:x<20)(ho:t.of m=y+1)(k:mem t z m)(kx:mem t y x):mem t z x:=by
 obtain⟨_,y6,yh⟩:=h.dh hm ho;have a:=(h.mem_of hz hm k).2;rw[ho,show y+1-1=y by omega]at a;have b:=h.mem_of y6 hx kx;have o:=h.pM x hx b.1;exact(h.has z x hz hx).2 ⟨b.1,h.tree.sub bB o.2 y b.2 z a⟩
theorem sL{t:T}(h:(fE t z)[i]? =bj x)(hw:∀p,p<21->t.cr z p<=20):x<20/\mem t z x:=by
 have hm:=bK h;unfold fE at hm;obtain⟨p,hp,e⟩:=List.mem_map.1 hm;obtain⟨h1,h2⟩:=bX.1 hp;have p21:p<21:=by simpa using h1
 have w0:t.cr z p≠0:=by simpa[jH]using h2
 have:=hw p p21;exact⟨by omega,p,p21,bB⟩
theorem Inv.second(h:Inv t d)(hz:z<6)(hw:t.cr z 1=n+1):(fE t z)[0]? =bj n/\∀x,(fE t z)[1]? =bj x->x≠n:=by
 have e:∃L,fE t z=n::L/\∀x,x∈L->∃p,p<21/\2<=p/\t.cr z p≠0/\x=t.cr z p-1:=by
  unfold fE;have r:List.range 21=0::1::(List.range 19).map (· +2):=by decide
  rw[r,List.filter_cons_of_neg (by simp[jH,h.sA z hz]),List.filter_cons_of_pos (by simp[jH,hw]),List.map_cons];refine⟨_,by rw[hw];rfl,λx hx=>?_⟩;obtain⟨p,hp,e⟩:=List.mem_map.1 hx;obtain⟨h1,h2⟩:=bX.1 hp;obtain⟨q,hq,e2⟩:=List.mem_map.1 h1;have q19:q<19:=by simpa using hq
  have e2':q+2=p:=e2;exact⟨p,bB,bB,by simpa[jH]using h2,e.symm⟩
 obtain⟨L,e1,e2⟩:=e;rw[e1];refine⟨rfl,λx hx=>?_⟩;have hm:x∈L:=bK (i:=0) hx;obtain⟨p,p21,p2,pw,ex⟩:=e2 x hm;intro c;have:t.cr z p=t.cr z 1:=bB
 have:=h.one z p 1 hz p21 bB this pw;omega
theorem xF{t:T}(hw:t.cr z 1=n+1)(hl:(fE t z).length<=1)(p:Nat)(hp:p<21)(h0:t.cr z p≠0):p=1:=by
 by_cases c:p=1
 .exact c
 .exfalso;unfold fE at hl;rw[List.length_map]at hl;have s:[min p 1,max p 1].Sublist ((List.range 21).filter (jH t z)):=by
   have s1:[min p 1,max p 1].Sublist (List.range 21):=by
    have a:min p 1<max p 1:=bB
    have b:max p 1<21:=bB
    rw[show List.range 21=List.range (max p 1)++(List.range (21-max p 1)).map (max p 1+ ·)by rw[<-List.range_add];congr 1;omega];refine(List.Sublist.append (l₁:=[min p 1]) (r₁:=[max p 1]) ?_ ?_)
    .exact List.singleton_sublist.2 (by simpa using a)
    .exact List.singleton_sublist.2 (by simp;omega)
   have:=s1.filter (jH t z);rw[List.filter_eq_self.2]at this
   .exact this
   .intro x hx;simp only[List.mem_cons,List.not_mem_nil,or_false]at hx;unfold jH;rcases hx with e|e<;>rw[e]<;>apply aO
    .by_cases q:p<=1
     .rw[Nat.min_eq_left q];exact h0
     .rw[Nat.min_eq_right bB];omega
    .by_cases q:p<=1
     .rw[Nat.max_eq_right q];omega
     .rw[Nat.max_eq_left bB];exact h0
  have:=s.length_le;simp at this;omega
end
end Sp
namespace Kn
def jU(R:Kp->Nat->Kp->Prop)(z:Int):Nat->Kp->Kp->Prop
 |0,k,k'=>k'=k/\(eH k.sp z).length<=1
 |j+1,k,k'=>∃m k1,(eH k.sp z)[1]? =bj m/\R k m k1/\jU R z j k1 k'
def jd:Nat->Kp->Nat->Kp->Prop
 |0,_,_,_=>False
 |f+1,k,n,k'=>∃k1,(lv k n=bw->fY k n k1)/\(lv k n=bA->k1=k)/\((hd k n≠n/\k'=eG k1 n)\/(hd k n=n/\∃k2 j,jU (jd f) (Sp.dQ k.sp (n:Int):Int) j k1 k2/\k'=mh (eG k2 n) (Sp.dQ k.sp (n:Int))))
structure Gz (k k':Kp)(z:Nat):Prop where
 kp:∀m,m<20->(k'.p m=k.p m/\k'.sp.of m=k.sp.of m)\/(k'.p m=Pr.no/\k'.sp.of m=0/\Sp.mem k.sp z m)
 wh:∀s p,s<6->p<21->k'.sp.cr s p=k.sp.cr s p\/k'.sp.cr s p=0
 wk:∀s p m,s<6->p<21->m<20->k.sp.cr s p=m+1->k'.sp.of m≠0->k'.sp.cr s p=m+1
 hr:∀s,s<6->k'.sp.here s=bw->k.sp.here s=bw
 hk:∀s,s<6->k.sp.here s=bw->k'.sp.here s=bA->∀m,m<20->Sp.mem k.sp s m->k'.sp.of m=0
section
variable {k k1 k2:Kp}{z y:Nat}
theorem Gz.refl(k:Kp)(z:Nat):Gz k k z:=⟨λ_ _=> .inl ⟨rfl,rfl⟩,λ_ _ _ _=> .inl rfl,λ_ _ _ _ _ _ e _=>e,λ_ _ e=>e,λ_ _ a b=>by rw[a]at b;cases b⟩
theorem Gz.back(h:Gz k k1 y){s:Nat}(hs:s<6)(e:Sp.mem k1.sp s m):Sp.mem k.sp s m:=by
 obtain⟨p,p21,pw⟩:=e;rcases h.wh s p hs p21 with c|c
 .exact⟨p,p21,by rw[<-c];exact pw⟩
 .rw[c]at pw;omega
theorem Gz.up(h:Gz k k1 y)(e:∀m,m<20->Sp.mem k.sp y m->Sp.mem k.sp z m):Gz k k1 z:=⟨λm hm=>(h.kp m hm).imp id (λc=>⟨c.1,c.2.1,e m hm c.2.2⟩),h.wh,h.wk,h.hr,h.hk⟩
theorem Gz.trans(hz:z<6)(h:Gz k k1 z)(g:Gz k1 k2 z):Gz k k2 z:=by
 have no:Pr.no.st=0:=rfl;refine⟨λm hm=>?_,λs p hs hp=>?_,λs p m hs hp hm e c=>?_,λs hs e=>h.hr s hs (g.hr s hs e),λs hs a b m hm e=>?_⟩
 .rcases g.kp m hm with c|c
  .rcases h.kp m hm with d|d
   .exact .inl ⟨c.1.trans d.1,c.2.trans d.2⟩
   .exact .inr ⟨c.1.trans d.1,c.2.trans d.2.1,d.2.2⟩
  .exact .inr ⟨c.1,c.2.1,h.back hz c.2.2⟩
 .rcases g.wh s p hs hp with c|c
  .rw[c];exact h.wh s p hs hp
  .exact .inr c
 .have o1:k1.sp.of m≠0:=λq=>by
   rcases g.kp m hm with d|d
   .exact c (d.2.trans q)
   .exact c d.2.1
  exact g.wk s p m hs hp hm (h.wk s p m hs hp hm e o1) c
 .by_cases q:k1.sp.of m=0
  .rcases g.kp m hm with d|d
   .exact d.2.trans q
   .exact d.2.1
  .have b1:k1.sp.here s=bw:=by
    cases w:k1.sp.here s
    .exact aZ (h.hk s hs a w m hm e) q
    .rfl
   refine g.hk s hs b1 b m hm ?_;obtain⟨p,p21,pw⟩:=e;exact⟨p,p21,h.wk s p m hs p21 hm pw q⟩
end
structure VI (X:Nat->Prop)(N:Nat)(d:Nat->Nat)(k:Kp):Prop where
 kj:KJ X N k
 iv:Sp.Inv k.sp d
 hs:Sp.ru k.sp
theorem iY{k:Kp}(hI:Sp.Inv k.sp d)(hH:Sp.ru k.sp)(hn:n<20)(ho:k.sp.of n=z+1):hd k n=n↔k.sp.cr z 1=n+1:=by
 obtain⟨_,z6,zh⟩:=hI.dh hn ho;obtain⟨x,x20,xw,xo⟩:=hH.hd z z6 zh;unfold hd;rw[Sp.iD hn ho,Sp.P9 z6 zh xw,xw];omega
theorem fY.We{k k':Kp}(hs:fY k n k')(c:m≠n):k'.p m=k.p m:=by
 obtain⟨m',_,rfl⟩:=hs;have a:∀(k:Kp) (fd:Nat->Int) j,(Kn.cV k n fd j).p m=k.p m:=λk fd j=>by
  induction j with
  |zero=>rfl
  |succ j ih=>
   show(if fd j= -1 then _ else _:Kp).p m=_;split
   .exact ih
   .show(eJ _ n j (-1)).p m=_;unfold eJ;rw[bO _ _ _ _ c];exact ih
 have b:(dj k n 0 16).p m=k.p m:=by
  unfold dj;split
  .show(cY k n _ (Mv.ml (k.p n).mem k.bk 0 16)).p m=_;exact bO _ _ _ _ c
  .rfl
 unfold qX;dsimp only;rw[bO _ _ _ _ c];exact(a _ _ 6).trans b
section
variable {X:Nat->Prop}{N:Nat}{d:Nat->Nat}{k k1 k':Kp}{n z:Nat}
theorem VI.first(h:VI X N d k)(hn:n<20)(hX:¬X n)(ho:k.sp.of n=z+1)(h1:lv k n=bw->fY k n k1)(h2:lv k n=bA->k1=k):
  VI (λm=>X m\/m=n) N d k1/\k1.sp=k.sp/\k1.tb=k.tb/\(k1.p n).has=bA/\(k1.p n).st≠0/\∀m,m≠n->k1.p m=k.p m:=by
 have s0:(k.p n).st≠0:=(h.kj.of n hn).1 bB;cases c:lv k n
 .have:=h2 c;subst this;have hh:(k1.p n).has=bA:=by
   cases e:(k1.p n).has
   .rfl
   .have:=h.kj.hs n hn e;unfold lv at c;rw[this]at c;cases c
  exact⟨⟨h.kj.mono (λ_ _ e=> .inl e) (aL _),h.iv,h.hs⟩,rfl,rfl,hh,s0,λ_ _=>rfl⟩
 .have st:=h1 c;have s1:(k.p n).st=1:=by unfold lv at c;simpa using c
  have hh:=h.kj.lv n hn hX s1;have sp:=st.sp;have hf:(k1.p n).has=bA:=by
   obtain⟨m',_,rfl⟩:=st;unfold qX;dsimp only;rw[bG]
  refine⟨⟨h.kj.str hn hh st,by rw[sp.1];exact h.iv,by rw[sp.1];exact h.hs⟩,sp.1,sp.2.2,hf,by rw[(st.p n).1];exact s0,λm e=>st.We e⟩
theorem VI.lone(h:VI X N d k)(hn:n<20)(n0:n≠0)(hX:¬X n)(ho:k.sp.of n=z+1)(hd1:hd k n≠n)(h1:lv k n=bw->fY k n k1)(h2:lv k n=bA->k1=k):VI X N d (eG k1 n)/\Gz k (eG k1 n) z/\(eG k1 n).p n=Pr.no/\∀x,x<20->x≠n->(eG k1 n).p x=k.p x/\(eG k1 n).sp.of x=k.sp.of x:=by
 obtain⟨a,sp,tb,hh,s0,fP⟩:=h.first hn hX ho h1 h2;have o1:k1.sp.of n=z+1:=by rw[sp];exact ho
 have o:k1.sp.of n≠0:=bB
 have wn:k1.sp.cr z 1≠n+1:=λe=>hd1 ((iY h.iv h.hs hn ho).2 (by rw[<-sp];exact e));have e1:∀m,m≠n->(eG k1 n).p m=k.p m:=λm c=>(show(eG k1 n).p m=k1.p m from bO _ _ _ _ c).trans (fP m c);have e2:(eG k1 n).p n=Pr.no:=bG _ _ _;have kj:=(a.kj.fin hn s0 hh).mono (Y:=X) (M:=N) (λm _ e=>e.1.elim id (λq=>aZ q e.2)) (aL _);refine⟨⟨kj,a.iv.leave _,a.hs.leave hn n0 o1 wn⟩,⟨λm hm=>?_,λs p hs hp=>?_,λs p m hs hp hm e c=>?_,λs hs e=>?_,λs hs q r=>?_⟩,e2,λx _ c=>⟨e1 x c,by show(Sp.dG k1.sp (n:Int)).of x=_;rw[Sp.kW hn o,aI c,sp]⟩⟩
 .by_cases c:m=n
  .subst c;refine .inr ⟨e2,?_,(h.iv.dh hn ho).1⟩;show(Sp.dG k1.sp (m:Int)).of m=0;rw[Sp.kW hn o,aJ rfl]
  .refine .inl ⟨e1 m c,?_⟩;show(Sp.dG k1.sp (n:Int)).of m=_;rw[Sp.kW hn o,aI c,sp]
 .show(Sp.dG k1.sp (n:Int)).cr s p=_\/(Sp.dG k1.sp (n:Int)).cr s p=0;rw[Sp.mv hn o hs,sp];by_cases c:k.sp.cr s p=n+1
  .rw[aJ c];exact .inr rfl
  .rw[aI c];exact .inl rfl
 .have c2:(Sp.dG k1.sp (n:Int)).of m≠0:=c;rw[Sp.kW hn o]at c2;show(Sp.dG k1.sp (n:Int)).cr s p=_;by_cases q:m=n
  .rw[aJ q]at c2;exact aZ rfl c2
  .rw[Sp.mv hn o hs,sp,nK];exact e
 .have e3:(Sp.dG k1.sp (n:Int)).here s=bw:=e;rw[(Sp.jG hn o).1,sp]at e3;exact e3
 .have e3:(Sp.dG k1.sp (n:Int)).here s=bA:=r;rw[(Sp.jG hn o).1,sp]at e3;rw[q]at e3;cases e3
end
end Kn
namespace Sp
variable {t:T}{d:Nat->Nat}
theorem Tree.lower(h:Tree t d)(hz:z<6)(hh:t.here z=bw)(hy:y∈W t (z:Int))(n:y≠z):d y<d z:=by
 rw[h.step hz hh]at hy;rcases List.mem_cons.1 hy with e|hy
 .exact aZ e n
 .rcases h.im hz hh with⟨_,e,_⟩|⟨p,h1,e,h2,h3⟩
  .rw[e,qh _ _ bB]at hy;cases hy
  .rw[e]at hy;have:=(h.mem h1 h2 y hy).2.2;omega
theorem Inv.zero(h:Inv t d)(hH:ru t)(hz:z<6)(hw:t.cr z 1=n+1)(n0:n≠0):¬mem t z 0:=λc=>by
 have a:=(h.mem_of hz bB c).2;rw[hH.r0.1]at a;rw[show((1-1:Nat):Int)=((0:Nat):Int)from rfl,h.tree.step bB h.tree.root.1,h.tree.root.2.1,qh _ _ bB]at a;have:z=0:=by simpa using a
 subst this;have:=hH.r0.2;omega
theorem Inv.BG(h:Inv t d)(hn:n<20)(hm:m<20)(ho:t.of n=z+1)(hy:t.of m=y+1)(k:mem t z m)(c:y≠z):¬mem t y n:=λe=>by
 obtain⟨_,z6,zh⟩:=h.dh hn ho;obtain⟨_,y6,yh⟩:=h.dh hm hy;have a:=(h.mem_of z6 hm k).2;rw[hy,show y+1-1=y by omega]at a;have b:=(h.mem_of y6 hn e).2;rw[ho,show z+1-1=z by omega]at b;have:=h.tree.lower y6 yh a (bQ c);have:=h.tree.lower z6 zh b c;omega
end Sp
namespace Kn
def Cn(N:Nat)(d:Nat->Nat)(R:Kp->Nat->Kp->Prop):Prop:=∀(X:Nat->Prop) (k:Kp) (n:Nat) (k':Kp) (z:Nat),VI X N d k->n<20->n≠0->¬X n->k.sp.of n=z+1->(hd k n=n->∀m,m<20->X m->¬Sp.mem k.sp z m)->R k n k'->VI X N d k'/\Gz k k' z/\k'.p n=Pr.no/\(hd k n≠n->∀x,x<20->x≠n->k'.p x=k.p x/\k'.sp.of x=k.sp.of x)
structure EI (X:Nat->Prop)(N:Nat)(d:Nat->Nat)(n z:Nat)(k:Kp):Prop where
 vi:VI X N d k
 hn:n<20
 n0:n≠0
 xn:X n
 ho:k.sp.of n=z+1
 hw:k.sp.cr z 1=n+1
 hx:∀m,m<20->X m->m≠n->¬Sp.mem k.sp z m
section
variable {X:Nat->Prop}{N:Nat}{d:Nat->Nat}{k k1 k2 k':Kp}{n z m:Nat}{R:Kp->Nat->Kp->Prop}
theorem EI.z6(h:EI X N d n z k):z<6/\k.sp.here z=bw:=(h.vi.iv.dh h.hn h.ho).2
theorem EI.fE(h:EI X N d n z k):eH k.sp (z:Int)=Sp.fE k.sp z:=by
 unfold eH;rw[Sp.jT h.z6.1 h.z6.2,aJ rfl,hU]
theorem EI.next(h:EI X N d n z k)(hm:(eH k.sp (z:Int))[1]? =bj m):m<20/\m≠0/\m≠n/\¬X m/\Sp.mem k.sp z m/\∃y,k.sp.of m=y+1/\(hd k m=m->∀x,x<20->X x->¬Sp.mem k.sp y x):=by
 rw[h.fE]at hm;obtain⟨m20,mz⟩:=Sp.sL hm (λp hp=>h.vi.iv.qb z p h.z6.1 hp);have mn:=(h.vi.iv.second h.z6.1 h.hw).2 m hm;have m0:m≠0:=λe=>by subst e;exact h.vi.iv.zero h.vi.hs h.z6.1 h.hw h.n0 mz
 have o:=(h.vi.iv.mem_of h.z6.1 m20 mz).1;refine⟨m20,m0,mn,λc=>h.hx m m20 c mn mz,mz,k.sp.of m-1,bB,λhd1 x x20 xx xm=>?_⟩;have hy:k.sp.of m=(k.sp.of m-1)+1:=bB
 by_cases e:x=n
 .subst e;refine h.vi.iv.BG h.hn m20 h.ho hy mz (λc=>?_) xm;have:=(iY h.vi.iv h.vi.hs m20 hy).1 hd1;rw[c,h.hw]at this;omega
 .exact h.hx x x20 xx e (h.vi.iv.DY h.z6.1 m20 x20 hy mz xm)
theorem EI.step(h:EI X N d n z k)(hm:(eH k.sp (z:Int))[1]? =bj m)(hR:Cn N d R)(r:R k m k1):EI X N d n z k1/\Gz k k1 z/\k1.p n=k.p n/\k1.p m=Pr.no:=by
 obtain⟨m20,m0,mn,mx,mz,y,hy,hx⟩:=h.next hm;obtain⟨v1,g1,e1,l1⟩:=hR X k m k1 y h.vi m20 m0 mx hy hx r;have kn:k1.p n=k.p n/\k1.sp.of n=k.sp.of n:=by
  by_cases c:hd k m=m
  .rcases g1.kp n h.hn with q|q
   .exact q
   .exact aZ q.2.2 (hx c n h.hn h.xn)
  .exact l1 c n h.hn (bQ mn)
 have o1:k1.sp.of n=z+1:=kn.2.trans h.ho;have g:Gz k k1 z:=g1.up (λx x20 xm=>h.vi.iv.DY h.z6.1 m20 x20 hy mz xm);exact⟨⟨v1,h.hn,h.n0,h.xn,o1,g.wk z 1 n h.z6.1 bB h.hn h.hw bB,λx x20 xx xn c=>h.hx x x20 xx xn (g.back h.z6.1 c)⟩,g,kn.1,e1⟩
theorem EI.iter(hR:Cn N d R):∀(j:Nat) (k:Kp),EI X N d n z k->jU R (z:Int) j k k'->EI X N d n z k'/\Gz k k' z/\k'.p n=k.p n/\(eH k'.sp (z:Int)).length<=1
 |0,k,h,r=>by
  obtain⟨rfl,hl⟩:=r;exact⟨h,Gz.refl _ _,rfl,hl⟩
 |j+1,k,h,r=>by
  obtain⟨m,k1,hm,r1,r2⟩:=r;obtain⟨a,g,e,_⟩:=h.step hm hR r1;obtain⟨a2,g2,e2,l2⟩:=EI.iter hR j k1 a r2;exact⟨a2,g.trans h.z6.1 g2,e2.trans e,l2⟩
theorem EI.last(h:EI (λm=>X m\/m=n) N d n z k)(hX:¬X n)(hl:(eH k.sp (z:Int)).length<=1)(hh:(k.p n).has=bA)(s0:(k.p n).st≠0):
  VI X N d (mh (eG k n) z)/\Gz k (mh (eG k n) z) z/\(mh (eG k n) z).p n=Pr.no/\Sp.jo (eG k n).sp (z:Int)=0:=by
 have o:k.sp.of n≠0:=by have:=h.ho;omega
 have hn:=h.hn;rw[h.fE]at hl;obtain⟨de,hs⟩:=h.vi.hs.shut h.vi.iv hn h.n0 h.ho h.z6.1 h.z6.2 h.hw (Sp.xF h.hw hl);have kj:=(h.vi.kj.fin hn s0 hh).mono (Y:=X) (M:=N) (λm _ e=>e.1.elim id (λq=>aZ q e.2)) (aL _);have hr:(eG k n).sp.here z=bw:=by show(Sp.dG k.sp (n:Int)).here z=bw;rw[(Sp.jG hn o).1];exact h.z6.2
 have e1:∀m,m≠n->(mh (eG k n) z).p m=k.p m:=λm c=>bO _ _ _ _ c;have e2:(mh (eG k n) z).p n=Pr.no:=bG _ _ _;have es:(mh (eG k n) z).sp={Sp.dG k.sp (n:Int)with here:=Sp.nT (Sp.dG k.sp (n:Int)).here z bA,par:=Sp.gE (Sp.dG k.sp (n:Int)).par z 0}:=by
  show Sp.gx (Sp.dG k.sp (n:Int)) (z:Int)=_;unfold Sp.gx;rw[aJ de,hU]
 refine⟨⟨kj.Wi h.z6.1 hr de,(h.vi.iv.leave _).drop _,hs⟩,⟨λm hm=>?_,λs p hs hp=>?_,λs p m hs hp hm e c=>?_,λs hs e=>?_,λs hs q r m hm mm=>?_⟩,e2,de⟩
 .rw[es];show(_/\(Sp.dG k.sp (n:Int)).of m=_)\/(_/\(Sp.dG k.sp (n:Int)).of m=0/\_);rw[Sp.kW hn o];by_cases c:m=n
  .subst c;exact .inr ⟨e2,aJ rfl,(h.vi.iv.dh hn h.ho).1⟩
  .exact .inl ⟨e1 m c,aI c⟩
 .rw[es];show(Sp.dG k.sp (n:Int)).cr s p=_\/(Sp.dG k.sp (n:Int)).cr s p=0;rw[Sp.mv hn o hs];by_cases c:k.sp.cr s p=n+1
  .rw[aJ c];exact .inr rfl
  .rw[aI c];exact .inl rfl
 .rw[es]at c|-;have c2:(Sp.dG k.sp (n:Int)).of m≠0:=c;rw[Sp.kW hn o]at c2;show(Sp.dG k.sp (n:Int)).cr s p=_;by_cases q:m=n
  .rw[aJ q]at c2;exact aZ rfl c2
  .rw[Sp.mv hn o hs,nK];exact e
 .rw[es]at e;have e3:(if s=z then bA else(Sp.dG k.sp (n:Int)).here s)=bw:=e;by_cases c:s=z
  .rw[aJ c]at e3;cases e3
  .rw[aI c,(Sp.jG hn o).1]at e3;exact e3
 .rw[es]at r|-;have e3:(if s=z then bA else(Sp.dG k.sp (n:Int)).here s)=bA:=r;by_cases c:s=z
  .subst c;obtain⟨p,p21,pw⟩:=mm;have p1:=Sp.xF h.hw hl p p21 bB;subst p1;have:m=n:=by have:=h.hw;omega
   subst this;show(Sp.dG k.sp (m:Int)).of m=0;rw[Sp.kW hn o,aJ rfl]
  .rw[aI c,(Sp.jG hn o).1,q]at e3;cases e3
theorem oH:∀f,Cn N d (jd f)
 |0=>λ_ _ _ _ _ _ _ _ _ _ _ r=>r.elim
 |f+1=>λX k n k' z h hn n0 hX ho hx r=>by
  obtain⟨k1,h1,h2,r⟩:=r;rcases r with⟨c,rfl⟩|⟨c,k2,j,ri,rfl⟩
  .obtain⟨a,b,e,l⟩:=h.lone hn n0 hX ho c h1 h2;exact⟨a,b,e,λ_=>l⟩
  .obtain⟨a,sp,tb,hh,s0,fP⟩:=h.first hn hX ho h1 h2;have zi:Sp.dQ k.sp (n:Int)=z:=Sp.iD hn ho;rw[zi]at ri|-;have ei:EI (λm=>X m\/m=n) N d n z k1:=⟨a,hn,n0, .inr rfl,by rw[sp];exact ho,by rw[sp];exact(iY h.iv h.hs hn ho).1 c,λm m20 xm mn mz=>by
    rw[sp]at mz;exact hx c m m20 (xm.elim id (λq=>aZ q mn)) mz⟩
   obtain⟨b,g,e,l⟩:=EI.iter (oH f) j k1 ei ri;obtain⟨v,g2,e2,_⟩:=b.last hX l (by rw[e];exact hh) (by rw[e];exact s0);have gg:=g.trans ei.z6.1 g2;refine⟨v,⟨λm hm=>?_,λs p hs hp=>?_,λs p m hs hp hm=>?_,λs hs=>?_,λs hs=>?_⟩,e2,λq=>aZ c q⟩
   .by_cases q:m=n
    .subst q;rcases gg.kp m hm with w|w
     .rcases g2.kp m hm with y|y
      .exfalso;have:(k2.p m)=Pr.no:=y.1.symm.trans e2;rw[<-e,this]at s0;exact s0 rfl
      .exact .inr ⟨e2,y.2.1,(h.iv.dh hm ho).1⟩
     .exact .inr ⟨w.1,w.2.1,by rw[<-sp];exact w.2.2⟩
    .have:=gg.kp m hm;rw[fP m q,sp]at this;exact this
   .have:=gg.wh s p hs hp;rw[sp]at this;exact this
   .have:=gg.wk s p m hs hp hm;rw[sp]at this;exact this
   .have:=gg.hr s hs;rw[sp]at this;exact this
   .have:=gg.hk s hs;rw[sp]at this;exact this
end
end Kn
def dS(a b:Nat)(x:Pr):Array Value:=((List.range 12).map λj=>Kn.fv a b x j).toArray
theorem dI(a b:Nat)(x:Pr):(dS a b x).size=12:=by simp[dS]
theorem lZ(a b:Nat)(x:Pr)(j:Nat)(h:j<12):(dS a b x)[j]? =bj (Kn.fv a b x j):=by simp[dS,h]
theorem Sa(a b:Nat)(x:Pr)(j:Nat):(Kn.fv a b x j).oneCell'=bw:=by
 unfold Kn.fv Kn.ptr
 repeat' split
 all_goals rfl
theorem qt(a b:Nat)(x:Pr):(dS a b x).all (·.oneCell')=bw:=Array.all_eq_true_iff_forall_mem.2 (λv hv=>by
 unfold dS at hv;rw[List.mem_toArray]at hv;obtain⟨j,_,rfl⟩:=List.mem_map.1 hv;exact Sa a b x j)
theorem zd(a b:Nat):dS a b Pr.no=#[aa az 0,aa az 0,aa az 0,aa az 0,ai bu,ai bu,aa az 0,aa az 0,aa az 0,aa az 0,aa az 0,aa az 0]:=rfl
section
variable {w w':bD}{Wr:Nat}{s:St}
theorem bP.there(h:bP w Wr s){n:Nat}(hn:n<20):w.there (s.A 0) (n*12) 12:=λj hj=>⟨by rw[h.cP n j hn hj];rfl,h.frozen _⟩
theorem bP.whole(h:bP w Wr s)(hn:n<20){x:Pr}(h1:(s.k.p n).has=bA)(h2:x.has=bA)(a b:Nat):
  bP (w.setCells (s.A 0) (n*12) (dS a b x).toList) Wr {s with k:=s.k.put n x}/\KF s w {s with k:=s.k.put n x} (w.setCells (s.A 0) (n*12) (dS a b x).toList):=by
 obtain⟨C,e,sz⟩:=h.mW;obtain⟨C',e',sz'⟩:=eR (s.A 0) (dS a b x).toList (n*12) w C e;have hl:(dS a b x).toList.length=12:=by rw[aB,dI]
 have f:bH (s.A 0) w (w.setCells (s.A 0) (n*12) (dS a b x).toList):=bH.setCells _ _ (bH.refl _ _);have kJ:∀c d j,Kn.fv c d x j=Kn.fv a b x j:=λc d j=>by
  unfold Kn.fv;rw[h2];rfl
 have dY:∀o,o<253->(w.setCells (s.A 0) (n*12) (dS a b x).toList).cell? ⟨s.A 0,o,bu⟩=bj (Kn.kc {s with k:=s.k.put n x} o):=λo ho=>by
  rw[Kn.yV];by_cases c:o<240/\o/12=n
  .rw[aJ c,kJ];obtain⟨j,rfl,hj⟩:∃j,o=n*12+j/\j<12:=⟨o%12,bB,bB⟩;rw[aS (s.A 0) (dS a b x).toList (n*12) w (λi hi=>by rw[hl]at hi;rw[h.cP n i hn hi];rfl) j bB,<-aW bB,aM,lZ a b x j hj,show(n*12+j)%12=j by omega]
  .rw[aI c,aA (s.A 0) _ (n*12) w ⟨s.A 0,o,bu⟩ (λ_ _=>by rw[hl];show o<_\/_<=o;omega)];exact h.dY o ho
 have o:=h.others cv f;have hp:∀j,((s.k.put n x).p j).has=bw->j≠n/\(s.k.put n x).p j=s.k.p j:=λj hj=>by
  by_cases c:j=n
  .subst c;rw[Kn.bG,h2]at hj;cases hj
  .exact⟨c,Kn.bO _ _ _ _ c⟩
 have pu:=Kn.AU (s:=s) (n:=n) (x:=x) (h2.trans h1.symm);refine⟨⟨⟨C',e',bB⟩,dY,h.sp.same (o 1 cv bB),(o 2 cv bB).trans h.gr,h.sc.same (o 3 cv bB),h.bk.same (o 4 cv bB) (o 5 cv bB),h.fi.same (o 8 cv bB),h.fo.same (o 6 cv bB),h.pi.same (o 7 cv bB),
  λj hj jh=>?_,λj hj jh=>?_,
  λn hn hh=>(h.tb n hn hh).same (o _ (Kn.kF hn hh) bB) (λg eg=>by have:=o _ (Kn.km hn hh eg) bB;rwa [h.ro n hn hh g eg]at this),h.ro,λi j hi hj=>h.inj i j ((pu i).1 hi) ((pu j).1 hj),λi hi=>h.low i ((pu i).1 hi)⟩,KF.one _ cv f rfl (λi hi=>(pu i).1 hi)⟩
 .have q:=hp j jh;rw[q.2]at jh|-;exact(h.me j hj jh).same (o _ (Kn.jf hj jh) bB)
 .have q:=hp j jh;rw[q.2]at jh|-;exact(h.bx j hj jh).same (o _ (Kn.j9 hj jh) bB)
theorem bP.U9(h:bP w Wr s)(hz:z<6)(hh:s.k.ht z=bw){F:Fo}(u:bR w' (s.A 6) F)(k:dM (BF (s.A (49+z)) (s.A 6)) w w'):
  bP (w'.setCell ⟨s.A 0,240+z,bu⟩ (ai bu)) Wr {s with k:={s.k with fo:=F,ht:=λx=>if x=z then bA else s.k.ht x}}/\KF s w {s with k:={s.k with fo:=F,ht:=λx=>if x=z then bA else s.k.ht x}} (w'.setCell ⟨s.A 0,240+z,bu⟩ (ai bu)):=by
 have ut:=Kn.kF hz hh;have o:∀i,us s i->i≠49+z->i≠6->w'.heap[s.A i]? =w.heap[s.A i]? :=λi hi a b=>k.block _ (h.lt hi) (λc=>by
  rcases c with c|c
  .exact h.ne hi ut a c
  .exact h.ne hi cv b c)
 have sb:∀i,us s i->i≠0->(w'.setCell ⟨s.A 0,240+z,bu⟩ (ai bu)).heap[s.A i]? =w'.heap[s.A i]? :=λi hi a=>dR _ _ _ _ (h.ne hi cv a);have oo:∀i,us s i->i≠0->i≠49+z->i≠6->(w'.setCell ⟨s.A 0,240+z,bu⟩ (ai bu)).heap[s.A i]? =w.heap[s.A i]? :=λi hi a b c=>(sb i hi a).trans (o i hi b c);obtain⟨C,e,sz⟩:=h.mW;have e1:w'.heap[s.A 0]? =bj (bh C 86 (0,0)):=(o 0 cv bB bB).trans e;have pu:∀i,us {s with k:={s.k with fo:=F,ht:=λx=>if x=z then bA else s.k.ht x}} i->us s i/\i≠49+z/\i≠55+z:=λi hi=>by
  rcases hi with hi|⟨h1,h2,h3⟩|⟨h1,h2,h3⟩|⟨h1,h2,h3⟩|⟨h1,h2,h3,h4⟩
  .exact⟨.inl hi,bB,bB⟩
  .exact⟨.inr (.inl ⟨h1,h2,h3⟩),bB,bB⟩
  .exact⟨.inr (.inr (.inl ⟨h1,h2,h3⟩)),bB,bB⟩
  .have h5:(if i-49=z then bA else s.k.ht (i-49))=bw:=h3;by_cases c:i-49=z
   .rw[aJ c]at h5;cases h5
   .rw[aI c]at h5;exact⟨.inr (.inr (.inr (.inl ⟨h1,h2,h5⟩))),bB,bB⟩
  .have h5:(if i-55=z then bA else s.k.ht (i-55))=bw:=h3;by_cases c:i-55=z
   .rw[aJ c]at h5;cases h5
   .rw[aI c]at h5;exact⟨.inr (.inr (.inr (.inr ⟨h1,h2,h5,h4⟩))),bB,bB⟩
 have hq:∀n,(if n=z then bA else s.k.ht n)=bw->n≠z/\s.k.ht n=bw:=λn q=>by
  by_cases c:n=z
  .rw[aJ c]at q;cases q
  .rw[aI c]at q;exact⟨c,q⟩
 refine⟨⟨⟨_,cO e1 _ _,by simpa using sz⟩,λx hx=>?_,h.sp.same (oo 1 cv bB bB bB),(oo 2 cv bB bB bB).trans h.gr,h.sc.same (oo 3 cv bB bB bB),h.bk.same (oo 4 cv bB bB bB) (oo 5 cv bB bB bB),h.fi.same (oo 8 cv bB bB bB),u.same (sb 6 cv bB),h.pi.same (oo 7 cv bB bB bB),
  λn hn hh=>(h.me n hn hh).same (oo _ (Kn.jf hn hh) bB bB bB),λn hn hh=>(h.bx n hn hh).same (oo _ (Kn.j9 hn hh) bB bB bB),
  λn hn q=>?_,λn hn q=>h.ro n hn (hq n q).2,λi j hi hj=>h.inj i j (pu i hi).1 (pu j hj).1,λi hi=>h.low i (pu i hi).1⟩,
  ⟨(k.mono (λb _ c=>by
   rcases c with c|c
   .exact⟨_,ut,c⟩
   .exact⟨6,cv,c⟩)).setCell ⟨0,cv,rfl⟩ _ _,λb ⟨i,hi,eb⟩=> .inl ⟨i,(pu i hi).1,eb⟩,rfl⟩⟩
 .by_cases c:x=240+z
  .subst c;rw[dE e1 _ _ bB];unfold Kn.kc;rw[nK,nL,show 240+z-240=z by omega];show _=bj (Kn.ptr _ (if z=z then bA else _));rw[aJ rfl];rfl
  .rw[du e1 _ _ _ (bQ c),bS e1,<-bS e,h.dY x hx];unfold Kn.kc;by_cases c1:x<240
   .rw[aJ c1,aJ c1];rfl
   .rw[aI c1,aI c1];by_cases c2:x<246
    .rw[aJ c2,aJ c2];have hy:x-240≠z:=bB
     generalize x-240=y at hy|-;show bj (Kn.ptr (s.A (49+y)) (s.k.ht y))=bj (Kn.ptr (s.A (49+y)) (if y=z then bA else s.k.ht y));rw[aI hy]
    .rw[aI c2,aI c2]
 .have q2:=hq n q;exact(h.tb n hn q2.2).same (oo _ (Kn.kF hn q2.2) bB bB bB) (λg eg=>by have:=oo _ (Kn.km hn q2.2 eg) bB bB bB;rwa [h.ro n hn q2.2 g eg]at this)
end
theorem Rn{P Q:Nat->Bool}(h:∀x,P x=bw->Q x=bw)(hQ:Q a=bw)(hP:P a=bA):∀n,a<n->((List.range n).filter P).length<((List.range n).filter Q).length:=by
 have le:∀n,((List.range n).filter P).length<=((List.range n).filter Q).length:=λn=>by
  induction n with
  |zero=>exact aL _
  |succ n ih=>
   rw[List.range_succ,List.filter_append,List.filter_append,List.length_append,List.length_append];cases hp:P n
   .simp[hp];omega
   .simp[hp,h n hp];omega
 intro n
 induction n with
 |zero=>intro c;omega
 |succ n ih=>
  intro c;rw[List.range_succ,List.filter_append,List.filter_append,List.length_append,List.length_append];by_cases e:a=n
  .subst e;have:=le a;simp[hP,hQ];omega
  .have:=ih bB;cases hp:P n
   .simp[hp];omega
   .simp[hp,h n hp];omega
namespace Kn
theorem EI.UP{k k1:Kp}(h:EI X N d n z k)(h1:EI X N d n z k1)(g:Gz k k1 z)(m20:m<20)(mz:Sp.mem k.sp z m)(e:k1.p m=Pr.no):(eH k1.sp (z:Int)).length<(eH k.sp (z:Int)).length:=by
 rw[h.fE,h1.fE];unfold Sp.fE;rw[List.length_map,List.length_map];obtain⟨p,p21,pw⟩:=mz;have o:k1.sp.of m=0:=by
  cases q:k1.sp.of m with
  |zero=>rfl
  |succ y=>exact aZ (show(k1.p m).st=0 by rw[e];rfl) ((h1.vi.kj.of m m20).1 (by rw[q];omega))
 have w0:k1.sp.cr z p=0:=by
  rcases g.wh z p h.z6.1 p21 with c|c
  .exact aZ o (h1.vi.iv.mem_of h1.z6.1 m20 ⟨p,p21,by rw[c];exact pw⟩).1
  .exact c
 have key:∀q,(Sp.jH k1.sp z q&&decide (q<21))=bw->(Sp.jH k.sp z q&&decide (q<21))=bw:=λq hq=>by
  have hq2:k1.sp.cr z q≠0/\q<21:=by simpa[Sp.jH]using hq
  rcases g.wh z q h.z6.1 hq2.2 with c|c
  .simp[Sp.jH,<-c,hq2]
  .exact aZ c hq2.1
 have eq:∀t:Sp.T,(List.range 21).filter (Sp.jH t z)=(List.range 21).filter (λq=>Sp.jH t z q&&decide (q<21)):=λt=>List.filter_congr (λq hq=>by
  have:q<21:=by simpa using hq
  simp[this])
 rw[eq k1.sp,eq k.sp];exact Rn key (a:=p) (by simp[Sp.jH,pw,p21]) (by simp[Sp.jH,w0]) 21 p21
end Kn
open Kn (Pr Kp St us KB KJ VI EI)
def VR:Value->Nat
 |aj _ n _=>n
 |_=>0
def Ig(Wr N:Nat)(d:Nat->Nat)(r:Nat):Prop:=∀(X:Nat->Prop) (s:St) (w:bD) (n z:Nat),bP w Wr s->VI X N d s.k->n<20->n≠0->¬X n->s.k.sp.of n=z+1->(Kn.hd s.k n=n->6<=d z+r/\∀m,m<20->X m->¬Sp.mem s.k.sp z m)->1<=r->
 Calls prog 73 #[ai (bj ⟨s.A 0,0,bu⟩),aa az n] w λe w'=>∃k',e=bf (ao #[])/\Kn.jd r s.k n k'/\bP w' Wr {s with k:=k'}/\KF s w {s with k:=k'} w'
theorem Kn.EI.Tq{k:Kp}(h:EI X N d n z k)(m20:m<20)(mn:m≠n)(mz:Sp.mem k.sp z m)(hy:k.sp.of m=y+1)(c:Kn.hd k m=m):d z<d y:=by
 obtain⟨_,y6,yh⟩:=h.vi.iv.dh m20 hy;have a:=(h.vi.iv.mem_of h.z6.1 m20 mz).2;rw[hy,show y+1-1=y by omega]at a;refine h.vi.iv.tree.lower y6 yh a (λe=>?_);have:=(Kn.iY h.vi.iv h.vi.hs m20 hy).1 c;rw[<-e,h.hw]at this;omega
section
variable (Wr N:Nat)(d:Nat->Nat)(r:Nat)(X:Nat->Prop)(s:St)(w:bD)(n z:Nat)
theorem yW(hV:Ig Wr N d r)(hr:1<=r)(hz:5<=d z+r)(h:bP w Wr s)(he:EI X N d n z s.k):
  Calls prog 149 #[ai (bj ⟨s.A 0,0,bu⟩),aa az n] w λe w'=>∃k' j,e=bf (ao #[])/\Kn.jU (Kn.jd r) (z:Int) j s.k k'/\bP w' Wr {s with k:=k'}/\KF s w {s with k:=k'} w':=by
 have SP:=hZ (iP Wr s w (n:Int) h);have zi:Sp.dQ s.k.sp (n:Int)=z:=Sp.iD he.hn he.ho;rw[zi]at SP;have MM:=hZ (qO Wr s w (z:Int) h);obtain⟨kb,hkb⟩:=nJ (s.A 0);have HK:=hZ hkb;have H:=hZ (aK h he);have HV:=hZ (aK hV (aK hr hz));rw[hkb]at SP MM|-;clear h he hV hr hz zi;go_in
 go_wp2_with fail
 refine SP.mono ?_;rintro e w1 ⟨rfl,hw⟩;subst w1;go_wp2_with fail
 refine MM.mono ?_;rintro e w1 ⟨v1,rfl,hL⟩;have S1:Hid (EI X N d n z s.k/\bP w1 Wr {s with k:=s.k}/\KF s w {s with k:=s.k} w1/\LO w (eH s.k.sp (z:Int)) v1 w1/\∀k' j,Kn.jU (Kn.jd r) (z:Int) j s.k k'->∃j',Kn.jU (Kn.jd r) (z:Int) j' s.k k'):=hZ ⟨H.2,H.1.below hL.cZ,KF.below hL.cZ,hL,λk' j q=>⟨j,q⟩⟩;clear hL SP MM;go_wp2_with fail
 go_loopw [5] (λv wr=>∃(k:Kp) (w0:bD),Hid (EI X N d n z k/\bP wr Wr {s with k:=k}/\KF s w {s with k:=k} wr/\LO w0 (eH k.sp (z:Int)) v wr/\∀k' j,Kn.jU (Kn.jd r) (z:Int) j k k'->∃j',Kn.jU (Kn.jd r) (z:Int) j' s.k k')) (λv _=>VR v)
 case atStart=>exact⟨s.k,w,S1⟩
 case round=>
  clear S1;obtain⟨k,w0,S⟩:=hrel;by_cases hl:1<(eH k.sp (z:Int)).length
  .obtain⟨gg,cap,hv,hg,hc⟩:=S.2.2.2.1.cells bB;have HVV:=hZ hv;obtain⟨m,hm⟩:∃m,(eH k.sp (z:Int))[1]? =bj m:=⟨_,aW hl⟩;have c1:=hc 1 hl;have cm:wr.cell? ⟨gg,1,bu⟩=bj (aa az (m:Int)):=by
    rw[show 0+1=1 from rfl]at c1;rw[c1];simp[aF,hm]
   obtain⟨m20,m0,mn,mx,mz,y,hy,hx⟩:=S.1.next hm;have DD:Hid (Kn.hd k m=m->6<=d y+r/\∀x,x<20->X x->¬Sp.mem k.sp y x):=hZ (λc=>⟨by have:=S.1.Tq m20 mn mz hy c;have:=HV.2.2;omega,hx c⟩);have VC:=hZ (HV.1 X {s with k:=k} wr m y S.2.1 S.1.vi m20 m0 mx hy DD.v HV.2.1);rw[show({s with k:=k}:St).A 0=kb from HK.v]at VC;have HM:=hZ (aK hm (aK m20 mz));obtain⟨LL,hLL⟩:=nJ ((eH k.sp (z:Int)).length);have HLL:=hZ hLL;rw[hLL]at hv hl;subst hv;have hlI:(1:Int)<(LL:Int):=bB
   clear hc c1 hm hy hx mx mz hLL hg m0 mn;go_wp2_with fail
   refine VC.mono ?_;rintro e w2 ⟨k1,rfl,hvan,ka,kf⟩;have ST:=hZ (S.1.step HM.1 (Kn.oH r) hvan);have S2:Hid (bP w2 Wr {s with k:=k1}/\KF s w {s with k:=k1} w2/\Kn.jd r k m k1):=hZ ⟨ka,S.2.2.1.trans kf,hvan⟩;clear ka kf hvan cm;have MM:=hZ (qO Wr {s with k:=k1} w2 (z:Int) S2.1);rw[show({s with k:=k1}:St).A 0=kb from HK.v]at MM;go_wp2_with fail
   refine MM.mono ?_;rintro e w3 ⟨v3,rfl,hL3⟩;have S3:Hid (EI X N d n z k1/\bP w3 Wr {s with k:=k1}/\KF s w {s with k:=k1} w3/\LO w2 (eH k1.sp (z:Int)) v3 w3/\∀k' j,Kn.jU (Kn.jd r) (z:Int) j k1 k'->∃j',Kn.jU (Kn.jd r) (z:Int) j' s.k k'):=hZ ⟨ST.1,S2.1.below hL3.cZ,S2.2.1.trans (KF.below hL3.cZ),hL3,λk' j q=>S.2.2.2.2 k' (j+1) ⟨m,k1,HM.1,S2.2.2,q⟩⟩;obtain⟨a3,c3,hv3⟩:=gJ hL3.own;have FW:Hid ((eH k1.sp (z:Int)).length<LL):=hZ (by rw[<-HLL.v];exact S.1.UP ST.1 ST.2.1 HM.2.1 HM.2.2 ST.2.2.2);obtain⟨L3,hL3e⟩:=nJ ((eH k1.sp (z:Int)).length);rw[hL3e]at hv3 FW;subst hv3;clear hL3 hL3e;go_wp2
   go_roundw
   case rel=>exact⟨k1,w2,S3⟩
   case measure=>exact FW.v
  .obtain⟨a3,c3,hv3⟩:=gJ S.2.2.2.1.own;have FIN:Hid (∃j,Kn.jU (Kn.jd r) (z:Int) j s.k k):=hZ (S.2.2.2.2 k 0 ⟨rfl,bB⟩);obtain⟨LL,hLL⟩:=nJ ((eH k.sp (z:Int)).length);rw[hLL]at hv3 hl;have hlI:¬(1:Int)<(LL:Int):=bB
   have S2:Hid (bP wr Wr {s with k:=k}/\KF s w {s with k:=k} wr):=hZ ⟨S.2.1,S.2.2.1⟩;clear S hLL;subst hv3;go_wp2_with fail
   go_end0
   obtain⟨j,hj⟩:=FIN.v;exact⟨rfl,k,⟨j,hj⟩,S2.v⟩
end
namespace Kn
theorem VI.Wc{k k1 k2:Kp}(h:VI X N d k)(hn:n<20)(n0:n≠0)(hX:¬X n)(ho:k.sp.of n=z+1)(hx:hd k n=n->∀m,m<20->X m->¬Sp.mem k.sp z m)(h1:lv k n=bw->fY k n k1)(h2:lv k n=bA->k1=k)
  (h3:hd k n≠n->k2=k1) (h4:hd k n=n->∃j,jU (jd r) (z:Int) j k1 k2):VI (λm=>X m\/m=n) N d k2/\(k2.p n).has=bA/\k2.sp.of n=z+1:=by
 obtain⟨a,sp,tb,hh,s0,fP⟩:=h.first hn hX ho h1 h2;by_cases c:hd k n=n
 .obtain⟨j,ri⟩:=h4 c;have ei:EI (λm=>X m\/m=n) N d n z k1:=⟨a,hn,n0, .inr rfl,by rw[sp];exact ho,by rw[sp];exact(iY h.iv h.hs hn ho).1 c,λm m20 xm mn mz=>by
   rw[sp]at mz;exact hx c m m20 (xm.elim id (λq=>aZ q mn)) mz⟩
  obtain⟨b,g,e,l⟩:=EI.iter (oH r) j k1 ei ri;exact⟨b.vi,by rw[e];exact hh,b.ho⟩
 .have:=h3 c;subst this;exact⟨a,hh,by rw[sp];exact ho⟩
theorem VI.ei{k k1:Kp}(h:VI X N d k)(hn:n<20)(n0:n≠0)(hX:¬X n)(ho:k.sp.of n=z+1)(c:hd k n=n)(hx:∀m,m<20->X m->¬Sp.mem k.sp z m)(h1:lv k n=bw->fY k n k1)(h2:lv k n=bA->k1=k):EI (λm=>X m\/m=n) N d n z k1:=by
 obtain⟨a,sp,tb,hh,s0,fP⟩:=h.first hn hX ho h1 h2;exact⟨a,hn,n0, .inr rfl,by rw[sp];exact ho,by rw[sp];exact(iY h.iv h.hs hn ho).1 c,λm m20 xm mn mz=>by
  rw[sp]at mz;exact hx m m20 (xm.elim id (λq=>aZ q mn)) mz⟩
end Kn
section
variable {ops:Array Oper}{rest:List Oper}{x:Oper}{a:Act}{w:bD}{Q:Exit->Act->bD->Prop}
theorem BJ(a b:Nat):prog.built 74 []=bj (dS a b Pr.no):=by rw[zd];kernel_rfl
theorem zM(hgd:x.guard=bu)(ho:x.op= .build 74 #[])(h:wpList prog ops Q rest (a.put x.dst (au (dS 0 0 Pr.no))) w):wpList prog ops Q (x::rest) a w:=
 wpList_build hgd 74 #[] ho (by simp[BJ 0 0]) (by simpa[BJ 0 0]using h)
end
theorem DF(Wr N:Nat)(d:Nat->Nat)(r:Nat)(hN:N<=900)(hV:1<=r->Ig Wr N d r):Ig Wr N d (r+1):=by
 intro X s w n z h hv hn n0 hX ho hx hr;have hnI:(n:Int)<20:=bB
 obtain⟨_,z6,zh⟩:=hv.iv.dh hn ho;have z6I:(z:Int)<6:=bB
 obtain⟨tl,htl⟩:=nJ (Kn.lv s.k n);obtain⟨th,hth⟩:=nJ (decide (Kn.hd s.k n=n));have SP:=hZ (iP Wr s w (n:Int) h);rw[Sp.iD hn ho]at SP;have IH:=hZ (mX Wr s w n h th hth);have LV:=hZ (jt Wr s w n h hn tl htl);have KS:=hZ (λ(c:Kn.lv s.k n=bw)=>y8 Wr s w X N n h hv.kj hN hn (hv.kj.lv n hn hX (by unfold Kn.lv at c;simpa using c)));have HT:Hid ((Kn.lv s.k n=bw->tl=bw)/\(Kn.lv s.k n=bA->tl=bA)/\(tl=bw->Kn.lv s.k n=bw)/\(th=bw->Kn.hd s.k n=n)/\(th=bA->Kn.hd s.k n≠n)):=hZ ⟨λc=>by rw[<-htl];exact c,λc=>by rw[<-htl];exact c,λc=>by rw[htl];exact c,λc=>by rw[<-hth]at c;exact of_decide_eq_true c,λc=>by rw[<-hth]at c;exact of_decide_eq_false c⟩;obtain⟨kb,hkb⟩:=nJ (s.A 0);have HK:=hZ hkb;have H:=hZ (aK h (aK hv (aK hX (aK ho hx))));have HV:=hZ (aK hV (aK hN zh));rw[hkb]at SP IH LV KS|-;go_in
 go_wp2_with fail
 refine sC SP.v ?_;rintro w1 hw;subst w1;go_wp2_with fail
 refine sC IH.v ?_;rintro w1 hw;subst w1;go_wp2_with fail
 refine sC LV.v ?_;rintro w1 hw;subst w1;go_upto_if 14 with fail
 go_cut [15]from 16 to 17 (λ_ wx=>∃k1,Hid (bP wx Wr {s with k:=k1}/\KF s w {s with k:=k1} wx/\(Kn.lv s.k n=bw->Kn.fY s.k n k1)/\(Kn.lv s.k n=bA->k1=s.k)))
 case first=>
  cases tl
  .go_wp2
   go_meet
   case rel=>exact⟨s.k,hZ ⟨H.1,KF.refl _ _,λc=>aZ (HT.1 c) bE,λ_=>rfl⟩⟩
  .go_wp2_with fail
   refine(KS.v (HT.2.2.1 (by first|rfl|trivial))).mono ?_;rintro e w2 ⟨k1,rfl,st,ka,kf⟩;have S2:Hid (bP w2 Wr {s with k:=k1}/\KF s w {s with k:=k1} w2/\(Kn.lv s.k n=bw->Kn.fY s.k n k1)/\(Kn.lv s.k n=bA->k1=s.k)):=hZ ⟨ka,kf,λ_=>st,λc=>aZ (HT.2.1 c) bE⟩;go_wp2
   go_meet
   case rel=>exact⟨k1,S2⟩
 obtain⟨k1,S1⟩:=hcut;go_upto_if 18 with fail
 go_cut [19]from 20 to 21 (λ_ wx=>∃k2,Hid (bP wx Wr {s with k:=k2}/\KF s w {s with k:=k2} wx/\(Kn.hd s.k n≠n->k2=k1)/\(Kn.hd s.k n=n->∃j,Kn.jU (Kn.jd r) (z:Int) j k1 k2)))
 case first=>
  cases th
  .go_wp2
   go_meet
   case rel=>exact⟨k1,hZ ⟨S1.1,S1.2.1,λ_=>rfl,λc=>aZ c (HT.2.2.2.2 (by first|rfl|trivial))⟩⟩
  .have hd1:=HT.2.2.2.1 (by first|rfl|trivial);have HD:=hZ hd1;have DZ:Hid (1<=r/\5<=d z+r):=hZ (by
    have a:=(H.2.2.2.2 hd1).1;have b:=(H.2.1.iv.tree.le z z6 HV.2.2).2;omega)
   have EE:=hZ (H.2.1.ei hn n0 H.2.2.1 H.2.2.2.1 hd1 (H.2.2.2.2 hd1).2 S1.2.2.1 S1.2.2.2);have EM:=hZ (yW Wr N d r _ {s with k:=k1} wc n z (HV.1 DZ.1) DZ.1 DZ.2 S1.1 EE.v);rw[show({s with k:=k1}:St).A 0=kb from HK.v]at EM;go_wp2_with fail
   refine EM.mono ?_;rintro e w2 ⟨k2,j,rfl,it,ka,kf⟩;have S2:Hid (bP w2 Wr {s with k:=k2}/\KF s w {s with k:=k2} w2/\(Kn.hd s.k n≠n->k2=k1)/\(Kn.hd s.k n=n->∃j,Kn.jU (Kn.jd r) (z:Int) j k1 k2)):=hZ ⟨ka,S1.2.1.trans kf,λc=>aZ HD.v c,λ_=>⟨j,it⟩⟩;go_wp2
   go_meet
   case rel=>exact⟨k2,S2⟩
 obtain⟨k2,S2⟩:=hcut;have MD:=hZ (H.2.1.Wc hn n0 H.2.2.1 H.2.2.2.1 (λc=>(H.2.2.2.2 c).2) S1.2.2.1 S1.2.2.2 S2.2.2.1 S2.2.2.2);have RES:Hid ((Kn.hd s.k n≠n->Kn.jd (r+1) s.k n (Kn.eG k2 n))/\(Kn.hd s.k n=n->Kn.jd (r+1) s.k n (Kn.mh (Kn.eG k2 n) z))):=hZ ⟨λc=>⟨k1,S1.2.2.1,S1.2.2.2, .inl ⟨c,by rw[S2.2.2.1 c]⟩⟩,λc=>⟨k1,S1.2.2.1,S1.2.2.2, .inr ⟨c,k2,by
  rw[Sp.iD hn H.2.2.2.1];obtain⟨j,it⟩:=S2.2.2.2 c;exact⟨j,it,rfl⟩⟩⟩⟩
 have S3:Hid (bP wc Wr {s with k:=k2}/\KF s w {s with k:=k2} wc):=hZ ⟨S2.1,S2.2.1⟩;go_upto_region 5 with fail
 obtain⟨g2,hg2⟩:=nJ (s.A 2);have HG:=hZ hg2;obtain⟨gz,hgz⟩:=nJ ((k2.p n).cD);have HGZ:=hZ hgz;have KC:Hid (∀W k,bP W Wr {s with k:=k}->(k.p n).cD=gz->W.cell? ⟨kb,247,bu⟩=bj (ai (bj ⟨g2,0,bu⟩))/\W.cell? ⟨kb,n*12+2,bu⟩=bj (aa az gz)):=hZ (λW k hW e=>by
  have a:=hW.pG;have b:=hW.pU n hn;rw[show({s with k:=k}:St).A 0=kb from HK.v]at a b;rw[show({s with k:=k}:St).A 2=g2 from HG.v]at a;have b2:W.cell? ⟨kb,n*12+2,bu⟩=bj (aa az (k.p n).cD):=b;rw[e]at b2;exact⟨a,b2⟩)
 have K0:=hZ (KC.v wc k2 S3.1 hgz);have UC:=hZ (Gr.iT (s.A 2) (k2.p n).cD 1 0 k2.gr wc.drew S3.1.drew.gr (by obtain⟨Wy,g⟩:=MD.1.kj.gr;exact g.small (by have:=HV.2.1;omega)));rw[hg2,hgz]at UC;obtain⟨y1,y2⟩:=K0.v;go_region_held3 (λw'=>w'.cell? ⟨kb,247,bu⟩=bj (ai (bj ⟨g2,0,bu⟩))/\w'.cell? ⟨kb,n*12+2,bu⟩=bj (aa az gz)) (first|exact K0.v|exact K4.v) (
  (go_at_call 67;refine sC UC.v ?_;rintro w4 ⟨t4,f4⟩;have S4:Hid (bP w4 Wr {s with k:={k2 with gr:=Gr.dD k2.gr (k2.p n).cD 1 0}}/\KF s w {s with k:={k2 with gr:=Gr.dD k2.gr (k2.p n).cD 1 0}} w4):=hZ (by
    rw[<-HG.v]at t4 f4;rw[<-HGZ.v]at t4;have q:=S3.1.drew.kv t4 f4.sW;exact⟨q.1,S3.2.trans ((KF.drew _ _).trans q.2)⟩);have K4:=hZ (KC.v w4 _ S4.1 HGZ.v)))
 generalize Gr.bN (Gr.gm k2.gr gz 1 0)=ev;have c6:=S4.1.wQ;rw[show({s with k:={k2 with gr:=Gr.dD k2.gr (k2.p n).cD 1 0}}:St).A 0=kb from HK.v]at c6;obtain⟨p1,hp1⟩:=nJ (s.A 1);have HP:=hZ hp1;have LE:=hZ (Lo (s.A 1) (n:Int) k2.sp d w4 S4.1.sp MD.1.iv);rw[show({s with k:={k2 with gr:=Gr.dD k2.gr (k2.p n).cD 1 0}}:St).A 1=p1 from hp1]at c6;rw[hp1]at LE;go_wp2_with fail
 refine sC LE.v ?_;rintro w5 ⟨t5,f5⟩;generalize bN (Sp.mL k2.sp (n:Int))=ev2;have S5:Hid (bP w5 Wr {s with k:={k2 with gr:=Gr.dD k2.gr (k2.p n).cD 1 0,sp:=Sp.dG k2.sp (n:Int)}}/\KF s w {s with k:={k2 with gr:=Gr.dD k2.gr (k2.p n).cD 1 0,sp:=Sp.dG k2.sp (n:Int)}} w5):=hZ (by
  rw[<-HP.v]at t5 f5;have q:=S4.1.zm t5 f5;exact⟨q.1,S4.2.trans q.2⟩)
 have TH:Hid (w5.there kb (n*12) (dS 0 0 Pr.no).size):=hZ (by rw[dI,<-HK.v];exact S5.1.there hn);have SZ:Hid ((prog.info? 74).map (·.size)=bj (dS 0 0 Pr.no).size):=hZ (by rw[dI];kernel_rfl);have S6:Hid (bP (w5.setCells kb (n*12) (dS 0 0 Pr.no).toList) Wr {s with k:=Kn.eG k2 n}/\KF s w {s with k:=Kn.eG k2 n} (w5.setCells kb (n*12) (dS 0 0 Pr.no).toList)):=hZ (by
  have q:=S5.1.whole hn (x:=Pr.no) MD.2.1 rfl 0 0;rw[show({s with k:={k2 with gr:=Gr.dD k2.gr (k2.p n).cD 1 0,sp:=Sp.dG k2.sp (n:Int)}}:St).A 0=kb from HK.v]at q;exact⟨q.1,S5.2.trans q.2⟩)
 obtain⟨PA,hPA⟩:=nJ (dS 0 0 Pr.no);have H1:Hid (PA.all (·.oneCell')=bw):=hZ (by rw[<-hPA];exact qt 0 0 Pr.no);rw[hPA]at TH SZ S6;cases th
 .have FIN:=hZ (RES.1 (HT.2.2.2.2 (by first|rfl|trivial)));go_wp2_with (first|(refine zM rfl rfl ?_;rw[hPA])|(refine wpList_store_mid rfl 74 _ _ rfl kb (n*12) PA rfl rfl TH.v SZ.v H1.v ?_))
  go_end0
  exact⟨_,rfl,FIN.v,S6.v⟩
 .have FIN:=hZ (RES.2 (HT.2.2.2.1 (by first|rfl|trivial)));go_upto_region 9 with(first|(refine zM rfl rfl ?_;rw[hPA])|(refine wpList_store_mid rfl 74 _ _ rfl kb (n*12) PA rfl rfl TH.v SZ.v H1.v ?_))
  generalize w5.setCells kb (n*12) PA.toList=w6 at*;have HH:Hid (k2.ht z=bw):=hZ (by
   obtain⟨_,_,b⟩:=MD.1.iv.dh hn MD.2.2;rw[MD.1.kj.ht z z6];exact b)
  have c6:=S6.1.wQ;rw[show({s with k:=Kn.eG k2 n}:St).A 0=kb from HK.v,show({s with k:=Kn.eG k2 n}:St).A 1=p1 from HP.v]at c6;have DR:=hZ (NR (s.A 1) (z:Int) (Kn.eG k2 n).sp w6 S6.1.sp);rw[HP.v]at DR;go_wp2_with fail
  refine sC DR.v ?_;rintro w7 ⟨t7,f7⟩;generalize bN (Sp.jo (Kn.eG k2 n).sp (z:Int))=ev3;have S7:Hid (bP w7 Wr {s with k:={Kn.eG k2 n with sp:=Sp.gx (Kn.eG k2 n).sp (z:Int)}}/\KF s w {s with k:={Kn.eG k2 n with sp:=Sp.gx (Kn.eG k2 n).sp (z:Int)}} w7):=hZ (by
   rw[<-HP.v]at t7 f7;have q:=S6.1.zm t7 f7;exact⟨q.1,S6.2.trans q.2⟩)
  have ct:=S7.1.Ns z z6 HH.v;rw[show({s with k:={Kn.eG k2 n with sp:=Sp.gx (Kn.eG k2 n).sp (z:Int)}}:St).A 0=kb from HK.v]at ct;obtain⟨tbk,htbk⟩:=nJ (s.A (49+z));have HTB:=hZ htbk;rw[show({s with k:={Kn.eG k2 n with sp:=Sp.gx (Kn.eG k2 n).sp (z:Int)}}:St).A (49+z)=tbk from htbk]at ct;have CL:=hZ (Kf Wr (s.A (49+z)) (s.A 6) 102 (k2.tb z) (s.V z) k2.fo w7 (S7.1.tb z z6 HH.v) S7.1.fo MD.1.kj.hb bE);rw[htbk]at CL;go_wp2_with fail
  refine sC CL.v ?_;rintro w8 ⟨u8,f8⟩;have S8:Hid (bP (w8.setCell ⟨kb,240+z,bu⟩ (ai bu)) Wr {s with k:=Kn.mh (Kn.eG k2 n) z}/\KF s w {s with k:=Kn.mh (Kn.eG k2 n) z} (w8.setCell ⟨kb,240+z,bu⟩ (ai bu))):=hZ (by
   rw[<-HTB.v]at f8;have q:=S7.1.U9 z6 HH.v u8 f8;rw[show({s with k:={Kn.eG k2 n with sp:=Sp.gx (Kn.eG k2 n).sp (z:Int)}}:St).A 0=kb from HK.v]at q;exact⟨q.1,S7.2.trans q.2⟩)
  have hb8:w8.heap[kb]? =w7.heap[kb]? :=by
   refine f8.block kb ?_ ?_
   .rw[<-HK.v];exact S7.1.lt cv
   .rintro(c|c)
    .rw[<-HK.v,<-HTB.v]at c;exact S7.1.ne cv (Kn.kF z6 HH.v) bB c
    .rw[<-HK.v]at c;exact S7.1.ne cv cv bB c
  have ct8:w8.cell? ⟨kb,240+z,bu⟩=bj (ai (bj ⟨tbk,0,bu⟩)):=by
   rw[<-ct];exact aV hb8
  have fz:∀o,(w8).frozen? ⟨kb,o,bu⟩=bA:=λo=>by
   have q:=S7.1.frozen o;rw[show({s with k:={Kn.eG k2 n with sp:=Sp.gx (Kn.eG k2 n).sp (z:Int)}}:St).A 0=kb from HK.v]at q;rw[<-q];exact World.frozen?_of_block hb8
  go_wp2_with fail
  go_end0
  exact⟨_,rfl,FIN.v,S8.v⟩
theorem qP(Wr N:Nat)(d:Nat->Nat)(hN:N<=900):∀r,Ig Wr N d r
 |0=>λ_ _ _ _ _ _ _ _ _ _ _ _ h=>aZ h bB
 |r+1=>DF Wr N d r hN (λ_=>qP Wr N d hN r)
theorem FQ(Wr N:Nat)(d:Nat->Nat)(hN:N<=900)(X:Nat->Prop)(s:St)(w:bD)(n z:Nat)(h:bP w Wr s)(hv:VI X N d s.k)(hn:n<20)(n0:n≠0)(hX:¬X n)(ho:s.k.sp.of n=z+1)(hx:Kn.hd s.k n=n->∀m,m<20->X m->¬Sp.mem s.k.sp z m):
  Calls prog 73 #[ai (bj ⟨s.A 0,0,bu⟩),aa az n] w λe w'=>∃k',e=bf (ao #[])/\Kn.jd 6 s.k n k'/\bP w' Wr {s with k:=k'}/\KF s w {s with k:=k'} w':=
 qP Wr N d hN 6 X s w n z h hv hn n0 hX ho (λc=>⟨by omega,hx c⟩) bB
theorem Kn.xE(t:Sp.T)(z:Int):(eH t z).length<=21:=by
 unfold eH;split
 .unfold Sp.fE;rw[List.length_map];exact aH (bW _ _) (by simp)
 .simp
def Kn.iW(k:Kp)(n:Int)(L:List Nat):List Nat:=L.filter (λm=>decide ((k.p m).par=n))
theorem Kn.Q9{k:Kp}{n:Int}(h:L[i]? =bj m)(e:(k.p m).par=n):Kn.iW k n (L.take (i+1))=Kn.iW k n (L.take i)++[m]:=by
 unfold Kn.iW;rw[List.take_add_one,List.filter_append,h];simp[e]
theorem Kn.Tm{k:Kp}{n:Int}(h:L[i]? =bj m)(e:(k.p m).par≠n):Kn.iW k n (L.take (i+1))=Kn.iW k n (L.take i):=by
 unfold Kn.iW;rw[List.take_add_one,List.filter_append,h];simp[e]
theorem Kn.Ab(k:Kp)(n:Int)(L:List Nat):(Kn.iW k n L).length<=L.length:=bW _ _
def Kn.iC(k:Kp)(n:Nat):List Nat:=Kn.iW k (n:Int) (eH k.sp ((Sp.dQ k.sp (n:Int):Nat):Int))
section
variable (Wr:Nat)(s:St)(w:bD)
theorem ux(n:Nat)(h:bP w Wr s)(hM:∀x∈eH s.k.sp ((Sp.dQ s.k.sp (n:Int):Nat):Int),x<20):
  Calls prog 72 #[ai (bj ⟨s.A 0,0,bu⟩),aa az n] w λe w'=>∃v w0,e=bf v/\Below w.heap.size w w0/\LO w0 (Kn.iC s.k n) v w':=by
 obtain⟨i0,hi,hz0,hz1,hz2⟩:=info_parts yT;have SP:=hZ (iP Wr s w (n:Int) h);have MM:=hZ (qO Wr s w ((Sp.dQ s.k.sp (n:Int):Nat):Int) h);have HL:Hid ((eH s.k.sp ((Sp.dQ s.k.sp (n:Int):Nat):Int)).length<=21):=hZ (Kn.xE _ _);unfold Kn.iC;generalize Sp.dQ s.k.sp (n:Int)=z at*;generalize eH s.k.sp (z:Int)=L at*;have H:=hZ (aK h hM);obtain⟨kb,hkb⟩:=nJ (s.A 0);have HK:=hZ hkb;rw[hkb]at SP MM|-;go_in
 go_wp2_with fail
 refine SP.mono ?_;rintro e w1 ⟨rfl,hw⟩;subst w1;go_wp2_with fail
 refine MM.mono ?_;rintro e w1 ⟨v1,rfl,hL⟩;obtain⟨a1,c1,hv1⟩:=gJ hL.own;obtain⟨NN,hNN⟩:=nJ (L.length);have HN:=hZ hNN;have hN21:NN<=21:=by rw[<-hNN];exact HL.v
 have LL:=hZ hL;have KW:=hZ (H.1.below hL.cZ);rw[hNN]at hv1;have HV1:=hZ hv1;rw[hv1];go_wp2_with fail
 go_loopw [5,7,14] (λl _ i wr=>∃(k:Nat),i=aa az k/\k<=NN/\Hid (LO w1 (Kn.iW s.k (n:Int) (L.take k)) l wr)) (λ_ _ i _=>NN-(intOf i).toNat)
 case atStart=>exact⟨0,rfl,bB,LO.nil w1⟩
 case round=>
  obtain⟨k,rfl,hk,R⟩:=hrel;by_cases hlt:k<NN
  .have hltI:(k:Int)<NN:=bB
   have hkL:k<L.length:=by rw[HN.v];exact hlt
   obtain⟨m,hm⟩:∃m,L[k]? =bj m:=⟨_,aW hkL⟩;have m20:m<20:=H.2 m (bK hm);have m20I:(m:Int)<20:=bB
   obtain⟨gg,cap,hv,hg,hc⟩:=LL.cells bB;rw[HV1.v]at hv;cases hv;have cm:wr.cell? ⟨gg,k,bu⟩=bj (aa az (m:Int)):=by
    have q:=hc k hkL;rw[show 0+k=k by omega]at q;rw[R.cZ.cell (p:=⟨gg,k,bu⟩) hg,q];simp[aF,hm]
   have cp:=(KW.below R.cZ).uL m m20;rw[HK.v]at cp;by_cases d:(s.k.p m).par=(n:Int)
   .have HM:=hZ (Kn.Q9 hm d);rw[d]at cp;obtain⟨a,cap,hv⟩:=gJ R.own;rw[hv];have HV:=hZ hv;have hlm:=Kn.Ab s.k (n:Int) (L.take k);rw[List.length_take,Nat.min_eq_left bB]at hlm;generalize hN:(Kn.iW s.k (n:Int) (L.take k)).length=N at*;have HNN:=hZ hN;go_wp2_with (at_builtin;refine wpList_append_lies _ rfl _ _ 46 (by rfl) w1.heap.size 3 i0 (aa .i64 0) 1 8 Tryz.underlying46 hi hz0 hz1 hz2 rfl bE (aj a N cap) N (rowOf (Kn.iW s.k (n:Int) (L.take k))) (by rfl) (by rw[<-HV.v,<-HNN.v];exact R.own.alloc _) ⟨wr.heap.size,0,bu⟩ 1 1 [aa az m] (by rfl) rfl (cell_one_new _ _ _) (by simp[Value.oneCell']) bE (by unfold maxLen;omega) bB (by have:=R.cZ.size;simp;omega) (wr.heap.size+1) (by simp) ?_;intro gg2 cap2 w2 hown hgrow hat hlt2;have Q1:Hid (LO w1 (Kn.iW s.k (n:Int) (L.take k)++[m]) (aj (bj ⟨gg2,0,bu⟩) (N+1) cap2) w2):=R.more HNN.v hown _ (by rw[HV.v];exact hgrow))
    go_roundw
    case rel=>exact⟨k+1,by go_num,bB,by rw[HM.v];exact Q1⟩
    case measure=>simp[intOf];omega
   .have HM:=hZ (Kn.Tm hm d);generalize (s.k.p m).par=pp at*;have d1:((pp:Int)==(n:Int))=bA:=by simpa using d
    go_wp2
    go_roundw
    case rel=>exact⟨k+1,by go_num,bB,by rw[HM.v];exact R⟩
    case measure=>simp[intOf];omega
  .obtain rfl:k=NN:=bB
   go_wp2
   go_ret
   exact⟨_,_,rfl,LL.cZ,by have q:=R.v;rw[<-HN.v,List.take_length]at q;exact q⟩
end
theorem Sg.Dz{X:Nat->S1}(h:Sg.ft X 0 0):Sg.ft (Sg.mS X 3) 0 0:=by
 rcases h with⟨_,h⟩|⟨h,_⟩
 .refine .inl ⟨rfl,λj h1 h2=>?_⟩;unfold Sg.mS;rw[aJ (by rfl)];by_cases c:j=3
  .subst c;unfold Sg.ok Sg.put;simp[Sg.p8];intro _ c _;exact c
  .have:=h j h1 h2;unfold Sg.ok Sg.put at*;simpa[c]using this
 .omega
section
variable (Wr:Nat)(s:St)(w:bD)
theorem IU(n:Nat)(h:bP w Wr s)(hn:n<20)(hh:(s.k.p n).has=bw)(hf:Sg.ft (s.k.p n).box 0 0):
  Calls prog 99 #[ai (bj ⟨s.A 0,0,bu⟩),aa az n] w λe w'=>e=bf (ao #[])/\Below w.heap.size w w':=by
 have hnI:(n:Int)<20:=bB
 have c5:=h.tB n hn hh;have EN:=hZ (Dk (s.A (29+n)) (s.k.p n).box w (h.bx n hn hh));have HF:=hZ hf;generalize s.A 0=kb at*;generalize s.A (29+n)=bb at*;go_in
 go_wp2_with fail
 refine EN.mono ?_;rintro e w1 ⟨m,rfl,hm,hb⟩;obtain rfl:m=0:=hm.unique HF.v;have HB:=hZ hb;rw[show Sg.ob 0=bA from rfl];go_wp2_with fail
 go_end0
 exact⟨rfl,HB.v⟩
theorem FC(n:Nat)(h:bP w Wr s)(hn:n<20)(hh:(s.k.p n).has=bw)(hf:Kn.hd s.k n≠n->Sg.ft (s.k.p n).box 0 0):
  Calls prog 101 #[ai (bj ⟨s.A 0,0,bu⟩),aa az n] w λe w'=>e=bf (ao #[])/\Below w.heap.size w w':=by
 obtain⟨th,hth⟩:=nJ (decide (Kn.hd s.k n=n));have IH:=hZ (mX Wr s w n h th hth);cases th
 .have LK:=hZ (IU Wr s w n h hn hh (hf (of_decide_eq_false hth)));generalize s.A 0=kb at*;go_in
  go_wp2_with fail
  refine sC IH.v ?_;rintro w1 hw;subst w1;go_wp2_with fail
  refine sC LK.v ?_;rintro w1 hb;have HB:=hZ hb;go_wp2_with fail
  go_end0
  exact⟨rfl,HB.v⟩
 .clear h hh hf hth;generalize s.A 0=kb at*;go_in
  go_wp2_with fail
  refine sC IH.v ?_;rintro w1 hw;subst w1;go_wp2_with fail
  go_end0
  exact⟨rfl,aQ _ _⟩
def Kn.iG(k:Kp)(n:Nat)(z:Int):Kp:=k.put n {k.p n with box:=Sg.mS (k.p n).box z}
theorem Ld(n:Nat)(h:bP w Wr s)(hn:n<20)(hh:(s.k.p n).has=bw)(hf:Kn.hd s.k n≠n->Sg.ft (s.k.p n).box 0 0):
  Calls prog 151 #[ai (bj ⟨s.A 0,0,bu⟩),aa az n,aa az 3] w λe w'=>e=bf (ao #[])/\bP w' Wr {s with k:=Kn.iG s.k n 3}/\KF s w {s with k:=Kn.iG s.k n 3} w':=by
 have hnI:(n:Int)<20:=bB
 have c5:=h.tB n hn hh;have SE:=hZ (xN (s.A (29+n)) 3 (s.k.p n).box w (h.bx n hn hh));have H:=hZ (aK h (aK hh hf));obtain⟨kb,hkb⟩:=nJ (s.A 0);have HK:=hZ hkb;obtain⟨bb,hbb⟩:=nJ (s.A (29+n));have HB:=hZ hbb;rw[hkb]at c5|-;rw[hbb]at c5 SE;go_in
 go_wp2_with fail
 refine sC SE.v ?_;rintro w1 ⟨u1,f1⟩;generalize bN (Sg.cL 3)=ev;have S1:Hid (bP w1 Wr {s with k:=Kn.iG s.k n 3}/\KF s w {s with k:=Kn.iG s.k n 3} w1):=hZ (by
  rw[<-HB.v]at u1 f1;exact H.1.wA hn H.2.1 u1 f1)
 have LK:=hZ (FC Wr {s with k:=Kn.iG s.k n 3} w1 n S1.1 hn (by show((Kn.iG s.k n 3).p n).has=bw;unfold Kn.iG;rw[Kn.bG];exact H.2.1) (λc=>by
  show Sg.ft ((Kn.iG s.k n 3).p n).box 0 0;unfold Kn.iG;rw[Kn.bG];exact Sg.Dz (H.2.2 c)))
 rw[show({s with k:=Kn.iG s.k n 3}:St).A 0=kb from HK.v]at LK;go_wp2_with fail
 refine sC LK.v ?_;rintro w2 hb;have S2:Hid (bP w2 Wr {s with k:=Kn.iG s.k n 3}/\KF s w {s with k:=Kn.iG s.k n 3} w2):=hZ ⟨S1.1.below hb,S1.2.trans (KF.below hb)⟩;go_wp2_with fail
 go_end0
 exact⟨rfl,S2.v⟩
end
namespace Kn
def ed(k:Kp)(n:Nat)(c:Int):Kp:=k.put n {k.p n with st:=2,code:=c}
theorem Kv(k:Kp)(n:Nat)(c:Int):(k.put n {k.p n with st:=2}).put n {(k.put n {k.p n with st:=2}).p n with code:=c}=ed k n c:=by
 rw[bG];unfold ed Kp.put;congr 1;funext m;by_cases e:m=n
 .rw[aJ e,aJ e]
 .rw[aI e,aI e];exact aI e
def gG(k:Kp)(L:List Nat)(h:Int):Kp:={k with p:=λm=>{k.p m with par:=if m∈L then h else(k.p m).par}}
theorem QL(k:Kp)(h:Int):gG k [] h=k:=by
 unfold gG;simp only[List.not_mem_nil,if_false]
theorem Nh(k:Kp)(L:List Nat)(h:Int)(c:Nat):(gG k L h).put c {(gG k L h).p c with par:=h}=gG k (L++[c]) h:=by
 unfold gG Kp.put;congr 1;funext m;by_cases e:m=c
 .subst e;rw[aJ rfl];have:m∈L++[m]:=by simp
  rw[aJ this]
 .rw[aI e];have:(m∈L++[c])↔m∈L:=by simp[e]
  have p:(if m∈L then h else(k.p m).par)=(if m∈L++[c]then h else(k.p m).par):=by
   by_cases q:m∈L
   .rw[aJ q,aJ (this.2 q)]
   .rw[aI q,aI (λx=>q (this.1 x))]
  exact congrArg (λv=>({k.p m with par:=v}:Pr)) p
section
variable {X:Nat->Prop}{N:Nat}{d:Nat->Nat}{k k1 k2 k3:Kp}{n z:Nat}
theorem KJ.gone(h:KJ X N k)(hX:X n)(hn:n<20)(s0:(k.p n).st≠0)(hh:(k.p n).has=bA)(c:Int):KJ X N (ed k n c):=by
 have e:∀m,m≠n->(ed k n c).p m=k.p m:=λm q=>bO _ _ _ _ q;have e2:(ed k n c).p n={k.p n with st:=2,code:=c}:=bG _ _ _;refine⟨h.sp,h.gr,?_,h.wx,h.rf,h.ok,h.tb,λm hm=>?_,λm hm q=>?_,λm hm x=>?_,λm hm=>?_,h.ht,λm hm=>?_⟩
 .rw[show(λm=>((ed k n c).p m).mem)=λm=>(k.p m).mem from funext λm=>by
   by_cases q:m=n
   .subst q;rw[e2]
   .rw[e m q]]
  exact h.me
 .by_cases q:m=n
  .subst q;rw[e2];exact aL 2
  .rw[e m q];exact h.st m hm
 .by_cases r:m=n
  .subst r;rw[e2]at q;have q2:(k.p m).has=bw:=q;rw[hh]at q2;cases q2
  .rw[e m r]at q|-;exact h.hs m hm q
 .by_cases q:m=n
  .subst q;exact aZ hX x
  .rw[e m q];exact h.lv m hm x
 .by_cases q:m=n
  .subst q;rw[e2];exact⟨λ_=>Nat.succ_ne_zero 1,λ_=>(h.of m hm).2 s0⟩
  .rw[e m q];exact h.of m hm
 .by_cases q:m=n
  .subst q;rw[e2];exact h.nm m hm
  .rw[e m q];exact h.nm m hm
theorem KJ.ad(h:KJ X N k)(L:List Nat)(v:Int):KJ X N (gG k L v):=⟨h.sp,h.gr,h.me,h.wx,h.rf,h.ok,h.tb,h.st,h.hs,h.lv,h.of,h.ht,h.nm⟩
theorem VI.gone(h:VI X N d k)(hX:X n)(hn:n<20)(s0:(k.p n).st≠0)(hh:(k.p n).has=bA)(c:Int):VI X N d (ed k n c):=⟨h.kj.gone hX hn s0 hh c,h.iv,h.hs⟩
theorem EI.gone(h:EI X N d n z k)(s0:(k.p n).st≠0)(hh:(k.p n).has=bA)(c:Int):EI X N d n z (ed k n c):=⟨h.vi.gone h.xn h.hn s0 hh c,h.hn,h.n0,h.xn,h.ho,h.hw,h.hx⟩
theorem Gz.head(g:Gz k k1 z)(h:VI X N d k)(h1:VI X N d k1)(hq:q<20)(o:k1.sp.of q≠0)(c:hd k1 q≠q):hd k q≠q:=by
 intro e;obtain⟨y,hy⟩:∃y,k1.sp.of q=y+1:=⟨k1.sp.of q-1,bB⟩;have hk:k.sp.of q=y+1:=by
  rcases g.kp q hq with⟨_,b⟩|⟨_,b,_⟩
  .rw[<-b];exact hy
  .exact aZ b o
 have y6:=(h.iv.dh hq hk).2.1;have w:=(iY h.iv h.hs hq hk).1 e;exact c ((iY h1.iv h1.hs hq hy).2 (g.wk y 1 q y6 bB hq w o))
def yv(r:Nat)(k2:Kp)(n z:Nat)(k3:Kp):Prop:=(hd k2 n≠n/\k3=k2)\/(hd k2 n=n/\∃j,jU (jd r) (z:Int) j k2 k3)
structure Mid (N:Nat)(d:Nat->Nat)(n z:Nat)(k k3:Kp)(c:Int):Prop where
 vi:VI (λm=>False\/m=n) N d k3
 ho:k3.sp.of n=z+1
 pn:(k3.p n).st=2/\(k3.p n).has=bA/\(k3.p n).par=(k.p n).par/\(k3.p n).code=c
 ot:∀q,q<20->q≠n->(k3.p q=k.p q/\(k3.sp.of q≠0->hd k3 q≠q->hd k q≠q))\/k3.p q=Pr.no
theorem VI.Ah(h:VI (λ_=>False) N d k)(hn:n<20)(n0:n≠0)(l:lv k n=bw)(ho:k.sp.of n=z+1){k1 k3:Kp}{c:Int}(s1:fY k n k1)(m:yv r (ed k1 n c) n z k3):Mid N d n z k k3 c:=by
 obtain⟨a,sp,tb,hh,s0,fP⟩:=h.first hn (λx=>x) ho (λ_=>s1) (λx=>by rw[l]at x;cases x);have pa:=(s1.p n).2.1;have e2:(ed k1 n c).p n={k1.p n with st:=2,code:=c}:=bG _ _ _;have v2:=a.gone (.inr rfl) hn s0 hh c;have o2:(ed k1 n c).sp.of n=z+1:=by show k1.sp.of n=z+1;rw[sp];exact ho
 have pn2:((ed k1 n c).p n).st=2/\((ed k1 n c).p n).has=bA/\((ed k1 n c).p n).par=(k.p n).par/\((ed k1 n c).p n).code=c:=by
  rw[e2];exact⟨rfl,hh,pa,rfl⟩
 have oth2:∀q,q≠n->(ed k1 n c).p q=k.p q:=λq e=>(bO _ _ _ _ e).trans (fP q e);have hd2:∀q,hd (ed k1 n c) q=hd k q:=λq=>by
  show hd k1 q=hd k q;unfold hd;rw[sp]
 rcases m with⟨_,rfl⟩|⟨ih,j,it⟩
 .exact⟨v2,o2,pn2,λq _ qn=> .inl ⟨oth2 q qn,λ_ e=>by rw[<-hd2 q];exact e⟩⟩
 .have ei:EI (λm=>False\/m=n) N d n z k1:=h.ei hn n0 (λx=>x) ho (by rw[<-hd2 n];exact ih) (λ_ _ x=>aZ x (λx=>x)) (λ_=>s1) (λx=>by rw[l]at x;cases x);obtain⟨b,g,e,_⟩:=EI.iter (oH r) j _ (ei.gone s0 hh c) it;refine⟨b.vi,b.ho,by rw[e];exact pn2,λq gU qn=>?_⟩;rcases g.kp q gU with⟨x,y⟩|⟨x,_,_⟩
  .exact .inl ⟨x.trans (oth2 q qn),λo c1=>by rw[<-hd2 q];exact g.head v2 b.vi gU o c1⟩
  .exact .inr x
end
end Kn
namespace Kn
def nD(k:Kp)(q:Nat):Kp:=if lv k q=bw then iG k q 3 else k
def kL(k:Kp)(n:Nat)(c:Int)(z q:Nat)(k':Kp):Prop:=∃k1 k3,fY k n k1/\yv 6 (ed k1 n c) n z k3/\k'=nD (gG k3 (iC k3 n) (Sp.e9 k3.sp (z:Int) 1:Nat)) q
theorem VI.OV{k:Kp}(h:VI X N d k)(hn:n<20)(ho:k.sp.of n=z+1):∀x∈eH k.sp ((Sp.dQ k.sp (n:Int):Nat):Int),x<20:=by
 intro x hx;obtain⟨_,z6,zh⟩:=h.iv.dh hn ho;rw[Sp.iD hn ho]at hx;unfold eH at hx;rw[Sp.jT z6 zh,aJ rfl,hU]at hx;obtain⟨i,hi⟩:=List.getElem?_of_mem hx;exact(Sp.sL hi (λp hp=>h.iv.qb z p z6 hp)).1
theorem Mid.par{N:Nat}{d:Nat->Nat}{n z q:Nat}{k k3:Kp}{c:Int}(m:Mid N d n z k k3 c)(hp:(k.p n).par=(q:Int))(qn:q≠n)(L:List Nat)(h:Int)(hL:∀x∈L,(k3.p x).par=(n:Int)):((gG k3 L h).p n).par=(q:Int):=by
 show(if n∈L then h else(k3.p n).par)=(q:Int);have e:=m.pn.2.2.1;rw[aI (λc=>by have:=hL n c;rw[e,hp]at this;omega),e,hp]
theorem vY{k:Kp}:∀x∈iC k n,(k.p x).par=(n:Int):=λx hx=>by
 unfold iC iW at hx;have:=(bX.1 hx).2;simpa using this
theorem J8{k:Kp}(h:VI X N d k)(hn:n<20)(ho:k.sp.of n=z+1):∀x∈iC k n,x<20:=λx hx=>by
 unfold iC iW at hx;exact h.OV hn ho x (bX.1 hx).1
theorem Mid.told{k k3:Kp}{c:Int}(m:Mid N d n z k k3 c)(qn:q≠n)(gU:q<20)(L:List Nat)(h:Int)(hl:lv (gG k3 L h) q=bw)(hF:∀m,m<20->m≠n->lv k m=bw->hd k m≠m->Sg.ft (k.p m).box 0 0):
  ((gG k3 L h).p q).has=bw/\(hd (gG k3 L h) q≠q->Sg.ft ((gG k3 L h).p q).box 0 0):=by
 have l3:(k3.p q).st=1:=by
  have:decide ((k3.p q).st=1)=bw:=hl;simpa using this
 refine⟨m.vi.kj.lv q gU (λx=>x.elim id (λy=>qn y)) l3,λe=>?_⟩;show Sg.ft (k3.p q).box 0 0;have o:=(m.vi.kj.of q gU).2 bB;rcases m.ot q gU qn with⟨a,b⟩|a
 .rw[a];rw[a]at l3;exact hF q gU qn (by unfold lv;simpa using l3) (b o e)
 .rw[a]at l3;cases l3
end Kn
theorem xB(Wr N:Nat)(d:Nat->Nat)(hN:N<=900)(s:St)(w:bD)(n z q:Nat)(c:Int)(h:bP w Wr s)(hv:VI (λ_=>False) N d s.k)(hn:n<20)(n0:n≠0)(l:Kn.lv s.k n=bw)(ho:s.k.sp.of n=z+1)(gU:q<20)(qn:q≠n)(hp:(s.k.p n).par=(q:Int))(hF:∀m,m<20->m≠n->Kn.lv s.k m=bw->Kn.hd s.k m≠m->Sg.ft (s.k.p m).box 0 0):
  Calls prog 71 #[ai (bj ⟨s.A 0,0,bu⟩),aa az n,aa az c] w λe w'=>∃k',e=bf (ao #[])/\Kn.kL s.k n c z q k'/\bP w' Wr {s with k:=k'}/\KF s w {s with k:=k'} w':=by
 have hnI:(n:Int)<20:=bB
 have q20I:(q:Int)<20:=bB
 have KS:=hZ (y8 Wr s w (λ_=>False) N n h hv.kj hN hn (hv.kj.lv n hn (λx=>x) (by unfold Kn.lv at l;simpa using l)));obtain⟨kb,hkb⟩:=nJ (s.A 0);have HK:=hZ hkb;have H:=hZ (aK h (aK hv (aK l (aK ho (aK hp (aK hF hN))))));rw[hkb]at KS|-;clear h hv l ho hp hF hN;go_in
 go_wp2_with fail
 refine KS.mono ?_;rintro e w1 ⟨k1,rfl,st,ka,kf⟩;have S1:Hid (Kn.fY s.k n k1/\bP w1 Wr {s with k:=k1}/\KF s w {s with k:=k1} w1):=hZ ⟨st,ka,kf⟩;clear st ka kf KS;have c0:=S1.2.1.uM n hn;have c3:=S1.2.1.PW n hn;have fz:=S1.2.1.frozen;rw[show({s with k:=k1}:St).A 0=kb from HK.v]at c0 c3 fz;have S2:Hid (bP ((w1.setCell ⟨kb,n*12,bu⟩ (aa .i64 2)).setCell ⟨kb,n*12+3,bu⟩ (aa az c)) Wr {s with k:=Kn.ed k1 n c}/\KF s w {s with k:=Kn.ed k1 n c} ((w1.setCell ⟨kb,n*12,bu⟩ (aa .i64 2)).setCell ⟨kb,n*12+3,bu⟩ (aa az c))):=hZ (by
  have q1:=S1.2.1.U7 hn 2;have q2:=q1.1.Sq hn c;rw[show({s with k:=k1}:St).A 0=kb from HK.v]at q1;have e2:=Kn.Kv k1 n c;have q3:bP ((w1.setCell ⟨s.A 0,n*12,bu⟩ (aa .i64 2)).setCell ⟨s.A 0,n*12+3,bu⟩ (aa az c)) Wr {s with k:=(k1.put n {k1.p n with st:=2}).put n {(k1.put n {k1.p n with st:=2}).p n with code:=c}}/\KF {s with k:=k1.put n {k1.p n with st:=2}} (w1.setCell ⟨s.A 0,n*12,bu⟩ (aa .i64 2)) {s with k:=(k1.put n {k1.p n with st:=2}).put n {(k1.put n {k1.p n with st:=2}).p n with code:=c}} ((w1.setCell ⟨s.A 0,n*12,bu⟩ (aa .i64 2)).setCell ⟨s.A 0,n*12+3,bu⟩ (aa az c)):=q2;rw[e2,HK.v]at q3;exact⟨q3.1,(S1.2.2.trans q1.2).trans q3.2⟩)
 generalize (({s with k:=k1}:St).k.p n).st=v0 at c0;generalize (({s with k:=k1}:St).k.p n).code=v3 at c3;obtain⟨th,hth⟩:=nJ (decide (Kn.hd (Kn.ed k1 n c) n=n));have IH:=hZ (mX Wr {s with k:=Kn.ed k1 n c} _ n S2.1 th hth);rw[show({s with k:=Kn.ed k1 n c}:St).A 0=kb from HK.v]at IH;have HT:Hid ((th=bw->Kn.hd (Kn.ed k1 n c) n=n)/\(th=bA->Kn.hd (Kn.ed k1 n c) n≠n)):=hZ ⟨λc=>by rw[<-hth]at c;exact of_decide_eq_true c,λc=>by rw[<-hth]at c;exact of_decide_eq_false c⟩;clear hth;go_wp2_with fail
 refine sC IH.v ?_;rintro w2 hw;rw[<-hw]at S2;clear hw IH c0 c3 fz;go_upto_if 27 with fail
 go_cut [28]from 29 to 30 (λ_ wx=>∃k3,Hid (bP wx Wr {s with k:=k3}/\KF s w {s with k:=k3} wx/\Kn.yv 6 (Kn.ed k1 n c) n z k3))
 case first=>
  cases th
  .go_wp2
   go_meet
   case rel=>exact⟨_,hZ ⟨S2.1,S2.2, .inl ⟨HT.2 (by first|rfl|trivial),rfl⟩⟩⟩
  .have HD:=hZ (HT.1 (by first|rfl|trivial));have EE:Hid (EI (λm=>False\/m=n) N d n z (Kn.ed k1 n c)):=hZ (by
    obtain⟨a,sp,tb,hh,s0,fP⟩:=H.2.1.first hn (λx=>x) H.2.2.2.1 (λ_=>S1.1) (λx=>by rw[H.2.2.1]at x;cases x);refine EI.gone (H.2.1.ei hn n0 (λx=>x) H.2.2.2.1 ?_ (λ_ _ x=>aZ x (λx=>x)) (λ_=>S1.1) (λx=>by rw[H.2.2.1]at x;cases x)) s0 hh c;have q:=HD.v;have q2:Kn.hd k1 n=n:=q;unfold Kn.hd at q2|-;rw[<-sp];exact q2)
   have EM:=hZ (yW Wr N d 6 _ {s with k:=Kn.ed k1 n c} w2 n z (qP Wr N d H.2.2.2.2.2.2 6) bB bB S2.1 EE.v);rw[show({s with k:=Kn.ed k1 n c}:St).A 0=kb from HK.v]at EM;go_wp2_with fail
   refine EM.mono ?_;rintro e w3 ⟨k3,j,rfl,it,ka,kf⟩;have S3:Hid (bP w3 Wr {s with k:=k3}/\KF s w {s with k:=k3} w3/\Kn.yv 6 (Kn.ed k1 n c) n z k3):=hZ ⟨ka,S2.2.trans kf, .inr ⟨HD.v,j,it⟩⟩;clear it ka kf;go_wp2
   go_meet
   case rel=>exact⟨k3,S3⟩
 obtain⟨k3,S3⟩:=hcut;have MD:=hZ (H.2.1.Ah hn n0 H.2.2.1 H.2.2.2.1 S1.1 S3.2.2);have SP:=hZ (iP Wr {s with k:=k3} wc (n:Int) S3.1);rw[show Sp.dQ ({s with k:=k3}:St).k.sp (n:Int)=z from Sp.iD hn MD.ho,show({s with k:=k3}:St).A 0=kb from HK.v]at SP;have HD:=hZ (Bq Wr {s with k:=k3} wc (z:Int) S3.1);rw[show({s with k:=k3}:St).A 0=kb from HK.v]at HD;obtain⟨hd0,hhd⟩:=nJ (Sp.e9 ({s with k:=k3}:St).k.sp (z:Int) 1);rw[hhd]at HD;have HHD:=hZ hhd;have CH:=hZ (ux Wr {s with k:=k3} wc n S3.1 (MD.vi.OV hn MD.ho));rw[show({s with k:=k3}:St).A 0=kb from HK.v]at CH;clear hhd S2;go_wp2_with fail
 refine sC SP.v ?_;rintro w4 hw;subst w4;go_wp2_with fail
 refine sC HD.v ?_;rintro w4 hw;subst w4;go_wp2_with fail
 refine CH.mono ?_;rintro e w4 ⟨v4,u4,rfl,hb4,hL⟩;clear SP HD CH;obtain⟨LC,hLC⟩:=nJ (Kn.iC ({s with k:=k3}:St).k n);rw[hLC]at hL;have HLC:Hid (Kn.iC k3 n=LC):=hZ hLC;have LP:Hid ((∀x∈LC,x<20)/\∀x∈LC,(k3.p x).par=(n:Int)):=hZ (by rw[<-HLC.v];exact⟨Kn.J8 MD.vi hn MD.ho,Kn.vY⟩);obtain⟨a1,cp1,hv1⟩:=gJ hL.own;obtain⟨NN,hNN⟩:=nJ (LC.length);have HN:=hZ hNN;have NL:NN<=21:=by
  rw[<-hNN,<-HLC.v];exact aH (Kn.Ab _ _ _) (Kn.xE _ _)
 have BB:Hid (Below wc.heap.size wc w4):=hZ (hb4.trans (hL.cZ.mono hb4.size));have S4:Hid (bP w4 Wr {s with k:=Kn.gG k3 (LC.take 0) (hd0:Int)}/\KF s w {s with k:=Kn.gG k3 (LC.take 0) (hd0:Int)} w4/\∀b,b≠kb->w4.heap[b]? =w4.heap[b]?):=hZ (by
  rw[List.take_zero,Kn.QL];exact⟨S3.1.below BB.v,S3.2.1.trans (KF.below BB.v),λ_ _=>rfl⟩)
 have LL:Hid (∀i,i<LC.length->∃gg cap,v4=aj (bj ⟨gg,0,bu⟩) LC.length cap/\gg≠kb/\w4.cell? ⟨gg,i,bu⟩=bj (aa az ((LC.getD i 0:Nat):Int))):=hZ (λi hi=>by
  obtain⟨gg,cap,hv,hg,hc⟩:=hL.cells bB;refine⟨gg,cap,hv,λe=>?_,?_⟩
  .have a:=(hL.own.lt gg (by rw[hv];rfl)).1;have b:kb<wc.heap.size:=by rw[<-HK.v];exact S3.1.lt cv
   have:=hb4.size;omega
  .have q:=hc i hi;rw[show 0+i=i by omega]at q;exact q)
 rw[hNN]at hv1;have HV1:=hZ hv1;rw[hv1];clear hL hv1 hNN hb4 hLC;go_wp2_with fail
 go_loopw [9,40] (λ_ i wr=>∃(k:Nat),i=aa az k/\k<=NN/\Hid (bP wr Wr {s with k:=Kn.gG k3 (LC.take k) (hd0:Int)}/\KF s w {s with k:=Kn.gG k3 (LC.take k) (hd0:Int)} wr/\∀b,b≠kb->wr.heap[b]? =w4.heap[b]?)) (λ_ i _=>NN-(intOf i).toNat)
 case atStart=>exact⟨0,rfl,bB,hZ ⟨S4.1,S4.2.1,λ_ _=>rfl⟩⟩
 case round=>
  obtain⟨k,rfl,hk,R⟩:=hrel;by_cases hlt:k<NN
  .have hltI:(k:Int)<NN:=bB
   have hkL:k<LC.length:=by rw[HN.v];exact hlt
   obtain⟨m,hm⟩:∃m,LC[k]? =bj m:=⟨_,aW hkL⟩;have m20:m<20:=LP.1 m (bK hm);have m20I:(m:Int)<20:=bB
   obtain⟨gg,cap,hv,hg,hc⟩:=LL.v k hkL;rw[HV1.v]at hv;cases hv;have cm:wr.cell? ⟨gg,k,bu⟩=bj (aa az (m:Int)):=by
    rw[show wr.cell? ⟨gg,k,bu⟩=w4.cell? ⟨gg,k,bu⟩from aV (R.2.2 gg hg),hc];simp[aF,hm]
   have cp:=R.1.uL m m20;have fz:=R.1.frozen;rw[show({s with k:=Kn.gG k3 (LC.take k) (hd0:Int)}:St).A 0=kb from HK.v]at cp fz;generalize (({s with k:=Kn.gG k3 (LC.take k) (hd0:Int)}:St).k.p m).par=pv at cp;have R1:Hid (bP (wr.setCell ⟨kb,m*12+1,bu⟩ (aa az (hd0:Int))) Wr {s with k:=Kn.gG k3 (LC.take (k+1)) (hd0:Int)}/\KF s w {s with k:=Kn.gG k3 (LC.take (k+1)) (hd0:Int)} (wr.setCell ⟨kb,m*12+1,bu⟩ (aa az (hd0:Int)))/\∀b,b≠kb->(wr.setCell ⟨kb,m*12+1,bu⟩ (aa az (hd0:Int))).heap[b]? =w4.heap[b]?):=hZ (by
    have q:=R.1.Ev m20 (hd0:Int);rw[show({s with k:=Kn.gG k3 (LC.take k) (hd0:Int)}:St).A 0=kb from HK.v]at q;have e:=Kn.Nh k3 (LC.take k) (hd0:Int) m;rw[show LC.take k++[m]=LC.take (k+1)by rw[List.take_add_one,hm];rfl]at e;rw[<-e];exact⟨q.1,R.2.1.trans q.2,λb hb=>(dR _ _ _ _ hb).trans (R.2.2 b hb)⟩)
   clear hc hm hkL hg;go_wp2
   go_roundw
   case rel=>exact⟨k+1,by go_num,bB,R1⟩
   case measure=>simp[intOf];omega
  .obtain rfl:k=NN:=bB
   have R1:Hid (bP wr Wr {s with k:=Kn.gG k3 LC (hd0:Int)}/\KF s w {s with k:=Kn.gG k3 LC (hd0:Int)} wr):=hZ (by
    have q:=R.v;rw[<-HN.v,List.take_length]at q;exact⟨q.1,q.2.1⟩)
   clear R S4;have cp:=R1.1.uL n hn;rw[show({s with k:=Kn.gG k3 LC (hd0:Int)}:St).A 0=kb from HK.v,show(({s with k:=Kn.gG k3 LC (hd0:Int)}:St).k.p n).par=(q:Int)from MD.par H.2.2.2.2.1 qn LC (hd0:Int) LP.2]at cp;obtain⟨tl,htl⟩:=nJ (Kn.lv (Kn.gG k3 LC (hd0:Int)) q);have LV:=hZ (jt Wr {s with k:=Kn.gG k3 LC (hd0:Int)} wr q R1.1 gU tl htl);rw[show({s with k:=Kn.gG k3 LC (hd0:Int)}:St).A 0=kb from HK.v]at LV;have ET:Hid (∀k',k'=Kn.nD (Kn.gG k3 LC (hd0:Int)) q->Kn.kL s.k n c z q k'):=hZ (λk' e=>⟨k1,k3,S1.1,S3.2.2,by rw[HLC.v,show Sp.e9 k3.sp (z:Int) 1=hd0 from HHD.v];exact e⟩);cases tl
   .have FIN:=hZ (ET.v _ (by unfold Kn.nD;rw[aI (by rw[htl];decide)]));clear htl ET;go_wp2_with fail
    refine sC LV.v ?_;rintro w5 hw;subst w5;go_wp2_with fail
    go_end0
    exact⟨_,rfl,FIN.v,R1.v⟩
   .have FIN:=hZ (ET.v _ (by unfold Kn.nD;rw[aJ htl]));have TD:=MD.told qn gU LC (hd0:Int) htl H.2.2.2.2.2.1;have SE:=hZ (Ld Wr {s with k:=Kn.gG k3 LC (hd0:Int)} wr q R1.1 gU TD.1 TD.2);rw[show({s with k:=Kn.gG k3 LC (hd0:Int)}:St).A 0=kb from HK.v]at SE;clear htl ET TD;go_wp2_with fail
    refine sC LV.v ?_;rintro w5 hw;subst w5;go_wp2_with fail
    refine sC SE.v ?_;rintro w5 ⟨ka,kf⟩;have S5:Hid (bP w5 Wr {s with k:=Kn.iG (Kn.gG k3 LC (hd0:Int)) q 3}/\KF s w {s with k:=Kn.iG (Kn.gG k3 LC (hd0:Int)) q 3} w5):=hZ ⟨ka,R1.2.trans kf⟩;clear ka kf;go_wp2_with fail
    go_end0
    exact⟨_,rfl,FIN.v,S5.v⟩
def Kn.fG(k:Kp)(z p:Int):Int:=if Kn.cC k z=0 then(if Sp.ix k.sp (Sp.dQ k.sp z:Nat) p=0 then(if Kn.lv k (Sp.e9 k.sp (Sp.dQ k.sp z:Nat) p)=bw then 0 else 8)else Sp.ix k.sp (Sp.dQ k.sp z:Nat) p)else Kn.cC k z
def Kn.j8(k:Kp)(z p:Int):Nat:=if Kn.fG k z p=0 then Sp.e9 k.sp (Sp.dQ k.sp z:Nat) p else 0
section
variable (Wr:Nat)(s:St)(w:bD)
theorem Kn.mu{t:Sp.T}(hw:∀z p,z<6->p<21->t.cr z p<=20)(z p:Int):Sp.e9 t z p<20:=by
 unfold Sp.e9;by_cases c:Sp.ix t z p=0
 .rw[aJ c];unfold Sp.ix at c;by_cases i:Sp.cL t z=0
  .rw[aJ i]at c;by_cases j:p<1\/20<p\/t.cr z.toNat p.toNat=0
   .rw[aJ j]at c;omega
   .have z6:z.toNat<6:=by
     unfold Sp.cL at i;split at i
     .omega
     .omega
    have:=hw z.toNat p.toNat z6 bB;omega
  .rw[aI i]at c;exact aZ c i
 .rw[aI c];omega
theorem Ow(z p:Int)(h:bP w Wr s)(hw:∀z p,z<6->p<21->s.k.sp.cr z p<=20):
  Calls prog 16 #[ai (bj ⟨s.A 0,0,bu⟩),aa az z,aa az p] w λe w'=>e=bf (ao #[aa az (Kn.j8 s.k z p:Int),bN (Kn.fG s.k z p)])/\Below w.heap.size w w':=by
 have AC:=hZ (dP Wr s w z h);by_cases c:Kn.cC s.k z=0
 .have SP:=hZ (λq=>iP Wr s (w.drewN q) z (h.drewN q));have FI:=hZ (λq=>Dp (s.A 1) (Sp.dQ s.k.sp z:Nat) p s.k.sp (w.drewN q) (h.drewN q).sp);have c6:=h.wQ;have lt:=Kn.mu hw (Sp.dQ s.k.sp z:Nat) p;have LV:=hZ (λq v hv=>jt Wr s (w.drewN q) (Sp.e9 s.k.sp (Sp.dQ s.k.sp z:Nat) p) (h.drewN q) lt v hv);rw[c,bF]at AC;generalize gO (s.A 0) z 0=ap at*;by_cases f:Sp.ix s.k.sp (Sp.dQ s.k.sp z:Nat) p=0
  .rw[f,bF]at FI;obtain⟨v,hv⟩:=nJ (Kn.lv s.k (Sp.e9 s.k.sp (Sp.dQ s.k.sp z:Nat) p));have LV2:=hZ (λq=>LV.v q v hv);have E1:Kn.fG s.k z p=if v=bw then 0 else 8:=by unfold Kn.fG;rw[aJ c,aJ f,hv]
   have E2:Kn.j8 s.k z p=if v=bw then Sp.e9 s.k.sp (Sp.dQ s.k.sp z:Nat) p else 0:=by
    unfold Kn.j8;rw[E1];cases v<;>rfl
   rw[E1,E2];generalize s.A 0=kb at*;generalize s.A 1=sb at*;generalize Sp.e9 s.k.sp (Sp.dQ s.k.sp z:Nat) p=ff at*;generalize Sp.dQ s.k.sp z=ss at*;have ltI:(ff:Int)<20:=bB
   go_in
   go_wp2_with fail
   refine sC AC.v ?_;rintro w1 hw;subst w1;go_wp2_with fail
   go_quiet ((first|(go_at_call 62;exact Calls.quiet_of_same (SP.v _))|(go_at_call 61;exact Calls.quiet_of_same (FI.v _))))
   go_wp2_with fail
   refine sC (LV2.v _) ?_;rintro w1 hw;subst w1;cases v
   .go_wp2
    go_ret2
    exact⟨rfl,below_drewN (aQ _ _) _⟩
   .go_wp2
    go_ret2
    exact⟨rfl,below_drewN (aQ _ _) _⟩
  .have E1:Kn.fG s.k z p=Sp.ix s.k.sp (Sp.dQ s.k.sp z:Nat) p:=by unfold Kn.fG;rw[aJ c,aI f]
   have E2:Kn.j8 s.k z p=0:=by unfold Kn.j8;rw[E1,aI f]
   rw[bM f]at FI;rw[E1,E2,bM f];generalize s.A 0=kb at*;generalize s.A 1=sb at*;generalize Sp.e9 s.k.sp (Sp.dQ s.k.sp z:Nat) p=ff at*;generalize Sp.ix s.k.sp (Sp.dQ s.k.sp z:Nat) p=fe at*;generalize Sp.dQ s.k.sp z=ss at*;go_in
   go_wp2_with fail
   refine sC AC.v ?_;rintro w1 hw;subst w1;go_wp2_with fail
   go_quiet ((first|(go_at_call 62;exact Calls.quiet_of_same (SP.v _))|(go_at_call 61;exact Calls.quiet_of_same (FI.v _))))
   go_wp2
   go_ret2
   exact⟨rfl,below_drewN (aQ _ _) _⟩
 .have E1:Kn.fG s.k z p=Kn.cC s.k z:=aI c;have E2:Kn.j8 s.k z p=0:=by unfold Kn.j8;rw[E1,aI c]
  rw[bM c]at AC;rw[E1,E2,bM c];generalize gO (s.A 0) z (Kn.cC s.k z)=ap at*;generalize Kn.cC s.k z=ae at*;generalize s.A 0=kb at*;go_in
  go_wp2_with fail
  refine sC AC.v ?_;rintro w1 hw;subst w1;go_wp2
  go_ret2
  exact⟨rfl,aQ _ _⟩
end
structure Kn.KI (N:Nat)(d:Nat->Nat)(k:Kp):Prop where
 vi:VI (λ_=>False) N d k
 fi:∀m,m<20->Kn.lv k m=bw->Kn.hd k m≠m->Sg.ft (k.p m).box 0 0
 pr:∀m,m<20->m≠0->(k.p m).st≠0->∃q,q<20/\q≠m/\(k.p m).par=(q:Int)
 h0:Kn.hd k 0=0
def Kn.qH(k:Kp)(z c:Int):Int:=if Kn.cC k z=0 then(if c<0\/255<c then 1 else if z=0 then 8 else 0)else Kn.cC k z
def Kn.ng(k:Kp)(z c:Int)(k':Kp):Prop:=(Kn.qH k z c≠0/\k'=k)\/(Kn.qH k z c=0/\∃n y q,z=(n:Nat)/\n<20/\n≠0/\Kn.lv k n=bw/\k.sp.of n=y+1/\q<20/\q≠n/\(k.p n).par=(q:Nat)/\Kn.kL k n c y q k')
section
variable (Wr N:Nat)(d:Nat->Nat)(s:St)(w:bD)
theorem Bp(hN:N<=900)(z c:Int)(h:bP w Wr s)(hi:Kn.KI N d s.k):
  Calls prog 20 #[ai (bj ⟨s.A 0,0,bu⟩),aa az z,aa az c] w λe w'=>∃k',e=bf (bN (Kn.qH s.k z c))/\Kn.ng s.k z c k'/\bP w' Wr {s with k:=k'}/\KF s w {s with k:=k'} w':=by
 have AC:=hZ (dP Wr s w z h);have H:=hZ (aK h hi);by_cases a:Kn.cC s.k z=0
 .obtain⟨n,rfl,hn,hl⟩:=Kn.fL a;rw[a,bF]at AC;generalize gO (s.A 0) (n:Int) 0=ap at*;by_cases b:c<0\/255<c
  .have E:Kn.qH s.k (n:Int) c=1:=by unfold Kn.qH;rw[aJ a,aJ b]
   have FIN:Hid (Kn.ng s.k (n:Int) c s.k):=hZ (.inl ⟨by rw[E];decide,rfl⟩);rw[E];generalize s.A 0=kb at*;by_cases b1:c<0
   .clear b;go_in
    go_wp2_with fail
    refine sC AC.v ?_;rintro w1 hw;subst w1;go_wp2
    go_ret
    exact⟨s.k,rfl,FIN.v,H.1,KF.refl _ _⟩
   .have b2:255<c:=bB
    go_in
    go_wp2_with fail
    refine sC AC.v ?_;rintro w1 hw;subst w1;go_wp2
    go_ret
    exact⟨s.k,rfl,FIN.v,H.1,KF.refl _ _⟩
  .have b1:¬c<0:=bB
   have b2:¬255<c:=bB
   by_cases n0:n=0
   .subst n0;have E:Kn.qH s.k ((0:Nat):Int) c=8:=by unfold Kn.qH;rw[aJ a,aI b];rfl
    have FIN:Hid (Kn.ng s.k ((0:Nat):Int) c s.k):=hZ (.inl ⟨by rw[E];decide,rfl⟩);rw[E];generalize s.A 0=kb at*;go_in
    go_wp2_with fail
    refine sC AC.v ?_;rintro w1 hw;subst w1;go_wp2
    go_ret
    exact⟨s.k,rfl,FIN.v,H.1,KF.refl _ _⟩
   .have E:Kn.qH s.k (n:Int) c=0:=by unfold Kn.qH;rw[aJ a,aI b,nK]
    have st0:(s.k.p n).st≠0:=by
     have:decide ((s.k.p n).st=1)=bw:=hl;have:(s.k.p n).st=1:=by simpa using this
     omega
    obtain⟨q,gU,qn,hp⟩:=hi.pr n hn n0 st0;obtain⟨y,hy⟩:∃y,s.k.sp.of n=y+1:=⟨s.k.sp.of n-1,by have:=(hi.vi.kj.of n hn).2 st0;omega⟩;have EN:=hZ (xB Wr N d hN s w n y q c h hi.vi hn n0 hl hy gU qn hp (λm hm _=>hi.fi m hm));have FIN:Hid (∀k',Kn.kL s.k n c y q k'->Kn.ng s.k (n:Int) c k'):=hZ (λk' e=> .inr ⟨E,n,y,q,rfl,hn,n0,hl,hy,gU,qn,hp,e⟩);rw[E,bF];have nI:((n:Int)==0)=bA:=by simpa using n0
    have nI2:¬(n:Int)=0:=bB
    generalize s.A 0=kb at*;go_in
    go_wp2_with fail
    refine sC AC.v ?_;rintro w1 hw;subst w1;go_wp2_with fail
    refine EN.mono ?_;rintro e w1 ⟨k',rfl,et,ka,kf⟩;have S1:Hid (Kn.ng s.k (n:Int) c k'/\bP w1 Wr {s with k:=k'}/\KF s w {s with k:=k'} w1):=hZ ⟨FIN.v k' et,ka,kf⟩;go_wp2
    go_ret
    exact⟨k',rfl,S1.v⟩
 .have E:Kn.qH s.k z c=Kn.cC s.k z:=aI a;have FIN:Hid (Kn.ng s.k z c s.k):=hZ (.inl ⟨by rw[E];exact a,rfl⟩);rw[bM a]at AC;rw[E,bM a];generalize gO (s.A 0) z (Kn.cC s.k z)=ap at*;generalize Kn.cC s.k z=ae at*;generalize s.A 0=kb at*;go_in
  go_wp2_with fail
  refine sC AC.v ?_;rintro w1 hw;subst w1;go_wp2
  go_ret
  exact⟨s.k,rfl,FIN.v,H.1,KF.refl _ _⟩
end
namespace Kn
def dW(s:St)(n mb bb:Nat)(x:Pr):St:={s with A:=λi=>if i=9+n then mb else if i=29+n then bb else s.A i,k:=s.k.put n x}
theorem nG(s:St)(n mb bb:Nat)(x:Pr):(dW s n mb bb x).A (9+n)=mb:=aJ rfl
theorem nF(s:St)(n mb bb:Nat)(x:Pr):(dW s n mb bb x).A (29+n)=bb:=(nK).trans (aJ rfl)
theorem eZ(s:St)(n mb bb:Nat)(x:Pr)(h1:i≠9+n)(h2:i≠29+n):(dW s n mb bb x).A i=s.A i:=(aI h1).trans (aI h2)
theorem wF{s:St}{x:Pr}(hi:us (dW s n mb bb x) i):i=9+n\/i=29+n\/(us s i/\i≠9+n/\i≠29+n):=by
 by_cases c1:i=9+n
 .exact .inl c1
 .by_cases c2:i=29+n
  .exact .inr (.inl c2)
  .refine .inr (.inr ⟨?_,c1,c2⟩);rcases hi with hi|⟨h1,h2,h3⟩|⟨h1,h2,h3⟩|⟨h1,h2,h3⟩|⟨h1,h2,h3,h4⟩
   .exact .inl hi
   .have h5:((s.k.put n x).p (i-9)).has=bw:=h3;rw[bO _ _ _ _ bB]at h5;exact .inr (.inl ⟨h1,h2,h5⟩)
   .have h5:((s.k.put n x).p (i-29)).has=bw:=h3;rw[bO _ _ _ _ bB]at h5;exact .inr (.inr (.inl ⟨h1,h2,h5⟩))
   .exact .inr (.inr (.inr (.inl ⟨h1,h2,h3⟩)))
   .exact .inr (.inr (.inr (.inr ⟨h1,h2,h3,h4⟩)))
theorem Rx(s:St)(n mb bb:Nat)(x:Pr)(hn:n<20)(o:Nat)(ho:o<253):kc (dW s n mb bb x) o=if o<240/\o/12=n then fv mb bb x (o%12)else kc s o:=by
 unfold kc;by_cases c:o<240
 .rw[aJ c,aJ c];unfold pc;by_cases e:o/12=n
  .rw[aJ ⟨c,e⟩,e,nG,nF];show fv mb bb ((s.k.put n x).p n) _=_;rw[bG]
  .rw[aI (λq=>e q.2),eZ _ _ _ _ _ bB bB,eZ _ _ _ _ _ bB bB];show fv _ _ ((s.k.put n x).p (o/12)) _=_;rw[bO _ _ _ _ e]
 .have c':¬(o<240/\o/12=n):=λq=>c q.1;rw[aI c,aI c',aI c];by_cases c2:o<246
  .rw[aJ c2,aJ c2,eZ _ _ _ _ _ bB bB];rfl
  .rw[aI c2,aI c2];by_cases c3:o<250
   .rw[aJ c3,aJ c3,eZ _ _ _ _ _ bB bB]
   .rw[aI c3,aI c3,eZ _ _ _ _ _ bB bB]
end Kn
section
variable {w w':bD}{Wr:Nat}{s:St}
theorem bP.born(h:bP w Wr s)(hn:n<20){x:Pr}(um:dq w mb (s.A 4) x.mem)(ub:CX w bb x.box)(am:∀i,us s i->s.A i≠mb)(ab:∀i,us s i->s.A i≠bb)(mn:mb≠bb)(lm:Wr<=mb)(lb:Wr<=bb):
  bP (w.setCells (s.A 0) (n*12) (dS mb bb x).toList) Wr (Kn.dW s n mb bb x)/\bH (s.A 0) w (w.setCells (s.A 0) (n*12) (dS mb bb x).toList):=by
 obtain⟨C,e,sz⟩:=h.mW;obtain⟨C',e',sz'⟩:=eR (s.A 0) (dS mb bb x).toList (n*12) w C e;have hl:(dS mb bb x).toList.length=12:=by rw[aB,dI]
 have f:bH (s.A 0) w (w.setCells (s.A 0) (n*12) (dS mb bb x).toList):=bH.setCells _ _ (bH.refl _ _);have dY:∀o,o<253->(w.setCells (s.A 0) (n*12) (dS mb bb x).toList).cell? ⟨s.A 0,o,bu⟩=bj (Kn.kc (Kn.dW s n mb bb x) o):=λo ho=>by
  rw[Kn.Rx s n mb bb x hn o ho];by_cases c:o<240/\o/12=n
  .rw[aJ c];obtain⟨j,rfl,hj⟩:∃j,o=n*12+j/\j<12:=⟨o%12,bB,bB⟩;rw[aS (s.A 0) (dS mb bb x).toList (n*12) w (λi hi=>by rw[hl]at hi;rw[h.cP n i hn hi];rfl) j bB,<-aW bB,aM,lZ mb bb x j hj,show(n*12+j)%12=j by omega]
  .rw[aI c,aA (s.A 0) _ (n*12) w ⟨s.A 0,o,bu⟩ (λ_ _=>by rw[hl];show o<_\/_<=o;omega)];exact h.dY o ho
 have o:=h.others cv f;have A9:∀i,i<9->(Kn.dW s n mb bb x).A i=s.A i:=λi hi=>Kn.eZ _ _ _ _ _ bB bB;have pj:∀j,j≠n->(Kn.dW s n mb bb x).k.p j=s.k.p j:=λj c=>Kn.bO _ _ _ _ c;have pn:(Kn.dW s n mb bb x).k.p n=x:=Kn.bG _ _ _;have um':dq (w.setCells (s.A 0) (n*12) (dS mb bb x).toList) mb (s.A 4) x.mem:=um.same (f.block _ um.lt (am 0 cv).symm);have ub':CX (w.setCells (s.A 0) (n*12) (dS mb bb x).toList) bb x.box:=ub.same (f.block _ ub.lt (ab 0 cv).symm);refine⟨⟨⟨C',by rw[A9 0 bB];exact e',bB⟩,λi hi=>by rw[A9 0 bB];exact dY i hi,by rw[A9 1 bB];exact h.sp.same (o 1 cv bB),by rw[A9 2 bB];exact(o 2 cv bB).trans h.gr,by rw[A9 3 bB];exact h.sc.same (o 3 cv bB),by rw[A9 4 bB,A9 5 bB];exact h.bk.same (o 4 cv bB) (o 5 cv bB),by rw[A9 8 bB,A9 6 bB,A9 7 bB];exact h.fi.same (o 8 cv bB),by rw[A9 6 bB];exact h.fo.same (o 6 cv bB),by rw[A9 7 bB];exact h.pi.same (o 7 cv bB),
  λj hj jh=>?_,λj hj jh=>?_,λj hj hh=>?_,λj hj hh g eg=>?_,λi j hi hj eq=>?_,λi hi=>?_⟩,f⟩
 .by_cases c:j=n
  .subst c;rw[Kn.nG,A9 4 bB,pn];exact um'
  .rw[pj j c]at jh|-;rw[Kn.eZ _ _ _ _ _ bB bB,A9 4 bB];exact(h.me j hj jh).same (o _ (Kn.jf hj jh) bB)
 .by_cases c:j=n
  .subst c;rw[Kn.nF,pn];exact ub'
  .rw[pj j c]at jh|-;rw[Kn.eZ _ _ _ _ _ bB bB];exact(h.bx j hj jh).same (o _ (Kn.j9 hj jh) bB)
 .rw[Kn.eZ _ _ _ _ _ bB bB,A9 6 bB];exact(h.tb j hj hh).same (o _ (Kn.kF hj hh) bB) (λg eg=>by have:=o _ (Kn.km hj hh eg) bB;rwa [h.ro j hj hh g eg]at this)
 .rw[Kn.eZ _ _ _ _ _ bB bB];exact h.ro j hj hh g eg
 .rcases Kn.wF hi with rfl|rfl|⟨ui,i1,i2⟩<;>rcases Kn.wF hj with rfl|rfl|⟨uj,j1,j2⟩
  .rfl
  .rw[Kn.nG,Kn.nF]at eq;exact aZ eq mn
  .rw[Kn.nG,Kn.eZ _ _ _ _ _ j1 j2]at eq;exact aZ eq.symm (am j uj)
  .rw[Kn.nG,Kn.nF]at eq;exact aZ eq.symm mn
  .rfl
  .rw[Kn.nF,Kn.eZ _ _ _ _ _ j1 j2]at eq;exact aZ eq.symm (ab j uj)
  .rw[Kn.nG,Kn.eZ _ _ _ _ _ i1 i2]at eq;exact aZ eq (am i ui)
  .rw[Kn.nF,Kn.eZ _ _ _ _ _ i1 i2]at eq;exact aZ eq (ab i ui)
  .rw[Kn.eZ _ _ _ _ _ i1 i2,Kn.eZ _ _ _ _ _ j1 j2]at eq;exact h.inj i j ui uj eq
 .rcases Kn.wF hi with rfl|rfl|⟨ui,i1,i2⟩
  .rw[Kn.nG];exact lm
  .rw[Kn.nF];exact lb
  .rw[Kn.eZ _ _ _ _ _ i1 i2];exact h.low i ui
end
theorem yk{P:Program}{ops:Array Oper}{rest:List Oper}{op:Oper}{a:Act}{Q:Act->Prop}(hgd:op.guard=bu)(ty:TypeId)(x:Operand)(ho:op.op= .load ty x)
  (b o:Nat) (hx:a.eval x=ai (bj ⟨b,o,bu⟩)) (cs:List Value) (d:TypeDesc) (hc:w.rangeAt b o cs)
  (hu:P.underlying ty=bj d) (hd:d.isRow=bw) (hi:(P.info? ty).map (·.size)=bj cs.length)
  (h:wpStill P ops w Q rest (a.put op.dst (au cs.toArray))):wpStill P ops w Q (op::rest) a:=
 wpStill_step (λK hK=>by
  have hw:Region.wanted op (yielded ops a.tmps)=bw:=by simp[Region.wanted,hgd]
  rw[aJ hw];unfold Oper.still execOp;simp only[ho,hx,Instr.loadAt,Instr.sureAddr,Sem.run_bind,Sem.run_pure,Result.andThen_ok,run_loadVar_mid w b o ty cs d hc hu hd hi];rw[Oper.stillUpon_value];exact hK _ h)
section
variable {ops:Array Oper}{rest:List Oper}{x:Oper}{a:Act}{w:bD}{Q:Exit->Act->bD->Prop}
theorem Fq(hgd:x.guard=bu)(y:Operand)(A:Array Value)(ho:x.op= .box 74 y)(hy:a.eval y=au A)(h:wpList prog ops Q rest (a.put x.dst (ai (bj ⟨w.heap.size,0,bu⟩))) (w.alloc (bh A 74))):wpList prog ops Q (x::rest) a w:=
 wpList_plain hgd λ_ hK=>by
  unfold Oper.wp execOp;simp only[ho,hy];simp[go_sem];exact hK _ _ h
end
def Kn.iR(k:Kp)(n:Nat)(x:Pr)(z:Int)(m:Wf.M):Kp:={k.put n x with sp:=Sp.fM k.sp z (n:Int),sc:=m}
section
variable (Wr:Nat)(s:St)(w:bD)
theorem yZ(n mb bb:Nat)(x:Pr)(z:Int)(d:Nat->Nat)(h:bP w Wr s)(hn:n<20)(hI:Sp.Inv s.k.sp d)(um:dq w mb (s.A 4) x.mem)(ub:CX w bb x.box)(am:∀i,us s i->s.A i≠mb)(ab:∀i,us s i->s.A i≠bb)(mn:mb≠bb)(lm:Wr<=mb)(lb:Wr<=bb):
  Calls prog 68 #[ai (bj ⟨s.A 0,0,bu⟩),aa az n,au (dS mb bb x),aa az z] w λe w'=>∃m',e=bf (ao #[])/\Wf.jB (Wf.ec s.k.sc (n:Int) x.cD) (n:Int) bw m'/\bP w' Wr {Kn.dW s n mb bb x with k:=Kn.iR s.k n x z m'}/\dM (KB s) w w':=by
 have hnI:(n:Int)<20:=bB
 obtain⟨kb,hkb⟩:=nJ (s.A 0);have HK:=hZ hkb;have b0:Below w.heap.size w (w.alloc (bh (dS mb bb x) 74)):=(aQ _ _).alloc (aL _) _;have N0:Hid ((w.alloc (bh (dS mb bb x) 74)).heap[w.heap.size]? =bj (bh (dS mb bb x) 74 (0,0))):=hZ (heap_alloc_new w _);have BN:=hZ ((h.below b0).drew.born hn (x:=x) (um.below b0).drew (ub.below b0 ub.lt).drew am ab mn lm lb);have B0:=hZ b0;have H:=hZ (aK h hI);have RG:Hid ((w.alloc (bh (dS mb bb x) 74)).rangeAt w.heap.size 0 (dS mb bb x).toList):=hZ (λj hj=>by
  rw[Nat.zero_add,bS N0.v];simp)
 have TH:Hid ((w.alloc (bh (dS mb bb x) 74)).there kb (n*12) (dS mb bb x).size):=hZ (by rw[dI,<-hkb];exact(h.below b0).there hn);have SZ:Hid ((prog.info? 74).map (·.size)=bj (dS mb bb x).size):=hZ (by rw[dI];kernel_rfl);have SL:Hid ((prog.info? 74).map (·.size)=bj (dS mb bb x).toList.length):=hZ (by rw[aB,dI];kernel_rfl);have H1:Hid ((dS mb bb x).all (·.oneCell')=bw):=hZ (qt mb bb x);have GR:Hid ((dS mb bb x)[2]? =bj (aa az x.cD)):=hZ (by rw[lZ mb bb x 2 bB];rfl);obtain⟨PA,hPA⟩:=nJ (dS mb bb x);rw[hPA]at N0 BN B0 RG TH SZ SL H1 GR|-;rw[hkb]at BN|-;go_in
 go_upto_region 1 with(refine Fq rfl _ PA rfl rfl ?_)
 refine wp_region_still_tail 6 bC bC ?_;simp only[List.take_succ_cons,List.take_zero,List.drop_succ_cons,List.drop_zero]
 iterate 2 still_step
 refine yk rfl 74 _ rfl w.heap.size 0 rfl PA.toList _ RG.v Tryz.underlying74 rfl SL.v ?_;rw[Array.toArray_toList]
 iterate 3 still_step
 refine wpStill_nil ?_;go_upto_region 2 with(refine wpList_store_mid rfl 74 _ _ rfl kb (n*12) PA rfl rfl TH.v SZ.v H1.v ?_)
 have KL:Hid (∀i,us s i->s.A i<w.heap.size):=hZ (λi hi=>H.1.lt hi);have FIN0:Hid (bP ((w.alloc (bh PA 74)).drew.setCells kb (n*12) PA.toList) Wr (Kn.dW s n mb bb x)/\dM (KB s) w ((w.alloc (bh PA 74)).drew.setCells kb (n*12) PA.toList)/\((w.alloc (bh PA 74)).drew.setCells kb (n*12) PA.toList).cell? ⟨w.heap.size,2,bu⟩=bj (aa az x.cD)/\w.heap.size<((w.alloc (bh PA 74)).drew.setCells kb (n*12) PA.toList).heap.size):=hZ (by
  have ls:w.heap.size<(w.alloc (bh PA 74)).heap.size:=by simp
  refine⟨BN.1,(dM.cJ B0.v).drew.trans (dM.kX BN.2 (by rw[<-HK.v];exact⟨0,cv,rfl⟩)),?_,aD ls BN.2.size⟩;rw[aV (BN.2.block w.heap.size ls (by have:=KL.v 0 cv;rw[HK.v]at this;omega))];show(w.alloc (bh PA 74)).cell? ⟨w.heap.size,2,bu⟩=_;rw[bS N0.v];exact GR.v)
 refine cM (λW=>bP W Wr (Kn.dW s n mb bb x)/\dM (KB s) w W/\W.cell? ⟨w.heap.size,2,bu⟩=bj (aa az x.cD)/\w.heap.size<W.heap.size) FIN0.v ?_;intro W1 hW1;have S1:=hZ hW1;obtain⟨bx,hbx⟩:=nJ (w.heap.size);rw[hbx]at S1 KL|-;obtain⟨gz,hgz⟩:=nJ (x.cD);have HGZ:=hZ hgz;have A0:Hid ((Kn.dW s n mb bb x).A 0=kb/\(Kn.dW s n mb bb x).A 1=s.A 1/\(Kn.dW s n mb bb x).A 3=s.A 3):=hZ ⟨(Kn.eZ _ _ _ _ _ bB bB).trans HK.v,Kn.eZ _ _ _ _ _ bB bB,Kn.eZ _ _ _ _ _ bB bB⟩;obtain⟨p1,hp1⟩:=nJ (s.A 1);obtain⟨p3,hp3⟩:=nJ (s.A 3);have HP:Hid (s.A 1=p1/\s.A 3=p3/\p1≠bx/\p3≠bx):=hZ ⟨hp1,hp3,by have:=KL.v 1 cv;omega,by have:=KL.v 3 cv;omega⟩;rw[hp1,hp3]at A0;have c6:=S1.1.wQ;rw[A0.1,A0.2.1]at c6;have EN:=hZ (Ko p1 z (n:Int) s.k.sp d W1 (by have q:=S1.1.sp;rw[A0.2.1]at q;exact q) H.2);go_wp2_with fail
 refine EN.mono ?_;rintro e w5 ⟨rfl,t5,f5⟩;generalize (ao #[aa az (Sp.uP s.k.sp z (n:Int):Int),bN (Sp.mP s.k.sp z (n:Int))])=ev2;have S2:Hid (bP w5 Wr {Kn.dW s n mb bb x with k:={s.k.put n x with sp:=Sp.fM s.k.sp z (n:Int)}}/\dM (KB s) w w5/\w5.cell? ⟨bx,2,bu⟩=bj (aa az x.cD)/\bx<w5.heap.size):=hZ (by
  have q:=S1.1.zm (by rw[A0.2.1];exact t5) (by rw[A0.2.1];exact f5);refine⟨q.1,S1.2.1.trans (dM.kX f5 (by rw[<-HP.1];exact⟨1,cv,rfl⟩)),?_,aD S1.2.2.2 f5.size⟩;rw[aV (f5.block bx S1.2.2.2 (bQ HP.2.2.1))];exact S1.2.2.1)
 go_upto_region 3 with fail
 have KC:Hid (∀W k,bP W Wr {Kn.dW s n mb bb x with k:=k}->W.cell? ⟨bx,2,bu⟩=bj (aa az x.cD)->W.cell? ⟨kb,248,bu⟩=bj (ai (bj ⟨p3,0,bu⟩))/\W.cell? ⟨bx,2,bu⟩=bj (aa az gz)):=hZ (λW k hW e=>by
  have a:=hW.yK;rw[show({Kn.dW s n mb bb x with k:=k}:St).A 0=kb from A0.1,show({Kn.dW s n mb bb x with k:=k}:St).A 3=p3 from A0.2.2]at a;rw[HGZ.v]at e;exact⟨a,e⟩)
 have K0:=hZ (KC.v w5 _ S2.1 S2.2.2.1);have AT:=hZ (Wf.Ft p3 s.k.sc w5.drew (n:Int) gz 100 (by have q:=S2.1.drew.sc;rw[show({Kn.dW s n mb bb x with k:={s.k.put n x with sp:=Sp.fM s.k.sp z (n:Int)}}:St).A 3=p3 from A0.2.2]at q;exact q) ⟨by omega,bB⟩);obtain⟨y1,y2⟩:=K0.v;go_region_held3 (λw'=>w'.cell? ⟨kb,248,bu⟩=bj (ai (bj ⟨p3,0,bu⟩))/\w'.cell? ⟨bx,2,bu⟩=bj (aa az gz)) (first|exact K0.v|exact K4.v) (
  (go_at_call 143;refine AT.mono ?_;rintro e w6 ⟨⟨E6,rfl⟩,t6,f6⟩;have S4:Hid (bP w6 Wr {Kn.dW s n mb bb x with k:={s.k.put n x with sp:=Sp.fM s.k.sp z (n:Int),sc:=Wf.ec s.k.sc (n:Int) gz}}/\dM (KB s) w w6/\w6.cell? ⟨bx,2,bu⟩=bj (aa az x.cD)/\bx<w6.heap.size):=hZ (by
   have q:=S2.1.drew.lN (by rw[show({Kn.dW s n mb bb x with k:={s.k.put n x with sp:=Sp.fM s.k.sp z (n:Int)}}:St).A 3=p3 from A0.2.2];exact t6) (by rw[show({Kn.dW s n mb bb x with k:={s.k.put n x with sp:=Sp.fM s.k.sp z (n:Int)}}:St).A 3=p3 from A0.2.2];exact f6);refine⟨q.1,S2.2.1.drew.trans (dM.kX f6 (by rw[<-HP.2.1];exact⟨3,cv,rfl⟩)),?_,aD S2.2.2.2 f6.size⟩;rw[aV (f6.block bx S2.2.2.2 (bQ HP.2.2.2))];exact S2.2.2.1);have K4:=hZ (KC.v w6 _ S4.1 S4.2.2.1)))
 generalize bN E6=ev3;have c8:=(KC.v w6 _ S4.1 S4.2.2.1).1;have WK:=hZ (Wf.Fh p3 (Wf.ec s.k.sc (n:Int) gz) w6 (n:Int) bw (by have q:=S4.1.sc;rw[show({Kn.dW s n mb bb x with k:={s.k.put n x with sp:=Sp.fM s.k.sp z (n:Int),sc:=Wf.ec s.k.sc (n:Int) gz}}:St).A 3=p3 from A0.2.2]at q;exact q));go_wp2_with fail
 refine WK.mono ?_;rintro e w7 ⟨⟨E7,rfl⟩,t7,f7⟩;obtain⟨m',wk⟩:∃m',Wf.jB (Wf.ec s.k.sc (n:Int) gz) (n:Int) bw m':=⟨_,rfl⟩;rw[<-wk]at t7;generalize bN E7=ev4;have S5:Hid (Wf.jB (Wf.ec s.k.sc (n:Int) x.cD) (n:Int) bw m'/\bP w7 Wr {Kn.dW s n mb bb x with k:=Kn.iR s.k n x z m'}/\dM (KB s) w w7):=hZ (by
  have q:=S4.1.lN (by rw[show({Kn.dW s n mb bb x with k:={s.k.put n x with sp:=Sp.fM s.k.sp z (n:Int),sc:=Wf.ec s.k.sc (n:Int) gz}}:St).A 3=p3 from A0.2.2];exact t7) (by rw[show({Kn.dW s n mb bb x with k:={s.k.put n x with sp:=Sp.fM s.k.sp z (n:Int),sc:=Wf.ec s.k.sc (n:Int) gz}}:St).A 3=p3 from A0.2.2];exact f7);exact⟨by rw[HGZ.v];exact wk,q.1,S4.2.1.trans (dM.kX f7 (by rw[<-HP.2.1];exact⟨3,cv,rfl⟩))⟩)
 go_wp2_with fail
 go_end0
 exact⟨m',rfl,S5.v⟩
