import Derived.Test.YtpmmdkcfenjiaaaGreatDoorUan
set_option linter.unusedVariables false
set_option linter.unusedSimpArgs false
namespace Go.Proofs.YtpmmdkcfenjiaaaGreatDoor
open Tr (Fo Nd)
theorem Rx:∀(k m:Nat) (f:Nat->Nat),(∀i,i<m->f i<k)->(∀i j,i<j->j<m->f i≠f j)->m<=k
 |0,m,f,h,_=>by
  rcases Nat.eq_zero_or_pos m with h0|h0
  .omega
  .exact aZ (h 0 h0) bu
 |k+1,m,f,h,hi=>by
  by_cases c:∃i,i<m/\f i=k
  .obtain⟨a,ha,hk⟩:=c;have:=Rx k (m-1) (λi=>if i<a then f i else f (i+1)) (λi hm=>by
    split
    .have h1:=h i bu;have h2:=hi i a bu ha;omega
    .have h1:=h (i+1) bu;have h2:=hi a (i+1) bu bu;omega) (λi j hij hj=>by
    by_cases c1:i<a
    .grind
    .rw[aI c1,nJ];exact hi (i+1) (j+1) bu bu)
   omega
  .have:=Rx k m f (λi hm=>by
    have h1:=h i hm;have h2:f i≠k:=λe=>c ⟨i,hm,e⟩;omega) hi
   omega
def Tr.fY(F:Fo)(n:Nat):Nat->Nat
 |0=>n
 |k+1=>(F.nd (Tr.fY F n k)).up
theorem Tr.mG(F:Fo)(n:Nat):∀k,Tr.fY F (F.nd n).up k=Tr.fY F n (k+1)
 |0=>rfl
 |k+1=>by show(F.nd (Tr.fY F (F.nd n).up k)).up=_;rw[Tr.mG F n k];rfl
theorem Tr.zt(F:Fo)(n i:Nat):∀k,Tr.fY F (Tr.fY F n i) k=Tr.fY F n (i+k)
 |0=>rfl
 |k+1=>by show(F.nd (Tr.fY F (Tr.fY F n i) k)).up=_;rw[Tr.zt F n i k];rfl
theorem Tr.dn.first{F:Fo}:∀{m n:Nat},Tr.dn F m n->∃e,(∀j,j<=e->Tr.fY F n j<40)/\(F.nd (Tr.fY F n e)).up=Tr.fY F n e/\∀j,j<e->(F.nd (Tr.fY F n j)).up≠Tr.fY F n j
 |0,n,h=>⟨0,λj hj=>by obtain rfl:j=0:=bu;exact h.1,h.2,λj hj=>bu⟩
 |m+1,n,h=>by
  by_cases c:(F.nd n).up=n
  .exact⟨0,λj hj=>by obtain rfl:j=0:=bu;exact h.1,c,λj hj=>bu⟩
  .rcases h.2 with h2|h2
   .exact aZ h2 c
   .obtain⟨e,h3,h4,h5⟩:=h2.first;refine⟨e+1,λj hj=>?_,?_,λj hj=>?_⟩
    .cases j with
     |zero=>exact h.1
     |succ j=>rw[<-Tr.mG];exact h3 j bu
    .rw[<-Tr.mG];exact h4
    .cases j with
     |zero=>exact c
     |succ j=>rw[<-Tr.mG];exact h5 j bu
theorem Tr.dn.Tw{F:Fo}:∀{e n:Nat},(∀j,j<=e->Tr.fY F n j<40)->(F.nd (Tr.fY F n e)).up=Tr.fY F n e->Tr.dn F e n
 |0,_,h1,h2=>⟨h1 0 bu,h2⟩
 |e+1,n,h1,h2=>⟨h1 0 bu, .inr (Tr.dn.Tw (λj hj=>by rw[Tr.mG];exact h1 (j+1) bu) (by rw[Tr.mG];exact h2))⟩
theorem Tr.dn.mono{F:Fo}{n m:Nat}(h:Tr.dn F m n):∀k,Tr.dn F (m+k) n
 |0=>h
 |k+1=>(Tr.dn.mono h k).more.1
theorem Tr.dn.Gq{F:Fo}{m n:Nat}(h:Tr.dn F m n):Tr.dn F 40 n:=by
 obtain⟨e,h1,h2,h3⟩:=h.first;have he:e+1<=40:=Rx 40 (e+1) (Tr.fY F n) (λi hi=>h1 i bu) (λi j hij hj eq=>by
  have a:Tr.fY F n (i+(e-j))=Tr.fY F n e:=by
   rw[<-Tr.zt,eq,Tr.zt,show j+(e-j)=e by omega]
  exact h3 (i+(e-j)) bu (by rw[a,h2]))
 have:=(Tr.dn.Tw h1 h2).mono (40-e);grind
def Tr.Nodup(x:Nd):Prop:=∀i j,i<j->j<x.size->(x.dS i).toList≠(x.dS j).toList
theorem Tr.Nodup.ne{x:Nd}(h:Tr.Nodup x){i j:Nat}(hi:i<x.size)(hj:j<x.size)(c:i≠j):(x.dS i).toList≠(x.dS j).toList:=by grind [Tr.Nodup]
theorem Tr.qD(x:Nd)(i:Nat):(Tr.eE x i).size=x.size-1:=rfl
theorem Tr.v8{x:Nd}{i j:Nat}(hj:j<x.size-1):(Tr.eE x i).dS j=if j=i then x.dS (x.size-1)else x.dS j:=by
 show gY (gY x.dS i _) (x.size-1) _ j=_;rw[uG _ _ _ _ bu];rfl
theorem Tr.pL{x:Nd}{i j:Nat}(hj:j<x.size-1):(Tr.eE x i).cR j=if j=i then x.cR (x.size-1)else x.cR j:=by
 show gY (gY x.cR i _) (x.size-1) _ j=_;rw[uG _ _ _ _ bu];rfl
theorem Tr.Ly{x:Nd}{i j:Nat}(hi:i<x.size)(hj:j<x.size-1):∃q,q<x.size/\q≠i/\(Tr.eE x i).dS j=x.dS q/\(Tr.eE x i).cR j=x.cR q:=by
 by_cases c:j=i
 .refine⟨x.size-1,bu,bu,?_,?_⟩
  .rw[Tr.v8 hj,aJ c]
  .rw[Tr.pL hj,aJ c]
 .refine⟨j,bu,c,?_,?_⟩
  .rw[Tr.v8 hj,aI c]
  .rw[Tr.pL hj,aI c]
theorem Tr.Nodup.eE{x:Nd}(h:Tr.Nodup x){i:Nat}(hi:i<x.size):Tr.Nodup (Tr.eE x i):=by grind [Tr.Nodup,Tr.eE,Tr.qD,Tr.v8]
theorem Tr.uX{x:Nd}{s:bU}{k j:Nat}(hj:j<x.size):(Tr.iF x s k).dS j=x.dS j/\(Tr.iF x s k).cR j=x.cR j:=⟨uG _ _ _ _ bu,uG _ _ _ _ bu⟩
theorem Tr.rX(x:Nd)(s:bU)(k:Nat):(Tr.iF x s k).dS x.size=s/\(Tr.iF x s k).cR x.size=k:=⟨qg _ _ _,qg _ _ _⟩
theorem Tr.pD(x:Nd)(s:bU)(k:Nat):(Tr.iF x s k).size=x.size+1:=rfl
theorem Tr.fp.no{x:Nd}{s:bU}(h:Tr.fp x s (-1)):∀j,j<x.size->(x.dS j).toList≠s.toList:=by
 rcases h with⟨j,e,_⟩|⟨_,h⟩
 .omega
 .exact h
theorem Tr.Nodup.iF{x:Nd}{s:bU}{k:Nat}(h:Tr.Nodup x)(hp:Tr.fp x s (-1)):Tr.Nodup (Tr.iF x s k):=by grind [Tr.Nodup,Tr.fp,Tr.iF,Tr.pD,Tr.uX,Tr.rX]
def fQ(f:Nat->Nat):Nat->Nat
 |0=>0
 |n+1=>fQ f n+f n
theorem mV{f g:Nat->Nat}:∀{n:Nat},(∀i,i<n->f i=g i)->fQ f n=fQ g n
 |0,_=>rfl
 |n+1,h=>by show fQ f n+f n=fQ g n+g n;rw[mV (λi hi=>h i bu),h n bu]
theorem vq{f:Nat->Nat}:∀{n i:Nat},i<n->f i<=fQ f n
 |n+1,i,h=>by
  show f i<=fQ f n+f n;by_cases c:i=n
  .subst c;omega
  .have:=vq (f:=f) (n:=n) (i:=i) bu;omega
theorem wK{f:Nat->Nat}:∀{n:Nat},0<fQ f n->∃i,i<n/\0<f i
 |0,h=>aZ h (bV 0)
 |n+1,h=>by
  by_cases c:0<f n
  .exact⟨n,bu,c⟩
  .have h':0<fQ f n+f n:=h;obtain⟨i,h1,h2⟩:=wK (f:=f) (n:=n) bu;exact⟨i,bu,h2⟩
theorem ux{f:Nat->Nat}{n:Nat}(h:∀i,i<n->f i=0):fQ f n=0:=by grind [fQ,wK]
theorem wJ{f g:Nat->Nat}{p:Nat}:∀{n:Nat},p<n->(∀i,i<n->i≠p->f i=g i)->fQ f n+g p=fQ g n+f p
 |n+1,hp,h=>by
  show fQ f n+f n+g p=fQ g n+g n+f p;by_cases c:p=n
  .grind [fQ,mV]
  .have:=wJ (f:=f) (g:=g) (p:=p) (n:=n) bu (λi hi hne=>h i bu hne);rw[h n bu bu];omega
def ft(a b:Nat):Nat:=if a=b then 1 else 0
theorem ik(a:Nat):ft a a=1:=aJ rfl
theorem lf{a b:Nat}(h:a≠b):ft a b=0:=aI h
def Tr.gL(x:Nd)(n:Nat):Nat:=if x.kind=2 then fQ (λi=>ft (x.cR i) n) x.size else 0
def Tr.oO(F:Fo)(n:Nat):Nat:=fQ (λt=>ft (F.root t) n) F.trees
def Tr.cL(F:Fo)(n:Nat):Nat:=fQ (λm=>Tr.gL (F.nd m) n) 40+Tr.oO F n
theorem Tr.yT{x:Nd}(n:Nat)(h:x.kind≠2):Tr.gL x n=0:=aI h
theorem Tr.O3{x:Nd}(s:bU)(k n:Nat)(h:x.kind=2):Tr.gL (Tr.iF x s k) n=Tr.gL x n+ft k n:=by
 unfold Tr.gL;rw[aJ h,aJ (show(Tr.iF x s k).kind=2 from h),Tr.pD];show fQ (λi=>ft ((Tr.iF x s k).cR i) n) x.size+ft ((Tr.iF x s k).cR x.size) n=_;rw[(Tr.rX x s k).2,mV (λi hi=>by rw[(Tr.uX hi).2])]
theorem Tr.Lm{x:Nd}{i:Nat}(n:Nat)(h:x.kind=2)(hi:i<x.size):Tr.gL (Tr.eE x i) n+ft (x.cR i) n=Tr.gL x n:=by
 unfold Tr.gL;rw[aJ h,aJ (show(Tr.eE x i).kind=2 from h),Tr.qD];obtain⟨l,hl⟩:∃l,x.size=l+1:=⟨x.size-1,bu⟩;rw[hl,show l+1-1=l by omega];show fQ (λj=>ft ((Tr.eE x i).cR j) n) l+ft (x.cR i) n=fQ (λj=>ft (x.cR j) n) l+ft (x.cR l) n;by_cases c:i=l
 .subst c;rw[mV (λj hj=>by rw[Tr.pL bu,nJ])]
 .have a:=wJ (f:=λj=>ft ((Tr.eE x i).cR j) n) (g:=λj=>ft (x.cR j) n) (p:=i) (n:=l) bu (λj hj hne=>by show ft _ n=ft _ n;rw[Tr.pL bu,aI hne]);have e:(Tr.eE x i).cR i=x.cR l:=by rw[Tr.pL bu,aJ rfl,hl];rfl
  simp only[e]at a;omega
theorem Tr.yV(F:Fo)(p:Nat)(x:Nd)(n:Nat)(hp:p<40):Tr.cL (F.put p x) n+Tr.gL (F.nd p) n=Tr.cL F n+Tr.gL x n:=by
 have a:=wJ (f:=λm=>Tr.gL ((F.put p x).nd m) n) (g:=λm=>Tr.gL (F.nd m) n) (p:=p) (n:=40) hp (λi _ hne=>by show Tr.gL ((F.put p x).nd i) n=Tr.gL (F.nd i) n;rw[Tr.bM _ _ _ _ hne]);simp only[Tr.bF]at a;unfold Tr.cL;have r:Tr.oO (F.put p x) n=Tr.oO F n:=rfl;rw[r];omega
theorem Tr.jb(F:Fo)(p:Nat)(x:Nd)(n:Nat)(hp:p<40)(h:Tr.gL x n=Tr.gL (F.nd p) n):Tr.cL (F.put p x) n=Tr.cL F n:=by
 have:=Tr.yV F p x n hp;omega
theorem Tr.yU{F:Fo}{m i:Nat}(hm:m<40)(h2:(F.nd m).kind=2)(hi:i<(F.nd m).size):1<=Tr.cL F ((F.nd m).cR i):=by
 have a:=vq (f:=λq=>Tr.gL (F.nd q) ((F.nd m).cR i)) hm;grind [vq,Tr.gL,ft,ik,fQ,Tr.cL]
theorem Tr.tH{F:Fo}{n:Nat}(h:Tr.cL F n=0):(∀m i,m<40->(F.nd m).kind=2->i<(F.nd m).size->(F.nd m).cR i≠n)/\∀t,t<F.trees->F.root t≠n:=by grind [Tr.yU,vq,ft,ik,Tr.oO,fQ,Tr.cL]
theorem Tr.O4(x:Nd)(n:Nat)(h:x.kind=2->x.size<=8):Tr.gL x n<=8:=by
 unfold Tr.gL;split
 .rename_i c;have:∀k,fQ (λi=>ft (x.cR i) n) k<=k:=λk=>by
   induction k with
   |zero=>exact aL _
   |succ k ih=>show fQ _ k+ft _ n<=_;have:ft (x.cR k) n<=1:=(by unfold ft;split<;>omega);omega
  grind
 .omega
structure Tr.Ok (F:Fo):Prop where
 tr:F.trees<=4
 kd:∀n,n<40->(F.nd n).kind<=2
 sz:Tr.j5 F
 fz:Tr.tg F
 nb:∀n i,n<40->(F.nd n).kind=2->i<(F.nd n).size->Tr.fM ((F.nd n).dS i)=true
 dp:∀n,n<40->(F.nd n).kind=2->Tr.Nodup (F.nd n)
 ki:∀n i,n<40->(F.nd n).kind=2->i<(F.nd n).size->(F.nd n).cR i<40/\(F.nd ((F.nd n).cR i)).kind≠0/\(F.nd ((F.nd n).cR i)).tree=(F.nd n).tree/\((F.nd ((F.nd n).cR i)).kind=2->(F.nd ((F.nd n).cR i)).up=n)
 rt:∀t,t<F.trees->F.root t<40/\(F.nd (F.root t)).kind=2/\(F.nd (F.root t)).up=F.root t/\(F.nd (F.root t)).tree=t
 lk:∀n,n<40->(F.nd n).kind≠0->(F.nd n).cJ=Tr.cL F n
 al:∀n,n<40->(F.nd n).kind≠0->1<=(F.nd n).cJ+(F.nd n).held
 dr:∀n,n<40->(F.nd n).kind=2->Tr.cL F n=1
 en:∀n,n<40->(F.nd n).kind=2->Tr.dn F 40 n
 ro:∀n,n<40->(F.nd n).kind=2->(F.nd n).up=n->∃t,t<F.trees/\F.root t=n
theorem Tr.Ok.none{F:Fo}(h:Tr.Ok F){k:Nat}(k0:(F.nd k).kind=0):Tr.cL F k=0:=by
 unfold Tr.cL Tr.oO;rw[ux (λm hm=>?_),ux (λt ht=>?_)]
 .exact lf (λe=>by have:=(h.rt t ht).2.1;rw[e,k0]at this;exact aZ this bA)
 .unfold Tr.gL;split
  .rename_i c;exact ux (λi hi=>lf (λe=>by have:=(h.ki m i hm c hi).2.1;rw[e]at this;exact this k0))
  .rfl
theorem Tr.Ok.mN{F:Fo}(h:Tr.Ok F)(n:Nat):Tr.cL F n<=324:=by
 have a:∀k,k<=40->fQ (λm=>Tr.gL (F.nd m) n) k<=8*k:=λk hk=>by
  induction k with
  |zero=>exact aL _
  |succ k ih=>
   show fQ _ k+Tr.gL (F.nd k) n<=_;have:=Tr.O4 (F.nd k) n (λc=>h.sz k bu c);omega
 have b:∀k,fQ (λt=>ft (F.root t) n) k<=k:=λk=>by
  induction k with
  |zero=>exact aL _
  |succ k ih=>
   show fQ _ k+ft _ n<=_;have:ft (F.root k) n<=1:=by unfold ft;split<;>omega
   omega
 have c1:=a 40 (aL _);have c2:=b F.trees;have c3:=h.tr;unfold Tr.cL Tr.oO;omega
theorem Tr.Ok.Ck{F:Fo}(h:Tr.Ok F)(n:Nat)(hn:n<40)(k0:(F.nd n).kind≠0):(F.nd n).cJ<=324:=by rw[h.lk n hn k0];exact h.mN n
theorem Tr.Ok.cR{F:Fo}(h:Tr.Ok F):Tr.FE F:=λn hn k2 i hi=>by
 obtain⟨h1,h2,_⟩:=h.ki n i hn k2 hi;have:=h.Ck _ h1 h2;exact⟨h1,by rw[h.lk _ h1 h2];exact Tr.yU hn k2 hi,bu⟩
theorem Tr.Et(n:Nat):(Tr.f0.nd n).kind=0:=rfl
theorem Tr.Up:Tr.Ok Tr.f0:=by
 have n2:∀n,(Tr.f0.nd n).kind≠2:=λn=>by rw[Tr.Et];decide
 have n1:∀n,(Tr.f0.nd n).kind≠1:=λn=>by rw[Tr.Et];decide
 exact⟨aC _,λ_ _=>aC _,λ_ _ h=>aZ h (n2 _),λ_ _ h=>aZ h (n1 _),λ_ _ _ h=>aZ h (n2 _),λ_ _ h=>aZ h (n2 _),λ_ _ _ h=>aZ h (n2 _),λt ht=>aZ ht (Nat.not_lt_zero t),λ_ _ h=>aZ rfl h,λ_ _ h=>aZ rfl h,λ_ _ h=>aZ h (n2 _),λ_ _ h=>aZ h (n2 _),λ_ _ h=>aZ h (n2 _)⟩
theorem Tr.dn.congr{F G:Fo}(h:∀n,(G.nd n).up=(F.nd n).up):∀{m n:Nat},Tr.dn F m n->Tr.dn G m n
 |0,n,hh=>⟨hh.1,by rw[h n];exact hh.2⟩
 |m+1,n,hh=>⟨hh.1,by
  rw[h n];rcases hh.2 with a|a
  .exact .inl a
  .exact .inr (Tr.dn.congr h a)⟩
theorem Tr.Ok.put{F:Fo}(h:Tr.Ok F)(p:Nat)(x:Nd)(hp:p<40)(e1:x.kind=(F.nd p).kind)(e2:x.cJ=(F.nd p).cJ)(e3:x.tree=(F.nd p).tree)(e4:x.up=(F.nd p).up)(e5:x.kind=2->x.size=(F.nd p).size/\x.dS=(F.nd p).dS/\x.cR=(F.nd p).cR)(e6:x.kind=1->x.size<=40)(e7:x.kind≠0->1<=x.cJ+x.held):Tr.Ok (F.put p x):=by
 have hk:∀n,((F.put p x).nd n).kind=(F.nd n).kind:=λn=>by
  by_cases c:n=p
  .subst c;rw[Tr.bF,e1]
  .rw[Tr.bM _ _ _ _ c]
 have hl:∀n,((F.put p x).nd n).cJ=(F.nd n).cJ:=λn=>by
  by_cases c:n=p
  .subst c;rw[Tr.bF,e2]
  .rw[Tr.bM _ _ _ _ c]
 have ht:∀n,((F.put p x).nd n).tree=(F.nd n).tree:=λn=>by
  by_cases c:n=p
  .subst c;rw[Tr.bF,e3]
  .rw[Tr.bM _ _ _ _ c]
 have hu:∀n,((F.put p x).nd n).up=(F.nd n).up:=λn=>by
  by_cases c:n=p
  .subst c;rw[Tr.bF,e4]
  .rw[Tr.bM _ _ _ _ c]
 have hd:∀n,(F.nd n).kind=2->((F.put p x).nd n).size=(F.nd n).size/\((F.put p x).nd n).dS=(F.nd n).dS/\((F.put p x).nd n).cR=(F.nd n).cR:=λn k2=>by
  by_cases c:n=p
  .subst c;rw[Tr.bF];exact e5 (by rw[e1];exact k2)
  .rw[Tr.bM _ _ _ _ c];exact⟨rfl,rfl,rfl⟩
 have hc:∀n,Tr.cL (F.put p x) n=Tr.cL F n:=λn=>Tr.jb F p x n hp (by
  unfold Tr.gL;by_cases c:x.kind=2
  .grind
  .rw[aI c,aI (by rw[<-e1];exact c)])
 refine⟨h.tr,λn hn=>by rw[hk];exact h.kd n hn,λn hn k2=>?_,λn hn k1=>?_,λn i hn k2 hi=>?_,λn hn k2=>?_,λn i hn k2 hi=>?_,λt htt=>?_,λn hn k0=>?_,λn hn k0=>?_,λn hn k2=>?_,λn hn k2=>?_,λn hn k2 hu2=>?_⟩
 .rw[hk]at k2;rw[(hd n k2).1];exact h.sz n hn k2
 .by_cases c:n=p
  .subst c;rw[Tr.bF]at k1|-;exact e6 k1
  .rw[Tr.bM _ _ _ _ c]at k1|-;exact h.fz n hn k1
 .rw[hk]at k2;rw[(hd n k2).1]at hi;rw[(hd n k2).2.1];exact h.nb n i hn k2 hi
 .rw[hk]at k2;unfold Tr.Nodup;rw[(hd n k2).1,(hd n k2).2.1];exact h.dp n hn k2
 .rw[hk]at k2;rw[(hd n k2).1]at hi;rw[(hd n k2).2.2,hk,ht,ht,hu];exact h.ki n i hn k2 hi
 .show F.root t<40/\_;have:=h.rt t htt;rw[hk,hu,ht];exact this
 .rw[hk]at k0;rw[hl,hc];exact h.lk n hn k0
 .by_cases c:n=p
  .subst c;rw[Tr.bF]at k0|-;exact e7 k0
  .rw[Tr.bM _ _ _ _ c]at k0|-;exact h.al n hn k0
 .rw[hk]at k2;rw[hc];exact h.dr n hn k2
 .rw[hk]at k2;exact(h.en n hn k2).congr hu
 .rw[hk]at k2;rw[hu]at hu2;exact h.ro n hn k2 hu2
theorem Tr.Ok.Dy{F:Fo}(h:Tr.Ok F)(z a:Int)(s:bU):Tr.Ok (Tr.eA F z a s):=by
 unfold Tr.eA;split
 .rename_i c;have c1:Tr.cD F z 1=0:=by
   rcases Classical.em (Tr.cD F z 1=0)with d|d
   .exact d
   .have:=c.1;unfold Tr.dE at this;rw[aJ d]at this;exact this
  obtain⟨n,rfl,n40,_,k1⟩:=Tr.eZ c1;have cw:=c.1;unfold Tr.dE at cw;refine h.put n _ n40 rfl rfl rfl rfl (λk2=>aZ ((show(F.nd n).kind=2 from k2).symm.trans k1) bA) (λ_=>?_) (λk0=>h.al n n40 k0);show max (F.nd n).size (a.toNat+s.size)<=40;have:=h.fz n n40 k1;grind
 .exact h
theorem Tr.OB{F:Fo}(ki:∀n i,n<40->(F.nd n).kind=2->i<(F.nd n).size->(F.nd n).cR i<40/\(F.nd ((F.nd n).cR i)).kind≠0/\(F.nd ((F.nd n).cR i)).tree=(F.nd n).tree/\((F.nd ((F.nd n).cR i)).kind=2->(F.nd ((F.nd n).cR i)).up=n)){m:Nat}(k2:(F.nd m).kind=2)(hc:1<=Tr.cL F m):
 (∃t,t<F.trees/\F.root t=m)\/∃i,(F.nd m).up<40/\(F.nd (F.nd m).up).kind=2/\i<(F.nd (F.nd m).up).size/\(F.nd (F.nd m).up).cR i=m:=by grind [Tr.oO,wK,ft,Tr.cL,Tr.gL]
theorem Tr.dn.on{F G:Fo}(P:Nat->Prop)(h:∀n,P n->(G.nd n).up=(F.nd n).up/\P (F.nd n).up):∀{m n:Nat},P n->Tr.dn F m n->Tr.dn G m n
 |0,n,hp,hh=>⟨hh.1,by rw[(h n hp).1];exact hh.2⟩
 |m+1,n,hp,hh=>⟨hh.1,by
  rw[(h n hp).1];rcases hh.2 with a|a
  .exact .inl a
  .exact .inr (Tr.dn.on P h (h n hp).2 a)⟩
structure Tr.Io (F:Fo)(k:Nat):Prop where
 tr:F.trees<=4
 kd:∀n,n<40->(F.nd n).kind<=2
 sz:Tr.j5 F
 fz:Tr.tg F
 nb:∀n i,n<40->(F.nd n).kind=2->i<(F.nd n).size->Tr.fM ((F.nd n).dS i)=true
 dp:∀n,n<40->(F.nd n).kind=2->Tr.Nodup (F.nd n)
 ki:∀n i,n<40->(F.nd n).kind=2->i<(F.nd n).size->(F.nd n).cR i<40/\(F.nd ((F.nd n).cR i)).kind≠0/\(F.nd ((F.nd n).cR i)).tree=(F.nd n).tree/\((F.nd ((F.nd n).cR i)).kind=2->(F.nd ((F.nd n).cR i)).up=n)
 rt:∀t,t<F.trees->F.root t<40/\(F.nd (F.root t)).kind=2/\(F.nd (F.root t)).up=F.root t/\(F.nd (F.root t)).tree=t
 lk:∀n,n<40->(F.nd n).kind≠0->(F.nd n).cJ=Tr.cL F n+ft k n
 al:∀n,n<40->(F.nd n).kind≠0->1<=(F.nd n).cJ+(F.nd n).held
 dr:∀n,n<40->(F.nd n).kind=2->Tr.cL F n+ft k n=1
 en:∀n,n<40->(F.nd n).kind=2->n≠k->Tr.dn F 40 n
 ro:∀n,n<40->(F.nd n).kind=2->n≠k->(F.nd n).up=n->∃t,t<F.trees/\F.root t=n
theorem Tr.Mk{F:Fo}{n k:Nat}{s:bU}(nk:n≠k):Tr.km F n s k=(F.put n (Tr.iF (F.nd n) s k)).put k (if(F.nd k).kind=2 then{F.nd k with up:=n}else F.nd k):=by
 have e:(F.put n (Tr.iF (F.nd n) s k)).nd k=F.nd k:=Tr.bM _ _ _ _ (bQ nk);unfold Tr.km;rw[e];split
 .rfl
 .rw[show(F.put n (Tr.iF (F.nd n) s k)).put k (F.nd k)=(F.put n (Tr.iF (F.nd n) s k)).put k ((F.put n (Tr.iF (F.nd n) s k)).nd k)by rw[e],Tr.CE]
theorem Tr.dn.AN{F G:Fo}{k:Nat}(h:∀x,x≠k->(G.nd x).up=(F.nd x).up):∀{m x:Nat},Tr.dn F m x->Tr.gE F k m x=false->Tr.dn G m x
 |0,x,hh,hb=>by
  have c:x≠k:=λe=>by subst e;rw[Tr.qy]at hb;exact aZ hb bA
  exact⟨hh.1,by rw[h x c];exact hh.2⟩
 |m+1,x,hh,hb=>by
  have c:x≠k:=λe=>by subst e;rw[Tr.qy]at hb;exact aZ hb bA
  refine⟨hh.1,?_⟩;rw[h x c];by_cases d:(F.nd x).up=x
  .exact .inl d
  .rcases hh.2 with a|a
   .exact aZ a d
   .refine .inr (Tr.dn.AN h a ?_);have hb':(x==k||(!((F.nd x).up==x)&&Tr.gE F k m (F.nd x).up))=false:=hb;grind
theorem Tr.dn.jU{F G:Fo}{k t j:Nat}(h:∀x,x≠k->(G.nd x).up=(F.nd x).up)(hk:k<40)(hg:(G.nd k).up=t)(ht:Tr.dn G j t):∀{m x:Nat},Tr.dn F m x->∃m',Tr.dn G m' x
 |0,x,hh=>by
  by_cases c:x=k
  .subst c;exact⟨j+1,hk, .inr (by rw[hg];exact ht)⟩
  .exact⟨0,hh.1,by rw[h x c];exact hh.2⟩
 |m+1,x,hh=>by
  by_cases c:x=k
  .subst c;exact⟨j+1,hk, .inr (by rw[hg];exact ht)⟩
  .rcases hh.2 with a|a
   .exact⟨0,hh.1,by rw[h x c];exact a⟩
   .obtain⟨m',h'⟩:=Tr.dn.jU h hk hg ht a;exact⟨m'+1,hh.1, .inr (by rw[h x c];exact h')⟩
theorem Tr.Io.lead{F:Fo}{n k:Nat}{s:bU}(h:Tr.Io F k)(hn:n<40)(hk:k<40)(nk:n≠k)(n2:(F.nd n).kind=2)(k0:(F.nd k).kind≠0)(h8:(F.nd n).size<8)(hs:Tr.fM s=true)(hp:Tr.fp (F.nd n) s (-1))(ht:(F.nd k).tree=(F.nd n).tree)(hb:(F.nd k).kind=2->Tr.gE F k 40 n=false):Tr.Ok (Tr.km F n s k):=by
 obtain⟨G,hG⟩:=hU (Tr.km F n s k);rw[hG];rw[Tr.Mk nk]at hG;have gn:G.nd n=Tr.iF (F.nd n) s k:=by rw[<-hG,Tr.bM _ _ _ _ nk,Tr.bF]
 have gk:G.nd k=if(F.nd k).kind=2 then{F.nd k with up:=n}else F.nd k:=by rw[<-hG,Tr.bF]
 have go:∀x,x≠n->x≠k->G.nd x=F.nd x:=λx c1 c2=>by rw[<-hG,Tr.bM _ _ _ _ c2,Tr.bM _ _ _ _ c1]
 have gtr:G.trees=F.trees:=by rw[<-hG];rfl
 have grt:∀t,G.root t=F.root t:=λt=>by rw[<-hG];rfl
 have all:∀x,(G.nd x).kind=(F.nd x).kind/\(G.nd x).cJ=(F.nd x).cJ/\(G.nd x).held=(F.nd x).held/\(G.nd x).tree=(F.nd x).tree:=λx=>by
  by_cases c1:x=n
  .subst c1;rw[gn];exact⟨rfl,rfl,rfl,rfl⟩
  .by_cases c2:x=k
   .subst c2;rw[gk];split<;>exact⟨rfl,rfl,rfl,rfl⟩
   .rw[go x c1 c2];exact⟨rfl,rfl,rfl,rfl⟩
 have qB:∀x,x≠n->(G.nd x).size=(F.nd x).size/\(G.nd x).dS=(F.nd x).dS/\(G.nd x).cR=(F.nd x).cR:=λx c1=>by
  by_cases c2:x=k
  .subst c2;rw[gk];split<;>exact⟨rfl,rfl,rfl⟩
  .rw[go x c1 c2];exact⟨rfl,rfl,rfl⟩
 have hup:∀x,x≠k->(G.nd x).up=(F.nd x).up:=λx c2=>by
  by_cases c1:x=n
  .subst c1;rw[gn];rfl
  .rw[go x c1 c2]
 have hupk:(F.nd k).kind=2->(G.nd k).up=n:=λk2=>by rw[gk,aJ k2]
 have cL:∀x,Tr.cL G x=Tr.cL F x+ft k x:=λx=>by
  have a:=Tr.yV F n (Tr.iF (F.nd n) s k) x hn;rw[Tr.O3 s k x n2]at a;have b:=Tr.jb (F.put n (Tr.iF (F.nd n) s k)) k (if(F.nd k).kind=2 then{F.nd k with up:=n}else F.nd k) x hk (by
   rw[Tr.bM _ _ _ _ (bQ nk)];split<;>rfl)
  rw[hG]at b;omega
 have upk:∀q i,q<40->(F.nd q).kind=2->i<(F.nd q).size->(F.nd q).cR i=k->(F.nd k).kind≠2:=λq i hq q2 hi e k2=>by
  have a:=Tr.yU hq q2 hi;have b:=h.dr k hk k2;rw[e]at a;rw[ik]at b;omega
 have rtk:∀t,t<F.trees->F.root t≠k:=λt htt e=>by
  have k2:=(h.rt t htt).2.1;rw[e]at k2;have b:=h.dr k hk k2;rw[ik]at b;exact(Tr.tH (show Tr.cL F k=0 by omega)).2 t htt e
 refine⟨by rw[gtr];exact h.tr,λx hx=>by rw[(all x).1];exact h.kd x hx,λx hx k2=>?_,λx hx k1=>?_,λx i hx k2 hi=>?_,λx hx k2=>?_,λx i hx k2 hi=>?_,λt htt=>?_,λx hx kx=>?_,λx hx kx=>?_,λx hx k2=>?_,λx hx k2=>?_,λx hx k2 hu2=>?_⟩
 .rw[(all x).1]at k2;by_cases c:x=n
  .subst c;rw[gn,Tr.pD];omega
  .rw[(qB x c).1];exact h.sz x hx k2
 .rw[(all x).1]at k1;by_cases c:x=n
  .subst c;rw[n2]at k1;exact aZ k1 bA
  .rw[(qB x c).1];exact h.fz x hx k1
 .rw[(all x).1]at k2;by_cases c:x=n
  .subst c;rw[gn,Tr.pD]at hi;rw[gn];by_cases d:i=(F.nd x).size
   .subst d;rw[(Tr.rX _ _ _).1];exact hs
   .rw[(Tr.uX bu).1];exact h.nb x i hx k2 bu
  .rw[(qB x c).1]at hi;rw[(qB x c).2.1];exact h.nb x i hx k2 hi
 .rw[(all x).1]at k2;by_cases c:x=n
  .subst c;rw[gn];exact(h.dp x hx k2).iF hp
  .unfold Tr.Nodup;rw[(qB x c).1,(qB x c).2.1];exact h.dp x hx k2
 .rw[(all x).1]at k2;have old:∀q,(F.nd q).kind=2->q<40->∀i,i<(F.nd q).size->(F.nd q).cR i<40/\(G.nd ((F.nd q).cR i)).kind≠0/\(G.nd ((F.nd q).cR i)).tree=(G.nd q).tree/\((G.nd ((F.nd q).cR i)).kind=2->(G.nd ((F.nd q).cR i)).up=q):=λq q2 hq i hi=>by
   obtain⟨a1,a2,a3,a4⟩:=h.ki q i hq q2 hi;grind
  by_cases c:x=n
  .subst c;have gnk:∀i,(G.nd x).cR i=(Tr.iF (F.nd x) s k).cR i:=λi=>by rw[gn]
   have hi':i<(F.nd x).size+1:=by rw[gn,Tr.pD]at hi;exact hi
   rw[gnk];by_cases d:i=(F.nd x).size
   .subst d;rw[(Tr.rX _ _ _).2,(all k).1,(all k).2.2.2,(all x).2.2.2];exact⟨hk,k0,ht,hupk⟩
   .rw[(Tr.uX bu).2];exact old x k2 hx i bu
  .rw[(qB x c).1]at hi;rw[(qB x c).2.2];exact old x k2 hx i hi
 .rw[gtr]at htt;rw[grt,(all _).1,(all _).2.2.2,hup _ (rtk t htt)];exact h.rt t htt
 .rw[(all x).1]at kx;rw[(all x).2.1,cL];exact h.lk x hx kx
 .rw[(all x).1]at kx;rw[(all x).2.1,(all x).2.2.1];exact h.al x hx kx
 .rw[(all x).1]at k2;rw[cL];exact h.dr x hx k2
 .rw[(all x).1]at k2;by_cases kk:(F.nd k).kind=2
  .have hnE:=(h.en n hn n2 nk).AN hup (hb kk);by_cases c:x=k
   .subst c;exact Tr.dn.Gq (m:=41) ⟨hk, .inr (by rw[hupk kk];exact hnE)⟩
   .obtain⟨m',h'⟩:=Tr.dn.jU hup hk (hupk kk) hnE (h.en x hx k2 c);exact h'.Gq
  .have c:x≠k:=λe=>by rw[e]at k2;exact kk k2
   refine(h.en x hx k2 c).congr (λy=>?_);by_cases d:y=k
   .subst d;rw[gk,aI kk]
   .exact hup y d
 .rw[(all x).1]at k2;have c:x≠k:=λe=>by subst e;rw[hupk k2]at hu2;exact nk hu2
  rw[hup x c]at hu2;obtain⟨t,h1,h2⟩:=h.ro x hx k2 c hu2;exact⟨t,by rw[gtr];exact h1,by rw[grt];exact h2⟩
theorem Tr.Ok.forget{F:Fo}(h:Tr.Ok F){n i:Nat}(hn:n<40)(n2:(F.nd n).kind=2)(hi:i<(F.nd n).size):Tr.Io (F.put n (Tr.eE (F.nd n) i)) ((F.nd n).cR i):=by
 obtain⟨G,hG⟩:=hU (F.put n (Tr.eE (F.nd n) i));obtain⟨k,hk⟩:=hU ((F.nd n).cR i);rw[hG,hk];have gn:G.nd n=Tr.eE (F.nd n) i:=by rw[<-hG,Tr.bF]
 have go:∀x,x≠n->G.nd x=F.nd x:=λx c=>by rw[<-hG,Tr.bM _ _ _ _ c]
 have all:∀x,(G.nd x).kind=(F.nd x).kind/\(G.nd x).cJ=(F.nd x).cJ/\(G.nd x).held=(F.nd x).held/\(G.nd x).tree=(F.nd x).tree/\(G.nd x).up=(F.nd x).up:=λx=>by
  by_cases c:x=n
  .subst c;rw[gn];exact⟨rfl,rfl,rfl,rfl,rfl⟩
  .rw[go x c];exact⟨rfl,rfl,rfl,rfl,rfl⟩
 have cL:∀x,Tr.cL G x+ft k x=Tr.cL F x:=λx=>by
  have a:=Tr.yV F n (Tr.eE (F.nd n) i) x hn;have b:=Tr.Lm (x:=F.nd n) (i:=i) x n2 hi;rw[hG]at a;rw[hk]at b;omega
 have was:∀x j,(F.nd x).kind=2->j<(G.nd x).size->∃q,q<(F.nd x).size/\(G.nd x).dS j=(F.nd x).dS q/\(G.nd x).cR j=(F.nd x).cR q:=λx j _ hj=>by
  by_cases c:x=n
  .subst c;rw[gn]at hj|-;rw[Tr.qD]at hj;obtain⟨q,h1,_,h3,h4⟩:=Tr.Ly hi hj;exact⟨q,h1,h3,h4⟩
  .rw[go x c]at hj|-;exact⟨j,hj,rfl,rfl⟩
 have gtr:G.trees=F.trees:=by rw[<-hG];rfl
 have grt:∀t,G.root t=F.root t:=λt=>by rw[<-hG];rfl
 refine⟨by rw[gtr];exact h.tr,λx hx=>by rw[(all x).1];exact h.kd x hx,λx hx k2=>?_,λx hx k1=>?_,λx j hx k2 hj=>?_,λx hx k2=>?_,λx j hx k2 hj=>?_,λt htt=>?_,λx hx kx=>?_,λx hx kx=>?_,λx hx k2=>?_,λx hx k2 _=>?_,λx hx k2 _ hu2=>?_⟩
 .rw[(all x).1]at k2;by_cases c:x=n
  .subst c;rw[gn,Tr.qD];have:=h.sz x hx k2;omega
  .rw[go x c];exact h.sz x hx k2
 .rw[(all x).1]at k1;by_cases c:x=n
  .subst c;rw[n2]at k1;exact aZ k1 bA
  .rw[go x c];exact h.fz x hx k1
 .rw[(all x).1]at k2;obtain⟨q,h1,h2,_⟩:=was x j k2 hj;rw[h2];exact h.nb x q hx k2 h1
 .rw[(all x).1]at k2;by_cases c:x=n
  .subst c;rw[gn];exact(h.dp x hx k2).eE hi
  .rw[go x c];exact h.dp x hx k2
 .rw[(all x).1]at k2;obtain⟨q,h1,_,h3⟩:=was x j k2 hj;rw[h3,(all _).1,(all _).2.2.2.1,(all x).2.2.2.1,(all _).2.2.2.2];exact h.ki x q hx k2 h1
 .rw[gtr]at htt;rw[grt,(all _).1,(all _).2.2.2.1,(all _).2.2.2.2];exact h.rt t htt
 .rw[(all x).1]at kx;rw[(all x).2.1,cL];exact h.lk x hx kx
 .rw[(all x).1]at kx;rw[(all x).2.1,(all x).2.2.1];exact h.al x hx kx
 .rw[(all x).1]at k2;rw[cL];exact h.dr x hx k2
 .rw[(all x).1]at k2;exact(h.en x hx k2).congr (λy=>(all y).2.2.2.2)
 .rw[(all x).1]at k2;rw[(all x).2.2.2.2]at hu2;obtain⟨t,h1,h2⟩:=h.ro x hx k2 hu2;grind
theorem Tr.xy{F G:Fo}{o:Nat}(h:∀x,(G.nd x).up=(F.nd x).up):∀m x,Tr.gE G o m x=Tr.gE F o m x
 |0,_=>rfl
 |m+1,x=>by
  show(x==o||(!((G.nd x).up==x)&&Tr.gE G o m (G.nd x).up))=(x==o||(!((F.nd x).up==x)&&Tr.gE F o m (F.nd x).up));rw[h x,Tr.xy h m]
theorem Tr.Ok.Rw{F:Fo}(h:Tr.Ok F){z y E:Int}{s o:bU}{G:Fo}(hm:Tr.FH F z s y o E G):Tr.Ok G:=by
 obtain⟨K,e,hf,⟨_,_,rfl⟩|⟨rfl,hm⟩⟩:=hm
 .exact h
 rcases hm with⟨_,_,rfl⟩|⟨ey,hm⟩
 .exact h
 rcases hm with⟨_,_,rfl⟩|⟨et,hm⟩
 .exact h
 rcases hm with⟨_,_,rfl⟩|⟨hb,i,hpl,e2,hr,hm⟩
 .exact h
 rcases hm with⟨_,_,rfl⟩|⟨rfl,_,rfl⟩
 .exact h
 obtain⟨n,i',rfl,n40,n2,hp,hK⟩:=hf.ok;obtain⟨t,rfl,t40,_,t2⟩:=Tr.eZ ey;rw[hZ]at hb hpl hr et|-;rw[hZ]at hr et|-;have ii:i=i':=by have:=hpl.unique hp;omega
 subst ii;have hi:=hp.lt;have hx:=h.forget n40 n2 hi;rw[<-hK]at hx;obtain⟨k40,kk0,ktr,_⟩:=h.ki n i n40 n2 hi;rw[<-hK]at k40 kk0 ktr;have al:∀x,((F.put n (Tr.eE (F.nd n) i)).nd x).kind=(F.nd x).kind/\((F.put n (Tr.eE (F.nd n) i)).nd x).tree=(F.nd x).tree/\((F.put n (Tr.eE (F.nd n) i)).nd x).up=(F.nd x).up:=λx=>by
  by_cases c:x=n
  .subst c;rw[Tr.bF];exact⟨rfl,rfl,rfl⟩
  .rw[Tr.bM _ _ _ _ c];exact⟨rfl,rfl,rfl⟩
 have tk:t≠K:=λc=>by subst c;rw[Tr.qy]at hb;exact aZ hb bA
 obtain⟨hnm,h8⟩:=hr.ok;refine hx.lead t40 k40 tk (by rw[(al t).1];exact t2) (by rw[(al K).1];exact kk0) ?_ hnm ?_ (by rw[(al K).2.1,(al t).2.1,ktr,et]) (λ_=>by rw[Tr.xy (λx=>(al x).2.2)];exact hb)
 .have:=hx.sz t t40 (by rw[(al t).1];exact t2);omega
 .rcases hr with⟨_,q⟩|⟨_,⟨_,_,q⟩|⟨q,_⟩⟩
  .exact aZ q bA
  .omega
  .exact q
theorem Tr.Ok.Rl{F:Fo}(h:Tr.Ok F){y z E:Int}{s:bU}{G:Fo}(hm:Tr.AF F y z s E G):Tr.Ok G:=by
 rcases hm with⟨_,_,rfl⟩|⟨ey,e,hw,hm⟩
 .exact h
 rcases hm with⟨_,_,rfl⟩|⟨rfl,hm⟩
 .exact h
 rcases hm with⟨_,_,rfl⟩|⟨et,_,rfl⟩
 .exact h
 obtain⟨k,rfl,k40,_,k1⟩:=Tr.eZ ey;obtain⟨n,rfl,n40,n2,hnm,hp,h8⟩:=hw.ok;rw[hZ,hZ]at et|-;unfold Tr.zc;obtain⟨F',hF'⟩:∃F',F.put k {F.nd k with cJ:=(F.nd k).cJ+1}=F':=⟨_,rfl⟩;rw[hF'];have nk:n≠k:=λe=>by rw[e,k1]at n2;exact aZ n2 bA
 have gk:F'.nd k={F.nd k with cJ:=(F.nd k).cJ+1}:=by rw[<-hF',Tr.bF]
 have go:∀x,x≠k->F'.nd x=F.nd x:=λx c=>by rw[<-hF',Tr.bM _ _ _ _ c]
 have al:∀x,(F'.nd x).kind=(F.nd x).kind/\(F'.nd x).size=(F.nd x).size/\(F'.nd x).dS=(F.nd x).dS/\(F'.nd x).cR=(F.nd x).cR/\(F'.nd x).tree=(F.nd x).tree/\(F'.nd x).up=(F.nd x).up/\(F'.nd x).held=(F.nd x).held:=λx=>by
  grind
 have hl:∀x,(F'.nd x).cJ=(F.nd x).cJ+ft k x:=λx=>by
  by_cases c:x=k
  .subst c;rw[gk,ik]
  .rw[go x c,lf (bQ c)];rfl
 have cL:∀x,Tr.cL F' x=Tr.cL F x:=λx=>by
  rw[<-hF'];exact Tr.jb F k _ x k40 rfl
 have hx:Tr.Io F' k:=by
  refine⟨by rw[<-hF'];exact h.tr,λx hx=>by rw[(al x).1];exact h.kd x hx,λx hx k2=>?_,λx hx k1=>?_,λx j hx k2 hj=>?_,λx hx k2=>?_,λx j hx k2 hj=>?_,λt htt=>?_,λx hx kx=>?_,λx hx kx=>?_,λx hx k2=>?_,λx hx k2 _=>?_,λx hx k2 _ hu2=>?_⟩
  .rw[(al x).1]at k2;rw[(al x).2.1];exact h.sz x hx k2
  .rw[(al x).1]at k1;rw[(al x).2.1];exact h.fz x hx k1
  .rw[(al x).1]at k2;rw[(al x).2.1]at hj;rw[(al x).2.2.1];exact h.nb x j hx k2 hj
  .rw[(al x).1]at k2;unfold Tr.Nodup;rw[(al x).2.1,(al x).2.2.1];exact h.dp x hx k2
  .rw[(al x).1]at k2;rw[(al x).2.1]at hj;rw[(al x).2.2.2.1,(al _).1,(al _).2.2.2.2.1,(al x).2.2.2.2.1,(al _).2.2.2.2.2.1];exact h.ki x j hx k2 hj
  .have a:=h.rt t (by rw[<-hF']at htt;exact htt);have e:F'.root t=F.root t:=by rw[<-hF'];rfl
   rw[e,(al _).1,(al _).2.2.2.2.1,(al _).2.2.2.2.2.1];exact a
  .rw[(al x).1]at kx;rw[hl,cL,h.lk x hx kx]
  .rw[(al x).1]at kx;rw[hl,(al x).2.2.2.2.2.2];have:=h.al x hx kx;omega
  .rw[(al x).1]at k2;rw[cL,lf (λe=>by rw[<-e,k1]at k2;exact aZ k2 bA),Nat.add_zero];exact h.dr x hx k2
  .rw[(al x).1]at k2;exact(h.en x hx k2).congr (λy=>(al y).2.2.2.2.2.1)
  .rw[(al x).1]at k2;rw[(al x).2.2.2.2.2.1]at hu2;obtain⟨t,h1,h2⟩:=h.ro x hx k2 hu2;exact⟨t,by rw[<-hF'];exact h1,by rw[<-hF'];exact h2⟩
 have n8:=h.sz n n40 n2;refine hx.lead n40 k40 nk (by rw[(al n).1];exact n2) (by rw[(al k).1,k1];decide) (by rw[(al n).2.1];omega) hnm (by rw[go n nk];exact hp) (by rw[(al k).2.2.2.2.1,(al n).2.2.2.2.1];exact et) (λk2=>by rw[(al k).1,k1]at k2;exact aZ k2 bA)
theorem Tr.Ok.Eu{F G:Fo}(h:Tr.Ok F){k:Nat}(k0:(F.nd k).kind=0)(hu:∀x,x≠k->(G.nd x).up=(F.nd x).up):∀m x,x<40->(F.nd x).kind=2->Tr.gE G k m x=false
 |0,x,_,k2=>by
  show(x==k)=false;grind
 |m+1,x,hx,k2=>by
  have c:x≠k:=λe=>by rw[e,k0]at k2;exact aZ k2 bA
  show(x==k||(!((G.nd x).up==x)&&Tr.gE G k m (G.nd x).up))=false;rw[show(x==k)=false from by simpa using c,hu x c];by_cases d:(F.nd x).up=x
  .rw[d];simp
  .rcases Tr.OB h.ki k2 (by rw[h.dr x hx k2];exact aL _)with⟨t,ht,e⟩|⟨i,h1,h2,_,_⟩
   .have:=(h.rt t ht).2.2.1;rw[e]at this;exact aZ this d
   .rw[Tr.Ok.Eu h k0 hu m _ h1 h2];simp
theorem Tr.Ok.Rq{F:Fo}(h:Tr.Ok F){z kz E:Int}{s:bU}{K:Nat}{G:Fo}(hm:Tr.rW F z s kz K E G):Tr.Ok G:=by
 rcases hm with⟨_,_,_,_,rfl⟩|⟨hkz,e,hw,hm⟩
 .exact h
 rcases hm with⟨_,_,_,rfl⟩|⟨rfl,k,e2,hf,hm⟩
 .exact h
 rcases hm with⟨_,_,_,rfl⟩|⟨rfl,_,_,rfl⟩
 .exact h
 obtain⟨n,rfl,n40,n2,hnm,hp,h8⟩:=hw.ok;obtain⟨kd,hkd,hkd2⟩:∃kd:Nat,kz.toNat=kd/\(kd=1\/kd=2):=⟨kz.toNat,rfl,bu⟩;rw[hZ,hkd];obtain⟨k40,k0⟩:k<40/\(F.nd k).kind=0:=by
  rcases hf with⟨_,h1,h2,_⟩|⟨h1,_⟩
  .exact⟨h1,h2⟩
  .omega
 unfold Tr.jz;obtain⟨F',hF'⟩:∃F',F.put k (eR kd (F.nd n).tree 0)=F':=⟨_,rfl⟩;rw[hF'];have nk:n≠k:=λe=>by rw[e,k0]at n2;exact aZ n2 bA
 have gk:F'.nd k=eR kd (F.nd n).tree 0:=by rw[<-hF',Tr.bF]
 have go:∀x,x≠k->F'.nd x=F.nd x:=λx c=>by rw[<-hF',Tr.bM _ _ _ _ c]
 have cL:∀x,Tr.cL F' x=Tr.cL F x:=λx=>by
  rw[<-hF'];refine Tr.jb F k _ x k40 ?_;rw[Tr.yT (x:=F.nd k) x (by rw[k0];decide)];unfold Tr.gL;split<;>rfl
 have hc0:=h.none k0;have kne:∀x i,x<40->(F.nd x).kind=2->i<(F.nd x).size->(F.nd x).cR i≠k:=(λx i hx k2 hi=>(Tr.tH hc0).1 x i hx k2 hi);have rne:∀t,t<F.trees->F.root t≠k:=(Tr.tH hc0).2;have sz0:(F'.nd k).size=0:=by rw[gk];rfl
 have hx:Tr.Io F' k:=by
  refine⟨by rw[<-hF'];exact h.tr,λx hx=>?_,λx hx k2=>?_,λx hx k1=>?_,λx j hx k2 hj=>?_,λx hx k2=>?_,λx j hx k2 hj=>?_,λt htt=>?_,λx hx kx=>?_,λx hx kx=>?_,λx hx k2=>?_,λx hx k2 c=>?_,λx hx k2 c hu2=>?_⟩
  .by_cases c:x=k
   .subst c;rw[gk];show kd<=2;omega
   .rw[go x c];exact h.kd x hx
  .by_cases c:x=k
   .grind
   .rw[go x c]at k2|-;exact h.sz x hx k2
  .by_cases c:x=k
   .subst c;rw[sz0];exact aC _
   .rw[go x c]at k1|-;exact h.fz x hx k1
  .by_cases c:x=k
   .subst c;rw[sz0]at hj;omega
   .rw[go x c]at k2 hj|-;exact h.nb x j hx k2 hj
  .by_cases c:x=k
   .subst c;intro a b _ hb;rw[sz0]at hb;omega
   .rw[go x c]at k2|-;exact h.dp x hx k2
  .by_cases c:x=k
   .subst c;rw[sz0]at hj;omega
   .rw[go x c]at k2 hj|-;rw[go _ (kne x j hx k2 hj)];exact h.ki x j hx k2 hj
  .have htt':t<F.trees:=by rw[<-hF']at htt;exact htt
   have e:F'.root t=F.root t:=by rw[<-hF'];rfl
   rw[e,go _ (rne t htt')];exact h.rt t htt'
  .by_cases c:x=k
   .subst c;rw[gk,cL,hc0,ik];rfl
   .rw[go x c]at kx|-;rw[cL,lf (bQ c)];exact h.lk x hx kx
  .by_cases c:x=k
   .subst c;rw[gk];show 1<=1+0;omega
   .rw[go x c]at kx|-;exact h.al x hx kx
  .by_cases c:x=k
   .subst c;rw[cL,hc0,ik]
   .rw[go x c]at k2;rw[cL,lf (bQ c)];exact h.dr x hx k2
  .rw[go x c]at k2;exact(h.en x hx k2).AN (k:=k) (λy d=>by rw[go y d]) (h.Eu k0 (λ_ _=>rfl) 40 x hx k2)
  .rw[go x c]at k2 hu2;obtain⟨t,h1,h2⟩:=h.ro x hx k2 hu2;exact⟨t,by rw[<-hF'];exact h1,by rw[<-hF'];exact h2⟩
 have n8:=h.sz n n40 n2;refine hx.lead n40 k40 nk (by rw[go n nk];exact n2) (by rw[gk];show kd≠0;omega) (by rw[go n nk];omega) hnm (by rw[go n nk];exact hp) (by rw[gk,go n nk];rfl) (λ_=>h.Eu k0 (λy d=>by rw[go y d]) 40 n n40 n2)
theorem Tr.Ok.dB{F:Fo}(h:Tr.Ok F)(z:Int):Tr.Ok (Tr.dB F z):=by
 unfold Tr.dB;split
 .rename_i c;obtain⟨n,rfl,n40,_⟩:=Tr.gO c;exact h.put n _ n40 rfl rfl rfl rfl (λ_=>⟨rfl,rfl,rfl⟩) (λk1=>h.fz n n40 k1) (λk0=>by show 1<=(F.nd n).cJ+((F.nd n).held+1);omega)
 .exact h
theorem Tr.erase{F:Fo}{k:Nat}(hk:k<40)(tr:F.trees<=4)(kd:∀n,n<40->(F.nd n).kind<=2)(sz:Tr.j5 F)(fz:Tr.tg F)
  (nb:∀n i,n<40->(F.nd n).kind=2->i<(F.nd n).size->Tr.fM ((F.nd n).dS i)=true)
  (dp:∀n,n<40->(F.nd n).kind=2->Tr.Nodup (F.nd n))
  (ki:∀n i,n<40->(F.nd n).kind=2->i<(F.nd n).size->(F.nd n).cR i<40/\(F.nd ((F.nd n).cR i)).kind≠0/\(F.nd ((F.nd n).cR i)).tree=(F.nd n).tree/\((F.nd ((F.nd n).cR i)).kind=2->(F.nd ((F.nd n).cR i)).up=n))
  (rt:∀t,t<F.trees->F.root t<40/\(F.nd (F.root t)).kind=2/\(F.nd (F.root t)).up=F.root t/\(F.nd (F.root t)).tree=t)
  (lk:∀n,n<40->(F.nd n).kind≠0->n≠k->(F.nd n).cJ=Tr.cL F n)
  (al:∀n,n<40->(F.nd n).kind≠0->n≠k->1<=(F.nd n).cJ+(F.nd n).held)
  (dr:∀n,n<40->(F.nd n).kind=2->n≠k->Tr.cL F n=1)
  (en:∀n,n<40->(F.nd n).kind=2->n≠k->Tr.dn F 40 n)
  (ro:∀n,n<40->(F.nd n).kind=2->n≠k->(F.nd n).up=n->∃t,t<F.trees/\F.root t=n)
  (c0:Tr.cL F k=0) (z0:(F.nd k).kind=2->(F.nd k).size=0):Tr.Ok (F.put k Nd.no):=by
 obtain⟨G,hG⟩:=hU (F.put k Nd.no);rw[hG];have gk:G.nd k=Nd.no:=by rw[<-hG,Tr.bF]
 have gk0:(G.nd k).kind=0:=by rw[gk];rfl
 have go:∀x,x≠k->G.nd x=F.nd x:=λx c=>by rw[<-hG,Tr.bM _ _ _ _ c]
 have cL:∀x,Tr.cL G x=Tr.cL F x:=λx=>by
  rw[<-hG];refine Tr.jb F k _ x hk ?_;rw[Tr.yT (x:=Nd.no) x bA];unfold Tr.gL;split
  .rename_i c;rw[z0 c];rfl
  .rfl
 obtain⟨kne,rne⟩:=Tr.tH c0;have n2:∀{x},(G.nd x).kind=2->x≠k:=λ{x} k2 c=>by subst c;rw[gk0]at k2;exact aZ k2 bA
 have n0:∀{x},(G.nd x).kind≠0->x≠k:=λ{x} kx c=>by subst c;exact kx gk0
 refine⟨by rw[<-hG];exact tr,λx hx=>?_,λx hx k2=>?_,λx hx k1=>?_,λx j hx k2 hj=>?_,λx hx k2=>?_,λx j hx k2 hj=>?_,λt htt=>?_,λx hx kx=>?_,λx hx kx=>?_,λx hx k2=>?_,λx hx k2=>?_,λx hx k2 hu2=>?_⟩
 .by_cases c:x=k
  .subst c;rw[gk0];exact aC _
  .rw[go x c];exact kd x hx
 .have c:=n2 k2;rw[go x c]at k2|-;exact sz x hx k2
 .have c:x≠k:=λe=>by subst e;rw[gk0]at k1;exact aZ k1 bA
  rw[go x c]at k1|-;exact fz x hx k1
 .have c:=n2 k2;rw[go x c]at k2 hj|-;exact nb x j hx k2 hj
 .have c:=n2 k2;rw[go x c]at k2|-;exact dp x hx k2
 .grind
 .have htt':t<F.trees:=by rw[<-hG]at htt;exact htt
  have e:G.root t=F.root t:=by rw[<-hG];rfl
  rw[e,go _ (rne t htt')];exact rt t htt'
 .have c:=n0 kx;rw[go x c]at kx|-;rw[cL];exact lk x hx kx c
 .have c:=n0 kx;rw[go x c]at kx|-;exact al x hx kx c
 .have c:=n2 k2;rw[go x c]at k2;rw[cL];exact dr x hx k2 c
 .have c:=n2 k2;rw[go x c]at k2;refine Tr.dn.on (F:=F) (G:=G) (λy=>y<40/\(F.nd y).kind=2/\y≠k) (λy hy=>?_) ⟨hx,k2,c⟩ (en x hx k2 c);refine⟨by rw[go y hy.2.2],?_⟩;rcases Tr.OB ki hy.2.1 (by rw[dr y hy.1 hy.2.1 hy.2.2];exact aL _)with⟨t,ht,e⟩|⟨i,h1,h2,h3,_⟩
  .have:=(rt t ht).2.2.1;rw[e]at this;rw[this];exact hy
  .refine⟨h1,h2,λe=>?_⟩;rw[e]at h2 h3;rw[z0 h2]at h3;omega
 .have c:=n2 k2;rw[go x c]at k2 hu2;obtain⟨t,h1,h2⟩:=ro x hx k2 c hu2;exact⟨t,by rw[<-hG];exact h1,by rw[<-hG];exact h2⟩
theorem Tr.Ok.dq{F:Fo}(h:Tr.Ok F)(z:Int):Tr.Ok (Tr.dq F z):=by
 unfold Tr.dq;split
 .rename_i c;have c1:Tr.cA F z=0:=by
   rcases Classical.em (Tr.cA F z=0)with d|d
   .exact d
   .unfold Tr.letE at c;rw[aI d]at c;exact c
  obtain⟨n,rfl,n40,k0⟩:=Tr.gO c1;unfold Tr.letE at c;rw[aJ c1,hZ]at c;unfold Tr.lB;rw[Tr.bF];split
  .rename_i d;have d1:(F.nd n).cJ=0:=d.1;rw[Tr.gA];have c0:Tr.cL F n=0:=by rw[<-h.lk n n40 k0];exact d1
   refine Tr.erase n40 h.tr h.kd h.sz h.fz h.nb h.dp h.ki h.rt (λx hx kx _=>h.lk x hx kx) (λx hx kx _=>h.al x hx kx) (λx hx k2 _=>h.dr x hx k2) (λx hx k2 _=>h.en x hx k2) (λx hx k2 _ u=>h.ro x hx k2 u) c0 (λk2=>?_);have:=h.dr n n40 k2;omega
  .rename_i d;refine h.put n _ n40 rfl rfl rfl rfl (λ_=>⟨rfl,rfl,rfl⟩) (λk1=>h.fz n n40 k1) (λ_=>?_);grind
 .exact h
theorem Tr.Ok.rem{F:Fo}(h:Tr.Ok F){z E:Int}{s:bU}{G:Fo}(hm:Tr.xk F z s E G):Tr.Ok G:=by
 obtain⟨k,e,hf,⟨_,_,rfl⟩|⟨rfl,hm⟩⟩:=hm
 .exact h
 rcases hm with⟨_,_,_,rfl⟩|⟨nbz,_,i,hpl,rfl⟩
 .exact h
 obtain⟨n,i',rfl,n40,n2,hp,hK⟩:=hf.ok;rw[hZ]at hpl|-;have ii:i=i':=by have:=hpl.unique hp;omega
 subst ii;have hi:=hp.lt;have hx:=h.forget n40 n2 hi;rw[<-hK]at hx;obtain⟨k40,kk0,_,_⟩:=h.ki n i n40 n2 hi;rw[<-hK]at k40 kk0;have nk:k≠n:=λe=>nbz ⟨by rw[e];exact n2, .inl (by rw[e];omega)⟩;unfold Tr.wC;obtain⟨F1,hF1⟩:=hU (F.put n (Tr.eE (F.nd n) i));rw[hF1]at hx|-;have gk:F1.nd k=F.nd k:=by rw[<-hF1,Tr.bM _ _ _ _ nk]
 have hl:=hx.lk k k40 (by rw[gk];exact kk0);rw[ik,gk]at hl;have one:∀x,x≠k->ft k x=0:=λx c=>lf (bQ c);unfold Tr.lB;rw[Tr.bF];split
 .rename_i d;have d1:(F.nd k).cJ-1=0:=d.1;rw[Tr.gA];refine Tr.erase k40 hx.tr hx.kd hx.sz hx.fz hx.nb hx.dp hx.ki hx.rt (λx hxx kx c=>by have:=hx.lk x hxx kx;rw[one x c]at this;exact this) (λx hxx kx _=>hx.al x hxx kx) (λx hxx k2 c=>by have:=hx.dr x hxx k2;rw[one x c]at this;exact this) hx.en hx.ro bu (λk2=>?_);grind
 .rename_i d;have d':¬((F.nd k).cJ-1=0/\(F1.nd k).held=0):=d;rw[gk]at d';have k1:(F.nd k).kind≠2:=λk2=>by
   have b:=hx.dr k k40 (by rw[gk];exact k2);rw[ik]at b;rcases Nat.eq_zero_or_pos (F.nd k).held with q|q
   .exact d' ⟨by omega,q⟩
   .exact nbz ⟨k2, .inr q⟩
  obtain⟨G,hG⟩:=hU (F1.put k {F1.nd k with cJ:=(F.nd k).cJ-1});rw[hG];have go:∀x,x≠k->G.nd x=F1.nd x:=λx c=>by rw[<-hG,Tr.bM _ _ _ _ c]
  have al:∀x,(G.nd x).kind=(F1.nd x).kind/\(G.nd x).size=(F1.nd x).size/\(G.nd x).dS=(F1.nd x).dS/\(G.nd x).cR=(F1.nd x).cR/\(G.nd x).tree=(F1.nd x).tree/\(G.nd x).up=(F1.nd x).up/\(G.nd x).held=(F1.nd x).held:=λx=>by
   by_cases c:x=k
   .subst c;rw[<-hG,Tr.bF];exact⟨rfl,rfl,rfl,rfl,rfl,rfl,rfl⟩
   .rw[go x c];exact⟨rfl,rfl,rfl,rfl,rfl,rfl,rfl⟩
  have gkl:(G.nd k).cJ=(F.nd k).cJ-1:=by rw[<-hG,Tr.bF]
  have cL:∀x,Tr.cL G x=Tr.cL F1 x:=λx=>by
   rw[<-hG];exact Tr.jb F1 k _ x k40 rfl
  refine⟨by rw[<-hG];exact hx.tr,λx hxx=>by rw[(al x).1];exact hx.kd x hxx,λx hxx k2=>?_,λx hxx k1=>?_,λx j hxx k2 hj=>?_,λx hxx k2=>?_,λx j hxx k2 hj=>?_,λt htt=>?_,λx hxx kx=>?_,λx hxx kx=>?_,λx hxx k2=>?_,λx hxx k2=>?_,λx hxx k2 hu2=>?_⟩
  .rw[(al x).1]at k2;rw[(al x).2.1];exact hx.sz x hxx k2
  .rw[(al x).1]at k1;rw[(al x).2.1];exact hx.fz x hxx k1
  .rw[(al x).1]at k2;rw[(al x).2.1]at hj;rw[(al x).2.2.1];exact hx.nb x j hxx k2 hj
  .rw[(al x).1]at k2;unfold Tr.Nodup;rw[(al x).2.1,(al x).2.2.1];exact hx.dp x hxx k2
  .rw[(al x).1]at k2;rw[(al x).2.1]at hj;rw[(al x).2.2.2.1,(al _).1,(al _).2.2.2.2.1,(al x).2.2.2.2.1,(al _).2.2.2.2.2.1];exact hx.ki x j hxx k2 hj
  .have a:=hx.rt t (by rw[<-hG]at htt;exact htt);have e:G.root t=F1.root t:=by rw[<-hG];rfl
   rw[e,(al _).1,(al _).2.2.2.2.1,(al _).2.2.2.2.2.1];exact a
  .rw[(al x).1]at kx;rw[cL];by_cases c:x=k
   .subst c;rw[gkl];omega
   .rw[go x c];have:=hx.lk x hxx kx;rw[one x c]at this;exact this
  .rw[(al x).1]at kx;by_cases c:x=k
   .subst c;rw[gkl,(al x).2.2.2.2.2.2,gk];omega
   .rw[go x c];exact hx.al x hxx kx
  .rw[(al x).1]at k2;rw[cL];have c:x≠k:=λe=>by rw[e,gk]at k2;exact k1 k2
   have:=hx.dr x hxx k2;rw[one x c]at this;exact this
  .rw[(al x).1]at k2;have c:x≠k:=λe=>by rw[e,gk]at k2;exact k1 k2
   exact(hx.en x hxx k2 c).congr (λy=>(al y).2.2.2.2.2.1)
  .rw[(al x).1]at k2;rw[(al x).2.2.2.2.2.1]at hu2;have c:x≠k:=λe=>by rw[e,gk]at k2;exact k1 k2
   obtain⟨t,h1,h2⟩:=hx.ro x hxx k2 c hu2;exact⟨t,by rw[<-hG];exact h1,by rw[<-hG];exact h2⟩
theorem Tr.Ok.Ol{F:Fo}(h:Tr.Ok F){T:Nat}{E:Int}{G:Fo}(hm:Tr.qs F T E G):Tr.Ok G:=by
 rcases hm with⟨_,_,_,rfl⟩|⟨t4,n,e,hf,hm⟩
 .exact h
 rcases hm with⟨_,_,_,rfl⟩|⟨rfl,_,_,rfl⟩
 .exact h
 obtain⟨n40,k0⟩:n<40/\(F.nd n).kind=0:=by
  rcases hf with⟨_,h1,h2,_⟩|⟨h1,_⟩
  .exact⟨h1,h2⟩
  .omega
 obtain⟨G,hG⟩:=hU (Tr.zl F n);rw[hG];have gk:G.nd n=eR 2 F.trees n:=by rw[<-hG];exact Tr.bF F n _
 have go:∀x,x≠n->G.nd x=F.nd x:=λx c=>by rw[<-hG];exact Tr.bM F n _ x c
 have gtr:G.trees=F.trees+1:=by rw[<-hG];rfl
 have gro:∀t,t<F.trees->G.root t=F.root t:=λt ht=>by rw[<-hG];exact uG _ _ _ _ bu
 have grn:G.root F.trees=n:=by rw[<-hG];exact qg _ _ _
 have hc0:=h.none k0;obtain⟨kne,rne⟩:=Tr.tH hc0;have cL:∀x,Tr.cL G x=Tr.cL F x+ft n x:=λx=>by
  have a:Tr.cL (F.put n (eR 2 F.trees n)) x=Tr.cL F x:=by
   refine Tr.jb F n _ x n40 ?_;rw[Tr.yT (x:=F.nd n) x (by rw[k0];decide)];rfl
  have b:Tr.oO G x=Tr.oO F x+ft n x:=by
   unfold Tr.oO;rw[gtr];show fQ (λt=>ft (G.root t) x) F.trees+ft (G.root F.trees) x=_;rw[grn,mV (λt ht=>by rw[gro t ht])]
  have c:fQ (λm=>Tr.gL (G.nd m) x) 40=fQ (λm=>Tr.gL ((F.put n (eR 2 F.trees n)).nd m) x) 40:=by rw[<-hG];rfl
  have d:Tr.oO (F.put n (eR 2 F.trees n)) x=Tr.oO F x:=rfl;unfold Tr.cL at a|-;omega
 have sz0:(G.nd n).size=0:=by rw[gk];rfl
 have h4:=h.tr;refine⟨by rw[gtr];omega,λx hx=>?_,λx hx k2=>?_,λx hx k1=>?_,λx j hx k2 hj=>?_,λx hx k2=>?_,λx j hx k2 hj=>?_,λt htt=>?_,λx hx kx=>?_,λx hx kx=>?_,λx hx k2=>?_,λx hx k2=>?_,λx hx k2 hu2=>?_⟩
 .by_cases c:x=n
  .subst c;rw[gk];exact aL _
  .rw[go x c];exact h.kd x hx
 .by_cases c:x=n
  .subst c;rw[sz0];exact aC _
  .rw[go x c]at k2|-;exact h.sz x hx k2
 .by_cases c:x=n
  .subst c;rw[sz0];exact aC _
  .rw[go x c]at k1|-;exact h.fz x hx k1
 .by_cases c:x=n
  .subst c;rw[sz0]at hj;omega
  .rw[go x c]at k2 hj|-;exact h.nb x j hx k2 hj
 .by_cases c:x=n
  .subst c;intro a b _ hb;rw[sz0]at hb;omega
  .rw[go x c]at k2|-;exact h.dp x hx k2
 .by_cases c:x=n
  .subst c;rw[sz0]at hj;omega
  .rw[go x c]at k2 hj|-;rw[go _ (kne x j hx k2 hj)];exact h.ki x j hx k2 hj
 .rw[gtr]at htt;by_cases c:t=F.trees
  .subst c;rw[grn,gk];exact⟨n40,rfl,rfl,rfl⟩
  .rw[gro t bu,go _ (rne t bu)];exact h.rt t bu
 .by_cases c:x=n
  .subst c;rw[gk,cL,hc0,ik];rfl
  .rw[go x c]at kx|-;rw[cL,lf (bQ c)];exact h.lk x hx kx
 .by_cases c:x=n
  .subst c;rw[gk];show 1<=1+0;omega
  .rw[go x c]at kx|-;exact h.al x hx kx
 .by_cases c:x=n
  .subst c;rw[cL,hc0,ik]
  .rw[go x c]at k2;rw[cL,lf (bQ c)];exact h.dr x hx k2
 .by_cases c:x=n
  .subst c;exact Tr.dn.Gq (m:=0) ⟨n40,by rw[gk];rfl⟩
  .rw[go x c]at k2;exact(h.en x hx k2).AN (k:=n) (λy d=>by rw[go y d]) (h.Eu k0 (λ_ _=>rfl) 40 x hx k2)
 .by_cases c:x=n
  .exact⟨F.trees,by rw[gtr];omega,by rw[grn,c]⟩
  .rw[go x c]at k2 hu2;obtain⟨t,h1,h2⟩:=h.ro x hx k2 hu2;grind
