import Derived.Test.YtpmmdkcfenjiaaaGreatDoorVap
set_option linter.unusedVariables false
set_option linter.unusedSimpArgs false
namespace Go.Proofs.YtpmmdkcfenjiaaaGreatDoor
open Tr (Fo Nd)
theorem OR: ∀(k m:Nat) (f:Nat->Nat),(∀i,i<m->f i<k)->(∀i j,i<j->j<m->f i≠f j)->m<=k
 |0,m,f,h,_=>by
  rcases Nat.eq_zero_or_pos m with h0|h0
  ·omega
  ·exact aZ (h 0 h0) (by omega)
 |k+1,m,f,h,hi=>by
  by_cases c: ∃i,i<m/\f i=k
  ·obtain⟨a,ha,hk⟩:=c;have:=OR k (m-1) (fun i=>if i<a then f i else f (i+1)) (fun i hm=>by
    split
    ·have h1:=h i (by omega);have h2:=hi i a (by omega) ha;omega
    ·have h1:=h (i+1) (by omega);have h2:=hi a (i+1) (by omega) (by omega);omega) (fun i j hij hj=>by
    by_cases c1:i<a
    ·grind
    ·rw[aI c1,aI (by omega)];exact hi (i+1) (j+1) (by omega) (by omega))
   omega
  ·have:=OR k m f (fun i hm=>by
    have h1:=h i hm;have h2:f i≠k:=fun e=>c ⟨i,hm,e⟩;omega) hi
   omega
def Tr.fw (F:Fo)(n:Nat):Nat->Nat
 |0=>n
 |k+1=>(F.nd (Tr.fw F n k)).up
theorem Tr.ly (F:Fo)(n:Nat): ∀k,Tr.fw F (F.nd n).up k=Tr.fw F n (k+1)
 |0=>rfl
 |k+1=>by show(F.nd (Tr.fw F (F.nd n).up k)).up=_;rw[Tr.ly F n k];rfl
theorem Tr.xV (F:Fo)(n i:Nat): ∀k,Tr.fw F (Tr.fw F n i) k=Tr.fw F n (i+k)
 |0=>rfl
 |k+1=>by show(F.nd (Tr.fw F (Tr.fw F n i) k)).up=_;rw[Tr.xV F n i k];rfl
theorem Tr.cJ.first {F:Fo}: ∀{m n:Nat},Tr.cJ F m n-> ∃e,(∀j,j<=e->Tr.fw F n j<40)/\(F.nd (Tr.fw F n e)).up=Tr.fw F n e/\ ∀j,j<e->(F.nd (Tr.fw F n j)).up≠Tr.fw F n j
 |0,n,h=>⟨0,fun j hj=>by obtain rfl:j=0:=(by omega);exact h.1,h.2,fun j hj=>by omega⟩
 |m+1,n,h=>by
  by_cases c:(F.nd n).up=n
  ·exact⟨0,fun j hj=>by obtain rfl:j=0:=(by omega);exact h.1,c,fun j hj=>by omega⟩
  ·rcases h.2 with h2|h2
   ·exact aZ h2 c
   ·obtain⟨e,h3,h4,h5⟩:=h2.first;refine⟨e+1,fun j hj=>?_,?_,fun j hj=>?_⟩
    ·cases j with
     |zero=>exact h.1
     |succ j=>rw[<-Tr.ly];exact h3 j (by omega)
    ·rw[<-Tr.ly];exact h4
    ·cases j with
     |zero=>exact c
     |succ j=>rw[<-Tr.ly];exact h5 j (by omega)
theorem Tr.cJ.Qg {F:Fo}: ∀{e n:Nat},(∀j,j<=e->Tr.fw F n j<40)->(F.nd (Tr.fw F n e)).up=Tr.fw F n e->Tr.cJ F e n
 |0,_,h1,h2=>⟨h1 0 (by omega),h2⟩
 |e+1,n,h1,h2=>⟨h1 0 (by omega), .inr (Tr.cJ.Qg (fun j hj=>by rw[Tr.ly];exact h1 (j+1) (by omega)) (by rw[Tr.ly];exact h2))⟩
theorem Tr.cJ.mono {F:Fo}{n m:Nat}(h:Tr.cJ F m n): ∀k,Tr.cJ F (m+k) n
 |0=>h
 |k+1=>(Tr.cJ.mono h k).more.1
theorem Tr.cJ.Fw {F:Fo}{m n:Nat}(h:Tr.cJ F m n):Tr.cJ F 40 n:=by
 obtain⟨e,h1,h2,h3⟩:=h.first;have he:e+1<=40:=OR 40 (e+1) (Tr.fw F n) (fun i hi=>h1 i (by omega)) (fun i j hij hj eq=>by
  have a:Tr.fw F n (i+(e-j))=Tr.fw F n e:=by
   rw[<-Tr.xV,eq,Tr.xV,show j+(e-j)=e by omega]
  exact h3 (i+(e-j)) (by omega) (by rw[a,h2]))
 have:=(Tr.cJ.Qg h1 h2).mono (40-e);grind
def Tr.Nodup (x:Nd):Prop:= ∀i j,i<j->j<x.size->(x.dz i).toList≠(x.dz j).toList
theorem Tr.Nodup.ne {x:Nd}(h:Tr.Nodup x){i j:Nat}(hi:i<x.size)(hj:j<x.size)(c:i≠j):(x.dz i).toList≠(x.dz j).toList:=by grind [Tr.Nodup]
theorem Tr.pB (x:Nd)(i:Nat):(Tr.dJ x i).size=x.size-1:=rfl
theorem Tr.uO {x:Nd}{i j:Nat}(hj:j<x.size-1):(Tr.dJ x i).dz j=if j=i then x.dz (x.size-1)else x.dz j:=by
 show gi (gi x.dz i _) (x.size-1) _ j=_;rw[sP _ _ _ _ (by omega)];rfl
theorem Tr.oQ {x:Nd}{i j:Nat}(hj:j<x.size-1):(Tr.dJ x i).bO j=if j=i then x.bO (x.size-1)else x.bO j:=by
 show gi (gi x.bO i _) (x.size-1) _ j=_;rw[sP _ _ _ _ (by omega)];rfl
theorem Tr.Kg {x:Nd}{i j:Nat}(hi:i<x.size)(hj:j<x.size-1): ∃q,q<x.size/\q≠i/\(Tr.dJ x i).dz j=x.dz q/\(Tr.dJ x i).bO j=x.bO q:=by
 by_cases c:j=i
 ·refine⟨x.size-1,by omega,by omega,?_,?_⟩
  ·rw[Tr.uO hj,aJ c]
  ·rw[Tr.oQ hj,aJ c]
 ·refine⟨j,by omega,c,?_,?_⟩
  ·rw[Tr.uO hj,aI c]
  ·rw[Tr.oQ hj,aI c]
theorem Tr.Nodup.dJ {x:Nd}(h:Tr.Nodup x){i:Nat}(hi:i<x.size):Tr.Nodup (Tr.dJ x i):=by grind [Tr.Nodup,Tr.dJ,Tr.pB,Tr.uO]
theorem Tr.tw {x:Nd}{s:bU}{k j:Nat}(hj:j<x.size):(Tr.gT x s k).dz j=x.dz j/\(Tr.gT x s k).bO j=x.bO j:=⟨sP _ _ _ _ (by omega),sP _ _ _ _ (by omega)⟩
theorem Tr.rq (x:Nd)(s:bU)(k:Nat):(Tr.gT x s k).dz x.size=s/\(Tr.gT x s k).bO x.size=k:=⟨oJ _ _ _,oJ _ _ _⟩
theorem Tr.oU (x:Nd)(s:bU)(k:Nat):(Tr.gT x s k).size=x.size+1:=rfl
theorem Tr.eH.no {x:Nd}{s:bU}(h:Tr.eH x s (-1)): ∀j,j<x.size->(x.dz j).toList≠s.toList:=by
 rcases h with⟨j,e,_⟩|⟨_,h⟩
 ·omega
 ·exact h
theorem Tr.Nodup.gT {x:Nd}{s:bU}{k:Nat}(h:Tr.Nodup x)(hp:Tr.eH x s (-1)):Tr.Nodup (Tr.gT x s k):=by grind [Tr.Nodup,Tr.eH,Tr.gT,Tr.oU,Tr.tw,Tr.rq]
def e9 (f:Nat->Nat):Nat->Nat
 |0=>0
 |n+1=>e9 f n+f n
theorem lY {f g:Nat->Nat}: ∀{n:Nat},(∀i,i<n->f i=g i)->e9 f n=e9 g n
 |0,_=>rfl
 |n+1,h=>by show e9 f n+f n=e9 g n+g n;rw[lY (fun i hi=>h i (by omega)),h n (by omega)]
theorem tD {f:Nat->Nat}: ∀{n i:Nat},i<n->f i<=e9 f n
 |n+1,i,h=>by
  show f i<=e9 f n+f n;by_cases c:i=n
  ·subst c;omega
  ·have:=tD (f:=f) (n:=n) (i:=i) (by omega);omega
theorem uG {f:Nat->Nat}: ∀{n:Nat},0<e9 f n-> ∃i,i<n/\0<f i
 |0,h=>aZ h (bV 0)
 |n+1,h=>by
  by_cases c:0<f n
  ·exact⟨n,by omega,c⟩
  ·have h':0<e9 f n+f n:=h;obtain⟨i,h1,h2⟩:=uG (f:=f) (n:=n) (by omega);exact⟨i,by omega,h2⟩
theorem sC {f:Nat->Nat}{n:Nat}(h: ∀i,i<n->f i=0):e9 f n=0:=by grind [e9,uG]
theorem uZ {f g:Nat->Nat}{p:Nat}: ∀{n:Nat},p<n->(∀i,i<n->i≠p->f i=g i)->e9 f n+g p=e9 g n+f p
 |n+1,hp,h=>by
  show e9 f n+f n+g p=e9 g n+g n+f p;by_cases c:p=n
  ·grind [e9,lY]
  ·have:=uZ (f:=f) (g:=g) (p:=p) (n:=n) (by omega) (fun i hi hne=>h i (by omega) hne);rw[h n (by omega) (by omega)];omega
def eJ (a b:Nat):Nat:=if a=b then 1 else 0
theorem gF (a:Nat):eJ a a=1:=aJ rfl
theorem kC {a b:Nat}(h:a≠b):eJ a b=0:=aI h
def Tr.fS (x:Nd)(n:Nat):Nat:=if x.kind=2 then e9 (fun i=>eJ (x.bO i) n) x.size else 0
def Tr.nR (F:Fo)(n:Nat):Nat:=e9 (fun t=>eJ (F.root t) n) F.trees
def Tr.bG (F:Fo)(n:Nat):Nat:=e9 (fun m=>Tr.fS (F.nd m) n) 40+Tr.nR F n
theorem Tr.yk {x:Nd}(n:Nat)(h:x.kind≠2):Tr.fS x n=0:=aI h
theorem Tr.Mh {x:Nd}(s:bU)(k n:Nat)(h:x.kind=2):Tr.fS (Tr.gT x s k) n=Tr.fS x n+eJ k n:=by
 unfold Tr.fS;rw[aJ h,aJ (show(Tr.gT x s k).kind=2 from h),Tr.oU];show e9 (fun i=>eJ ((Tr.gT x s k).bO i) n) x.size+eJ ((Tr.gT x s k).bO x.size) n=_;rw[(Tr.rq x s k).2,lY (fun i hi=>by rw[(Tr.tw hi).2])]
theorem Tr.JH {x:Nd}{i:Nat}(n:Nat)(h:x.kind=2)(hi:i<x.size):Tr.fS (Tr.dJ x i) n+eJ (x.bO i) n=Tr.fS x n:=by
 unfold Tr.fS;rw[aJ h,aJ (show(Tr.dJ x i).kind=2 from h),Tr.pB];obtain⟨l,hl⟩: ∃l,x.size=l+1:=⟨x.size-1,by omega⟩;rw[hl,show l+1-1=l by omega];show e9 (fun j=>eJ ((Tr.dJ x i).bO j) n) l+eJ (x.bO i) n=e9 (fun j=>eJ (x.bO j) n) l+eJ (x.bO l) n;by_cases c:i=l
 ·subst c;rw[lY (fun j hj=>by rw[Tr.oQ (by omega),aI (by omega)])]
 ·have a:=uZ (f:=fun j=>eJ ((Tr.dJ x i).bO j) n) (g:=fun j=>eJ (x.bO j) n) (p:=i) (n:=l) (by omega) (fun j hj hne=>by show eJ _ n=eJ _ n;rw[Tr.oQ (by omega),aI hne]);have e:(Tr.dJ x i).bO i=x.bO l:=by rw[Tr.oQ (by omega),aJ rfl,hl];rfl
  simp only[e]at a;omega
theorem Tr.xQ (F:Fo)(p:Nat)(x:Nd)(n:Nat)(hp:p<40):Tr.bG (F.put p x) n+Tr.fS (F.nd p) n=Tr.bG F n+Tr.fS x n:=by
 have a:=uZ (f:=fun m=>Tr.fS ((F.put p x).nd m) n) (g:=fun m=>Tr.fS (F.nd m) n) (p:=p) (n:=40) hp (fun i _ hne=>by show Tr.fS ((F.put p x).nd i) n=Tr.fS (F.nd i) n;rw[Tr.ao _ _ _ _ hne]);simp only[Tr.ai]at a;unfold Tr.bG;have r:Tr.nR (F.put p x) n=Tr.nR F n:=rfl;rw[r];omega
theorem Tr.ie (F:Fo)(p:Nat)(x:Nd)(n:Nat)(hp:p<40)(h:Tr.fS x n=Tr.fS (F.nd p) n):Tr.bG (F.put p x) n=Tr.bG F n:=by
 have:=Tr.xQ F p x n hp;omega
theorem Tr.xB {F:Fo}{m i:Nat}(hm:m<40)(h2:(F.nd m).kind=2)(hi:i<(F.nd m).size):1<=Tr.bG F ((F.nd m).bO i):=by
 have a:=tD (f:=fun q=>Tr.fS (F.nd q) ((F.nd m).bO i)) hm;grind [tD,Tr.fS,eJ,gF,e9,Tr.bG]
theorem Tr.rT {F:Fo}{n:Nat}(h:Tr.bG F n=0):(∀m i,m<40->(F.nd m).kind=2->i<(F.nd m).size->(F.nd m).bO i≠n)/\ ∀t,t<F.trees->F.root t≠n:=by grind [Tr.xB,tD,eJ,gF,Tr.nR,e9,Tr.bG]
theorem Tr.MH (x:Nd)(n:Nat)(h:x.kind=2->x.size<=8):Tr.fS x n<=8:=by
 unfold Tr.fS;split
 ·rename_i c;have: ∀k,e9 (fun i=>eJ (x.bO i) n) k<=k:=fun k=>by
   induction k with
   |zero=>exact aL _
   |succ k ih=>show e9 _ k+eJ _ n<=_;have:eJ (x.bO k) n<=1:=(by unfold eJ;split<;>omega);omega
  grind
 ·omega
structure Tr.Ok (F:Fo):Prop where
 tr:F.trees<=4
 kd: ∀n,n<40->(F.nd n).kind<=2
 sz:Tr.jD F
 fz:Tr.sY F
 nb: ∀n i,n<40->(F.nd n).kind=2->i<(F.nd n).size->Tr.eX ((F.nd n).dz i)=true
 dp: ∀n,n<40->(F.nd n).kind=2->Tr.Nodup (F.nd n)
 ki: ∀n i,n<40->(F.nd n).kind=2->i<(F.nd n).size->(F.nd n).bO i<40/\(F.nd ((F.nd n).bO i)).kind≠0/\(F.nd ((F.nd n).bO i)).tree=(F.nd n).tree/\((F.nd ((F.nd n).bO i)).kind=2->(F.nd ((F.nd n).bO i)).up=n)
 rt: ∀t,t<F.trees->F.root t<40/\(F.nd (F.root t)).kind=2/\(F.nd (F.root t)).up=F.root t/\(F.nd (F.root t)).tree=t
 lk: ∀n,n<40->(F.nd n).kind≠0->(F.nd n).bE=Tr.bG F n
 al: ∀n,n<40->(F.nd n).kind≠0->1<=(F.nd n).bE+(F.nd n).held
 dr: ∀n,n<40->(F.nd n).kind=2->Tr.bG F n=1
 en: ∀n,n<40->(F.nd n).kind=2->Tr.cJ F 40 n
 ro: ∀n,n<40->(F.nd n).kind=2->(F.nd n).up=n-> ∃t,t<F.trees/\F.root t=n
theorem Tr.Ok.none {F:Fo}(h:Tr.Ok F){k:Nat}(k0:(F.nd k).kind=0):Tr.bG F k=0:=by
 unfold Tr.bG Tr.nR;rw[sC (fun m hm=>?_),sC (fun t ht=>?_)]
 ·exact kC (fun e=>by have:=(h.rt t ht).2.1;rw[e,k0]at this;exact aZ this (by decide))
 ·unfold Tr.fS;split
  ·rename_i c;exact sC (fun i hi=>kC (fun e=>by have:=(h.ki m i hm c hi).2.1;rw[e]at this;exact this k0))
  ·rfl
theorem Tr.Ok.lW {F:Fo}(h:Tr.Ok F)(n:Nat):Tr.bG F n<=324:=by
 have a: ∀k,k<=40->e9 (fun m=>Tr.fS (F.nd m) n) k<=8*k:=fun k hk=>by
  induction k with
  |zero=>exact aL _
  |succ k ih=>
   show e9 _ k+Tr.fS (F.nd k) n<=_;have:=Tr.MH (F.nd k) n (fun c=>h.sz k (by omega) c);omega
 have b: ∀k,e9 (fun t=>eJ (F.root t) n) k<=k:=fun k=>by
  induction k with
  |zero=>exact aL _
  |succ k ih=>
   show e9 _ k+eJ _ n<=_;have:eJ (F.root k) n<=1:=by unfold eJ;split<;>omega
   omega
 have c1:=a 40 (aL _);have c2:=b F.trees;have c3:=h.tr;unfold Tr.bG Tr.nR;omega
theorem Tr.Ok.uR {F:Fo}(h:Tr.Ok F)(n:Nat)(hn:n<40)(k0:(F.nd n).kind≠0):(F.nd n).bE<=324:=by rw[h.lk n hn k0];exact h.lW n
theorem Tr.Ok.bO {F:Fo}(h:Tr.Ok F):Tr.DY F:=fun n hn k2 i hi=>by
 obtain⟨h1,h2,_⟩:=h.ki n i hn k2 hi;have:=h.uR _ h1 h2;exact⟨h1,by rw[h.lk _ h1 h2];exact Tr.xB hn k2 hi,by omega⟩
theorem Tr.Dj (n:Nat):(Tr.f0.nd n).kind=0:=rfl
theorem Tr.Q9:Tr.Ok Tr.f0:=by
 have n2: ∀n,(Tr.f0.nd n).kind≠2:=fun n=>by rw[Tr.Dj];decide
 have n1: ∀n,(Tr.f0.nd n).kind≠1:=fun n=>by rw[Tr.Dj];decide
 exact⟨aC _,fun _ _=>aC _,fun _ _ h=>aZ h (n2 _),fun _ _ h=>aZ h (n1 _),fun _ _ _ h=>aZ h (n2 _),fun _ _ h=>aZ h (n2 _),fun _ _ _ h=>aZ h (n2 _),fun t ht=>aZ ht (Nat.not_lt_zero t),fun _ _ h=>aZ rfl h,fun _ _ h=>aZ rfl h,fun _ _ h=>aZ h (n2 _),fun _ _ h=>aZ h (n2 _),fun _ _ h=>aZ h (n2 _)⟩
theorem Tr.cJ.congr {F G:Fo}(h: ∀n,(G.nd n).up=(F.nd n).up): ∀{m n:Nat},Tr.cJ F m n->Tr.cJ G m n
 |0,n,hh=>⟨hh.1,by rw[h n];exact hh.2⟩
 |m+1,n,hh=>⟨hh.1,by
  rw[h n];rcases hh.2 with a|a
  ·exact .inl a
  ·exact .inr (Tr.cJ.congr h a)⟩
theorem Tr.Ok.put {F:Fo}(h:Tr.Ok F)(p:Nat)(x:Nd)(hp:p<40)(e1:x.kind=(F.nd p).kind)(e2:x.bE=(F.nd p).bE)(e3:x.tree=(F.nd p).tree)(e4:x.up=(F.nd p).up)(e5:x.kind=2->x.size=(F.nd p).size/\x.dz=(F.nd p).dz/\x.bO=(F.nd p).bO)(e6:x.kind=1->x.size<=40)(e7:x.kind≠0->1<=x.bE+x.held):Tr.Ok (F.put p x):=by
 have hk: ∀n,((F.put p x).nd n).kind=(F.nd n).kind:=fun n=>by
  by_cases c:n=p
  ·subst c;rw[Tr.ai,e1]
  ·rw[Tr.ao _ _ _ _ c]
 have hl: ∀n,((F.put p x).nd n).bE=(F.nd n).bE:=fun n=>by
  by_cases c:n=p
  ·subst c;rw[Tr.ai,e2]
  ·rw[Tr.ao _ _ _ _ c]
 have ht: ∀n,((F.put p x).nd n).tree=(F.nd n).tree:=fun n=>by
  by_cases c:n=p
  ·subst c;rw[Tr.ai,e3]
  ·rw[Tr.ao _ _ _ _ c]
 have hu: ∀n,((F.put p x).nd n).up=(F.nd n).up:=fun n=>by
  by_cases c:n=p
  ·subst c;rw[Tr.ai,e4]
  ·rw[Tr.ao _ _ _ _ c]
 have hd: ∀n,(F.nd n).kind=2->((F.put p x).nd n).size=(F.nd n).size/\((F.put p x).nd n).dz=(F.nd n).dz/\((F.put p x).nd n).bO=(F.nd n).bO:=fun n k2=>by
  by_cases c:n=p
  ·subst c;rw[Tr.ai];exact e5 (by rw[e1];exact k2)
  ·rw[Tr.ao _ _ _ _ c];exact⟨rfl,rfl,rfl⟩
 have hc: ∀n,Tr.bG (F.put p x) n=Tr.bG F n:=fun n=>Tr.ie F p x n hp (by
  unfold Tr.fS;by_cases c:x.kind=2
  ·grind
  ·rw[aI c,aI (by rw[<-e1];exact c)])
 refine⟨h.tr,fun n hn=>by rw[hk];exact h.kd n hn,fun n hn k2=>?_,fun n hn k1=>?_,fun n i hn k2 hi=>?_,fun n hn k2=>?_,fun n i hn k2 hi=>?_,fun t htt=>?_,fun n hn k0=>?_,fun n hn k0=>?_,fun n hn k2=>?_,fun n hn k2=>?_,fun n hn k2 hu2=>?_⟩
 ·rw[hk]at k2;rw[(hd n k2).1];exact h.sz n hn k2
 ·by_cases c:n=p
  ·subst c;rw[Tr.ai]at k1|-;exact e6 k1
  ·rw[Tr.ao _ _ _ _ c]at k1|-;exact h.fz n hn k1
 ·rw[hk]at k2;rw[(hd n k2).1]at hi;rw[(hd n k2).2.1];exact h.nb n i hn k2 hi
 ·rw[hk]at k2;unfold Tr.Nodup;rw[(hd n k2).1,(hd n k2).2.1];exact h.dp n hn k2
 ·rw[hk]at k2;rw[(hd n k2).1]at hi;rw[(hd n k2).2.2,hk,ht,ht,hu];exact h.ki n i hn k2 hi
 ·show F.root t<40/\_;have:=h.rt t htt;rw[hk,hu,ht];exact this
 ·rw[hk]at k0;rw[hl,hc];exact h.lk n hn k0
 ·by_cases c:n=p
  ·subst c;rw[Tr.ai]at k0|-;exact e7 k0
  ·rw[Tr.ao _ _ _ _ c]at k0|-;exact h.al n hn k0
 ·rw[hk]at k2;rw[hc];exact h.dr n hn k2
 ·rw[hk]at k2;exact(h.en n hn k2).congr hu
 ·rw[hk]at k2;rw[hu]at hu2;exact h.ro n hn k2 hu2
theorem Tr.Ok.zd {F:Fo}(h:Tr.Ok F)(z a:Int)(s:bU):Tr.Ok (Tr.dF F z a s):=by
 unfold Tr.dF;split
 ·rename_i c;have c1:Tr.bj F z 1=0:=by
   rcases Classical.em (Tr.bj F z 1=0)with d|d
   ·exact d
   ·have:=c.1;unfold Tr.cV at this;rw[aJ d]at this;exact this
  obtain⟨n,rfl,n40,_,k1⟩:=Tr.dY c1;have cw:=c.1;unfold Tr.cV at cw;refine h.put n _ n40 rfl rfl rfl rfl (fun k2=>aZ ((show(F.nd n).kind=2 from k2).symm.trans k1) (by decide)) (fun _=>?_) (fun k0=>h.al n n40 k0);show max (F.nd n).size (a.toNat+s.size)<=40;have:=h.fz n n40 k1;grind
 ·exact h
theorem Tr.K7 {F:Fo}(ki: ∀n i,n<40->(F.nd n).kind=2->i<(F.nd n).size->(F.nd n).bO i<40/\(F.nd ((F.nd n).bO i)).kind≠0/\(F.nd ((F.nd n).bO i)).tree=(F.nd n).tree/\((F.nd ((F.nd n).bO i)).kind=2->(F.nd ((F.nd n).bO i)).up=n)){m:Nat}(k2:(F.nd m).kind=2)(hc:1<=Tr.bG F m):
 (∃t,t<F.trees/\F.root t=m)\/ ∃i,(F.nd m).up<40/\(F.nd (F.nd m).up).kind=2/\i<(F.nd (F.nd m).up).size/\(F.nd (F.nd m).up).bO i=m:=by grind [Tr.nR,uG,eJ,Tr.bG,Tr.fS]
theorem Tr.cJ.on {F G:Fo}(P:Nat->Prop)(h: ∀n,P n->(G.nd n).up=(F.nd n).up/\P (F.nd n).up): ∀{m n:Nat},P n->Tr.cJ F m n->Tr.cJ G m n
 |0,n,hp,hh=>⟨hh.1,by rw[(h n hp).1];exact hh.2⟩
 |m+1,n,hp,hh=>⟨hh.1,by
  rw[(h n hp).1];rcases hh.2 with a|a
  ·exact .inl a
  ·exact .inr (Tr.cJ.on P h (h n hp).2 a)⟩
structure Tr.Iy (F:Fo)(k:Nat):Prop where
 tr:F.trees<=4
 kd: ∀n,n<40->(F.nd n).kind<=2
 sz:Tr.jD F
 fz:Tr.sY F
 nb: ∀n i,n<40->(F.nd n).kind=2->i<(F.nd n).size->Tr.eX ((F.nd n).dz i)=true
 dp: ∀n,n<40->(F.nd n).kind=2->Tr.Nodup (F.nd n)
 ki: ∀n i,n<40->(F.nd n).kind=2->i<(F.nd n).size->(F.nd n).bO i<40/\(F.nd ((F.nd n).bO i)).kind≠0/\(F.nd ((F.nd n).bO i)).tree=(F.nd n).tree/\((F.nd ((F.nd n).bO i)).kind=2->(F.nd ((F.nd n).bO i)).up=n)
 rt: ∀t,t<F.trees->F.root t<40/\(F.nd (F.root t)).kind=2/\(F.nd (F.root t)).up=F.root t/\(F.nd (F.root t)).tree=t
 lk: ∀n,n<40->(F.nd n).kind≠0->(F.nd n).bE=Tr.bG F n+eJ k n
 al: ∀n,n<40->(F.nd n).kind≠0->1<=(F.nd n).bE+(F.nd n).held
 dr: ∀n,n<40->(F.nd n).kind=2->Tr.bG F n+eJ k n=1
 en: ∀n,n<40->(F.nd n).kind=2->n≠k->Tr.cJ F 40 n
 ro: ∀n,n<40->(F.nd n).kind=2->n≠k->(F.nd n).up=n-> ∃t,t<F.trees/\F.root t=n
theorem Tr.Jv {F:Fo}{n k:Nat}{s:bU}(nk:n≠k):Tr.jC F n s k=(F.put n (Tr.gT (F.nd n) s k)).put k (if(F.nd k).kind=2 then{F.nd k with up:=n}else F.nd k):=by
 have e:(F.put n (Tr.gT (F.nd n) s k)).nd k=F.nd k:=Tr.ao _ _ _ _ (bQ nk);unfold Tr.jC;rw[e];split
 ·rfl
 ·rw[show(F.put n (Tr.gT (F.nd n) s k)).put k (F.nd k)=(F.put n (Tr.gT (F.nd n) s k)).put k ((F.put n (Tr.gT (F.nd n) s k)).nd k)by rw[e],Tr.zR]
theorem Tr.cJ.zq {F G:Fo}{k:Nat}(h: ∀x,x≠k->(G.nd x).up=(F.nd x).up): ∀{m x:Nat},Tr.cJ F m x->Tr.fO F k m x=false->Tr.cJ G m x
 |0,x,hh,hb=>by
  have c:x≠k:=fun e=>by subst e;rw[Tr.po]at hb;exact aZ hb (by decide)
  exact⟨hh.1,by rw[h x c];exact hh.2⟩
 |m+1,x,hh,hb=>by
  have c:x≠k:=fun e=>by subst e;rw[Tr.po]at hb;exact aZ hb (by decide)
  refine⟨hh.1,?_⟩;rw[h x c];by_cases d:(F.nd x).up=x
  ·exact .inl d
  ·rcases hh.2 with a|a
   ·exact aZ a d
   ·refine .inr (Tr.cJ.zq h a ?_);have hb':(x==k||(!((F.nd x).up==x)&&Tr.fO F k m (F.nd x).up))=false:=hb;grind
theorem Tr.cJ.jE {F G:Fo}{k t j:Nat}(h: ∀x,x≠k->(G.nd x).up=(F.nd x).up)(hk:k<40)(hg:(G.nd k).up=t)(ht:Tr.cJ G j t): ∀{m x:Nat},Tr.cJ F m x-> ∃m',Tr.cJ G m' x
 |0,x,hh=>by
  by_cases c:x=k
  ·subst c;exact⟨j+1,hk, .inr (by rw[hg];exact ht)⟩
  ·exact⟨0,hh.1,by rw[h x c];exact hh.2⟩
 |m+1,x,hh=>by
  by_cases c:x=k
  ·subst c;exact⟨j+1,hk, .inr (by rw[hg];exact ht)⟩
  ·rcases hh.2 with a|a
   ·exact⟨0,hh.1,by rw[h x c];exact a⟩
   ·obtain⟨m',h'⟩:=Tr.cJ.jE h hk hg ht a;exact⟨m'+1,hh.1, .inr (by rw[h x c];exact h')⟩
theorem Tr.Iy.lead {F:Fo}{n k:Nat}{s:bU}(h:Tr.Iy F k)(hn:n<40)(hk:k<40)(nk:n≠k)(n2:(F.nd n).kind=2)(k0:(F.nd k).kind≠0)(h8:(F.nd n).size<8)(hs:Tr.eX s=true)(hp:Tr.eH (F.nd n) s (-1))(ht:(F.nd k).tree=(F.nd n).tree)(hb:(F.nd k).kind=2->Tr.fO F k 40 n=false):Tr.Ok (Tr.jC F n s k):=by
 obtain⟨G,hG⟩:=nJ (Tr.jC F n s k);rw[hG];rw[Tr.Jv nk]at hG;have gn:G.nd n=Tr.gT (F.nd n) s k:=by rw[<-hG,Tr.ao _ _ _ _ nk,Tr.ai]
 have gk:G.nd k=if(F.nd k).kind=2 then{F.nd k with up:=n}else F.nd k:=by rw[<-hG,Tr.ai]
 have go: ∀x,x≠n->x≠k->G.nd x=F.nd x:=fun x c1 c2=>by rw[<-hG,Tr.ao _ _ _ _ c2,Tr.ao _ _ _ _ c1]
 have gtr:G.trees=F.trees:=by rw[<-hG];rfl
 have grt: ∀t,G.root t=F.root t:=fun t=>by rw[<-hG];rfl
 have all: ∀x,(G.nd x).kind=(F.nd x).kind/\(G.nd x).bE=(F.nd x).bE/\(G.nd x).held=(F.nd x).held/\(G.nd x).tree=(F.nd x).tree:=fun x=>by
  by_cases c1:x=n
  ·subst c1;rw[gn];exact⟨rfl,rfl,rfl,rfl⟩
  ·by_cases c2:x=k
   ·subst c2;rw[gk];split<;>exact⟨rfl,rfl,rfl,rfl⟩
   ·rw[go x c1 c2];exact⟨rfl,rfl,rfl,rfl⟩
 have py: ∀x,x≠n->(G.nd x).size=(F.nd x).size/\(G.nd x).dz=(F.nd x).dz/\(G.nd x).bO=(F.nd x).bO:=fun x c1=>by
  by_cases c2:x=k
  ·subst c2;rw[gk];split<;>exact⟨rfl,rfl,rfl⟩
  ·rw[go x c1 c2];exact⟨rfl,rfl,rfl⟩
 have hup: ∀x,x≠k->(G.nd x).up=(F.nd x).up:=fun x c2=>by
  by_cases c1:x=n
  ·subst c1;rw[gn];rfl
  ·rw[go x c1 c2]
 have hupk:(F.nd k).kind=2->(G.nd k).up=n:=fun k2=>by rw[gk,aJ k2]
 have bG: ∀x,Tr.bG G x=Tr.bG F x+eJ k x:=fun x=>by
  have a:=Tr.xQ F n (Tr.gT (F.nd n) s k) x hn;rw[Tr.Mh s k x n2]at a;have b:=Tr.ie (F.put n (Tr.gT (F.nd n) s k)) k (if(F.nd k).kind=2 then{F.nd k with up:=n}else F.nd k) x hk (by
   rw[Tr.ao _ _ _ _ (bQ nk)];split<;>rfl)
  rw[hG]at b;omega
 have upk: ∀q i,q<40->(F.nd q).kind=2->i<(F.nd q).size->(F.nd q).bO i=k->(F.nd k).kind≠2:=fun q i hq q2 hi e k2=>by
  have a:=Tr.xB hq q2 hi;have b:=h.dr k hk k2;rw[e]at a;rw[gF]at b;omega
 have rtk: ∀t,t<F.trees->F.root t≠k:=fun t htt e=>by
  have k2:=(h.rt t htt).2.1;rw[e]at k2;have b:=h.dr k hk k2;rw[gF]at b;exact(Tr.rT (show Tr.bG F k=0 by omega)).2 t htt e
 refine⟨by rw[gtr];exact h.tr,fun x hx=>by rw[(all x).1];exact h.kd x hx,fun x hx k2=>?_,fun x hx k1=>?_,fun x i hx k2 hi=>?_,fun x hx k2=>?_,fun x i hx k2 hi=>?_,fun t htt=>?_,fun x hx kx=>?_,fun x hx kx=>?_,fun x hx k2=>?_,fun x hx k2=>?_,fun x hx k2 hu2=>?_⟩
 ·rw[(all x).1]at k2;by_cases c:x=n
  ·subst c;rw[gn,Tr.oU];omega
  ·rw[(py x c).1];exact h.sz x hx k2
 ·rw[(all x).1]at k1;by_cases c:x=n
  ·subst c;rw[n2]at k1;exact aZ k1 (by decide)
  ·rw[(py x c).1];exact h.fz x hx k1
 ·rw[(all x).1]at k2;by_cases c:x=n
  ·subst c;rw[gn,Tr.oU]at hi;rw[gn];by_cases d:i=(F.nd x).size
   ·subst d;rw[(Tr.rq _ _ _).1];exact hs
   ·rw[(Tr.tw (by omega)).1];exact h.nb x i hx k2 (by omega)
  ·rw[(py x c).1]at hi;rw[(py x c).2.1];exact h.nb x i hx k2 hi
 ·rw[(all x).1]at k2;by_cases c:x=n
  ·subst c;rw[gn];exact(h.dp x hx k2).gT hp
  ·unfold Tr.Nodup;rw[(py x c).1,(py x c).2.1];exact h.dp x hx k2
 ·rw[(all x).1]at k2;have old: ∀q,(F.nd q).kind=2->q<40-> ∀i,i<(F.nd q).size->(F.nd q).bO i<40/\(G.nd ((F.nd q).bO i)).kind≠0/\(G.nd ((F.nd q).bO i)).tree=(G.nd q).tree/\((G.nd ((F.nd q).bO i)).kind=2->(G.nd ((F.nd q).bO i)).up=q):=fun q q2 hq i hi=>by
   obtain⟨a1,a2,a3,a4⟩:=h.ki q i hq q2 hi;grind
  by_cases c:x=n
  ·subst c;have gnk: ∀i,(G.nd x).bO i=(Tr.gT (F.nd x) s k).bO i:=fun i=>by rw[gn]
   have hi':i<(F.nd x).size+1:=by rw[gn,Tr.oU]at hi;exact hi
   rw[gnk];by_cases d:i=(F.nd x).size
   ·subst d;rw[(Tr.rq _ _ _).2,(all k).1,(all k).2.2.2,(all x).2.2.2];exact⟨hk,k0,ht,hupk⟩
   ·rw[(Tr.tw (by omega)).2];exact old x k2 hx i (by omega)
  ·rw[(py x c).1]at hi;rw[(py x c).2.2];exact old x k2 hx i hi
 ·rw[gtr]at htt;rw[grt,(all _).1,(all _).2.2.2,hup _ (rtk t htt)];exact h.rt t htt
 ·rw[(all x).1]at kx;rw[(all x).2.1,bG];exact h.lk x hx kx
 ·rw[(all x).1]at kx;rw[(all x).2.1,(all x).2.2.1];exact h.al x hx kx
 ·rw[(all x).1]at k2;rw[bG];exact h.dr x hx k2
 ·rw[(all x).1]at k2;by_cases kk:(F.nd k).kind=2
  ·have hnE:=(h.en n hn n2 nk).zq hup (hb kk);by_cases c:x=k
   ·subst c;exact Tr.cJ.Fw (m:=41) ⟨hk, .inr (by rw[hupk kk];exact hnE)⟩
   ·obtain⟨m',h'⟩:=Tr.cJ.jE hup hk (hupk kk) hnE (h.en x hx k2 c);exact h'.Fw
  ·have c:x≠k:=fun e=>by rw[e]at k2;exact kk k2
   refine(h.en x hx k2 c).congr (fun y=>?_);by_cases d:y=k
   ·subst d;rw[gk,aI kk]
   ·exact hup y d
 ·rw[(all x).1]at k2;have c:x≠k:=fun e=>by subst e;rw[hupk k2]at hu2;exact nk hu2
  rw[hup x c]at hu2;obtain⟨t,h1,h2⟩:=h.ro x hx k2 c hu2;exact⟨t,by rw[gtr];exact h1,by rw[grt];exact h2⟩
theorem Tr.Ok.forget {F:Fo}(h:Tr.Ok F){n i:Nat}(hn:n<40)(n2:(F.nd n).kind=2)(hi:i<(F.nd n).size):Tr.Iy (F.put n (Tr.dJ (F.nd n) i)) ((F.nd n).bO i):=by
 obtain⟨G,hG⟩:=nJ (F.put n (Tr.dJ (F.nd n) i));obtain⟨k,hk⟩:=nJ ((F.nd n).bO i);rw[hG,hk];have gn:G.nd n=Tr.dJ (F.nd n) i:=by rw[<-hG,Tr.ai]
 have go: ∀x,x≠n->G.nd x=F.nd x:=fun x c=>by rw[<-hG,Tr.ao _ _ _ _ c]
 have all: ∀x,(G.nd x).kind=(F.nd x).kind/\(G.nd x).bE=(F.nd x).bE/\(G.nd x).held=(F.nd x).held/\(G.nd x).tree=(F.nd x).tree/\(G.nd x).up=(F.nd x).up:=fun x=>by
  by_cases c:x=n
  ·subst c;rw[gn];exact⟨rfl,rfl,rfl,rfl,rfl⟩
  ·rw[go x c];exact⟨rfl,rfl,rfl,rfl,rfl⟩
 have bG: ∀x,Tr.bG G x+eJ k x=Tr.bG F x:=fun x=>by
  have a:=Tr.xQ F n (Tr.dJ (F.nd n) i) x hn;have b:=Tr.JH (x:=F.nd n) (i:=i) x n2 hi;rw[hG]at a;rw[hk]at b;omega
 have was: ∀x j,(F.nd x).kind=2->j<(G.nd x).size-> ∃q,q<(F.nd x).size/\(G.nd x).dz j=(F.nd x).dz q/\(G.nd x).bO j=(F.nd x).bO q:=fun x j _ hj=>by
  by_cases c:x=n
  ·subst c;rw[gn]at hj|-;rw[Tr.pB]at hj;obtain⟨q,h1,_,h3,h4⟩:=Tr.Kg hi hj;exact⟨q,h1,h3,h4⟩
  ·rw[go x c]at hj|-;exact⟨j,hj,rfl,rfl⟩
 have gtr:G.trees=F.trees:=by rw[<-hG];rfl
 have grt: ∀t,G.root t=F.root t:=fun t=>by rw[<-hG];rfl
 refine⟨by rw[gtr];exact h.tr,fun x hx=>by rw[(all x).1];exact h.kd x hx,fun x hx k2=>?_,fun x hx k1=>?_,fun x j hx k2 hj=>?_,fun x hx k2=>?_,fun x j hx k2 hj=>?_,fun t htt=>?_,fun x hx kx=>?_,fun x hx kx=>?_,fun x hx k2=>?_,fun x hx k2 _=>?_,fun x hx k2 _ hu2=>?_⟩
 ·rw[(all x).1]at k2;by_cases c:x=n
  ·subst c;rw[gn,Tr.pB];have:=h.sz x hx k2;omega
  ·rw[go x c];exact h.sz x hx k2
 ·rw[(all x).1]at k1;by_cases c:x=n
  ·subst c;rw[n2]at k1;exact aZ k1 (by decide)
  ·rw[go x c];exact h.fz x hx k1
 ·rw[(all x).1]at k2;obtain⟨q,h1,h2,_⟩:=was x j k2 hj;rw[h2];exact h.nb x q hx k2 h1
 ·rw[(all x).1]at k2;by_cases c:x=n
  ·subst c;rw[gn];exact(h.dp x hx k2).dJ hi
  ·rw[go x c];exact h.dp x hx k2
 ·rw[(all x).1]at k2;obtain⟨q,h1,_,h3⟩:=was x j k2 hj;rw[h3,(all _).1,(all _).2.2.2.1,(all x).2.2.2.1,(all _).2.2.2.2];exact h.ki x q hx k2 h1
 ·rw[gtr]at htt;rw[grt,(all _).1,(all _).2.2.2.1,(all _).2.2.2.2];exact h.rt t htt
 ·rw[(all x).1]at kx;rw[(all x).2.1,bG];exact h.lk x hx kx
 ·rw[(all x).1]at kx;rw[(all x).2.1,(all x).2.2.1];exact h.al x hx kx
 ·rw[(all x).1]at k2;rw[bG];exact h.dr x hx k2
 ·rw[(all x).1]at k2;exact(h.en x hx k2).congr (fun y=>(all y).2.2.2.2)
 ·rw[(all x).1]at k2;rw[(all x).2.2.2.2]at hu2;obtain⟨t,h1,h2⟩:=h.ro x hx k2 hu2;grind
theorem Tr.wL {F G:Fo}{o:Nat}(h: ∀x,(G.nd x).up=(F.nd x).up): ∀m x,Tr.fO G o m x=Tr.fO F o m x
 |0,_=>rfl
 |m+1,x=>by
  show(x==o||(!((G.nd x).up==x)&&Tr.fO G o m (G.nd x).up))=(x==o||(!((F.nd x).up==x)&&Tr.fO F o m (F.nd x).up));rw[h x,Tr.wL h m]
theorem Tr.Ok.Io {F:Fo}(h:Tr.Ok F){z y E:Int}{s o:bU}{G:Fo}(hm:Tr.Ea F z s y o E G):Tr.Ok G:=by
 obtain⟨K,e,hf,⟨_,_,rfl⟩|⟨rfl,hm⟩⟩:=hm
 ·exact h
 rcases hm with⟨_,_,rfl⟩|⟨ey,hm⟩
 ·exact h
 rcases hm with⟨_,_,rfl⟩|⟨et,hm⟩
 ·exact h
 rcases hm with⟨_,_,rfl⟩|⟨hb,i,hpl,e2,hr,hm⟩
 ·exact h
 rcases hm with⟨_,_,rfl⟩|⟨rfl,_,rfl⟩
 ·exact h
 obtain⟨n,i',rfl,n40,n2,hp,hK⟩:=hf.ok;obtain⟨t,rfl,t40,_,t2⟩:=Tr.dY ey;rw[hU]at hb hpl hr et|-;rw[hU]at hr et|-;have ii:i=i':=by have:=hpl.unique hp;omega
 subst ii;have hi:=hp.lt;have hx:=h.forget n40 n2 hi;rw[<-hK]at hx;obtain⟨k40,kk0,ktr,_⟩:=h.ki n i n40 n2 hi;rw[<-hK]at k40 kk0 ktr;have al: ∀x,((F.put n (Tr.dJ (F.nd n) i)).nd x).kind=(F.nd x).kind/\((F.put n (Tr.dJ (F.nd n) i)).nd x).tree=(F.nd x).tree/\((F.put n (Tr.dJ (F.nd n) i)).nd x).up=(F.nd x).up:=fun x=>by
  by_cases c:x=n
  ·subst c;rw[Tr.ai];exact⟨rfl,rfl,rfl⟩
  ·rw[Tr.ao _ _ _ _ c];exact⟨rfl,rfl,rfl⟩
 have tk:t≠K:=fun c=>by subst c;rw[Tr.po]at hb;exact aZ hb (by decide)
 obtain⟨hnm,h8⟩:=hr.ok;refine hx.lead t40 k40 tk (by rw[(al t).1];exact t2) (by rw[(al K).1];exact kk0) ?_ hnm ?_ (by rw[(al K).2.1,(al t).2.1,ktr,et]) (fun _=>by rw[Tr.wL (fun x=>(al x).2.2)];exact hb)
 ·have:=hx.sz t t40 (by rw[(al t).1];exact t2);omega
 ·rcases hr with⟨_,q⟩|⟨_,⟨_,_,q⟩|⟨q,_⟩⟩
  ·exact aZ q (by decide)
  ·omega
  ·exact q
theorem Tr.Ok.Pd {F:Fo}(h:Tr.Ok F){y z E:Int}{s:bU}{G:Fo}(hm:Tr.zD F y z s E G):Tr.Ok G:=by
 rcases hm with⟨_,_,rfl⟩|⟨ey,e,hw,hm⟩
 ·exact h
 rcases hm with⟨_,_,rfl⟩|⟨rfl,hm⟩
 ·exact h
 rcases hm with⟨_,_,rfl⟩|⟨et,_,rfl⟩
 ·exact h
 obtain⟨k,rfl,k40,_,k1⟩:=Tr.dY ey;obtain⟨n,rfl,n40,n2,hnm,hp,h8⟩:=hw.ok;rw[hU,hU]at et|-;unfold Tr.xO;obtain⟨F',hF'⟩: ∃F',F.put k {F.nd k with bE:=(F.nd k).bE+1}=F':=⟨_,rfl⟩;rw[hF'];have nk:n≠k:=fun e=>by rw[e,k1]at n2;exact aZ n2 (by decide)
 have gk:F'.nd k={F.nd k with bE:=(F.nd k).bE+1}:=by rw[<-hF',Tr.ai]
 have go: ∀x,x≠k->F'.nd x=F.nd x:=fun x c=>by rw[<-hF',Tr.ao _ _ _ _ c]
 have al: ∀x,(F'.nd x).kind=(F.nd x).kind/\(F'.nd x).size=(F.nd x).size/\(F'.nd x).dz=(F.nd x).dz/\(F'.nd x).bO=(F.nd x).bO/\(F'.nd x).tree=(F.nd x).tree/\(F'.nd x).up=(F.nd x).up/\(F'.nd x).held=(F.nd x).held:=fun x=>by
  grind
 have hl: ∀x,(F'.nd x).bE=(F.nd x).bE+eJ k x:=fun x=>by
  by_cases c:x=k
  ·subst c;rw[gk,gF]
  ·rw[go x c,kC (bQ c)];rfl
 have bG: ∀x,Tr.bG F' x=Tr.bG F x:=fun x=>by
  rw[<-hF'];exact Tr.ie F k _ x k40 rfl
 have hx:Tr.Iy F' k:=by
  refine⟨by rw[<-hF'];exact h.tr,fun x hx=>by rw[(al x).1];exact h.kd x hx,fun x hx k2=>?_,fun x hx k1=>?_,fun x j hx k2 hj=>?_,fun x hx k2=>?_,fun x j hx k2 hj=>?_,fun t htt=>?_,fun x hx kx=>?_,fun x hx kx=>?_,fun x hx k2=>?_,fun x hx k2 _=>?_,fun x hx k2 _ hu2=>?_⟩
  ·rw[(al x).1]at k2;rw[(al x).2.1];exact h.sz x hx k2
  ·rw[(al x).1]at k1;rw[(al x).2.1];exact h.fz x hx k1
  ·rw[(al x).1]at k2;rw[(al x).2.1]at hj;rw[(al x).2.2.1];exact h.nb x j hx k2 hj
  ·rw[(al x).1]at k2;unfold Tr.Nodup;rw[(al x).2.1,(al x).2.2.1];exact h.dp x hx k2
  ·rw[(al x).1]at k2;rw[(al x).2.1]at hj;rw[(al x).2.2.2.1,(al _).1,(al _).2.2.2.2.1,(al x).2.2.2.2.1,(al _).2.2.2.2.2.1];exact h.ki x j hx k2 hj
  ·have a:=h.rt t (by rw[<-hF']at htt;exact htt);have e:F'.root t=F.root t:=by rw[<-hF'];rfl
   rw[e,(al _).1,(al _).2.2.2.2.1,(al _).2.2.2.2.2.1];exact a
  ·rw[(al x).1]at kx;rw[hl,bG,h.lk x hx kx]
  ·rw[(al x).1]at kx;rw[hl,(al x).2.2.2.2.2.2];have:=h.al x hx kx;omega
  ·rw[(al x).1]at k2;rw[bG,kC (fun e=>by rw[<-e,k1]at k2;exact aZ k2 (by decide)),Nat.add_zero];exact h.dr x hx k2
  ·rw[(al x).1]at k2;exact(h.en x hx k2).congr (fun y=>(al y).2.2.2.2.2.1)
  ·rw[(al x).1]at k2;rw[(al x).2.2.2.2.2.1]at hu2;obtain⟨t,h1,h2⟩:=h.ro x hx k2 hu2;exact⟨t,by rw[<-hF'];exact h1,by rw[<-hF'];exact h2⟩
 have n8:=h.sz n n40 n2;refine hx.lead n40 k40 nk (by rw[(al n).1];exact n2) (by rw[(al k).1,k1];decide) (by rw[(al n).2.1];omega) hnm (by rw[go n nk];exact hp) (by rw[(al k).2.2.2.2.1,(al n).2.2.2.2.1];exact et) (fun k2=>by rw[(al k).1,k1]at k2;exact aZ k2 (by decide))
theorem Tr.Ok.Dn {F G:Fo}(h:Tr.Ok F){k:Nat}(k0:(F.nd k).kind=0)(hu: ∀x,x≠k->(G.nd x).up=(F.nd x).up): ∀m x,x<40->(F.nd x).kind=2->Tr.fO G k m x=false
 |0,x,_,k2=>by
  show(x==k)=false;grind
 |m+1,x,hx,k2=>by
  have c:x≠k:=fun e=>by rw[e,k0]at k2;exact aZ k2 (by decide)
  show(x==k||(!((G.nd x).up==x)&&Tr.fO G k m (G.nd x).up))=false;rw[show(x==k)=false from by simpa using c,hu x c];by_cases d:(F.nd x).up=x
  ·rw[d];simp
  ·rcases Tr.K7 h.ki k2 (by rw[h.dr x hx k2];exact aL _)with⟨t,ht,e⟩|⟨i,h1,h2,_,_⟩
   ·have:=(h.rt t ht).2.2.1;rw[e]at this;exact aZ this d
   ·rw[Tr.Ok.Dn h k0 hu m _ h1 h2];simp
theorem Tr.Ok.Ou {F:Fo}(h:Tr.Ok F){z kz E:Int}{s:bU}{K:Nat}{G:Fo}(hm:Tr.rk F z s kz K E G):Tr.Ok G:=by
 rcases hm with⟨_,_,_,_,rfl⟩|⟨hkz,e,hw,hm⟩
 ·exact h
 rcases hm with⟨_,_,_,rfl⟩|⟨rfl,k,e2,hf,hm⟩
 ·exact h
 rcases hm with⟨_,_,_,rfl⟩|⟨rfl,_,_,rfl⟩
 ·exact h
 obtain⟨n,rfl,n40,n2,hnm,hp,h8⟩:=hw.ok;obtain⟨kd,hkd,hkd2⟩: ∃kd:Nat,kz.toNat=kd/\(kd=1\/kd=2):=⟨kz.toNat,rfl,by omega⟩;rw[hU,hkd];obtain⟨k40,k0⟩:k<40/\(F.nd k).kind=0:=by
  rcases hf with⟨_,h1,h2,_⟩|⟨h1,_⟩
  ·exact⟨h1,h2⟩
  ·omega
 unfold Tr.iS;obtain⟨F',hF'⟩: ∃F',F.put k (dS kd (F.nd n).tree 0)=F':=⟨_,rfl⟩;rw[hF'];have nk:n≠k:=fun e=>by rw[e,k0]at n2;exact aZ n2 (by decide)
 have gk:F'.nd k=dS kd (F.nd n).tree 0:=by rw[<-hF',Tr.ai]
 have go: ∀x,x≠k->F'.nd x=F.nd x:=fun x c=>by rw[<-hF',Tr.ao _ _ _ _ c]
 have bG: ∀x,Tr.bG F' x=Tr.bG F x:=fun x=>by
  rw[<-hF'];refine Tr.ie F k _ x k40 ?_;rw[Tr.yk (x:=F.nd k) x (by rw[k0];decide)];unfold Tr.fS;split<;>rfl
 have hc0:=h.none k0;have kne: ∀x i,x<40->(F.nd x).kind=2->i<(F.nd x).size->(F.nd x).bO i≠k:=(fun x i hx k2 hi=>(Tr.rT hc0).1 x i hx k2 hi);have rne: ∀t,t<F.trees->F.root t≠k:=(Tr.rT hc0).2;have sz0:(F'.nd k).size=0:=by rw[gk];rfl
 have hx:Tr.Iy F' k:=by
  refine⟨by rw[<-hF'];exact h.tr,fun x hx=>?_,fun x hx k2=>?_,fun x hx k1=>?_,fun x j hx k2 hj=>?_,fun x hx k2=>?_,fun x j hx k2 hj=>?_,fun t htt=>?_,fun x hx kx=>?_,fun x hx kx=>?_,fun x hx k2=>?_,fun x hx k2 c=>?_,fun x hx k2 c hu2=>?_⟩
  ·by_cases c:x=k
   ·subst c;rw[gk];show kd<=2;omega
   ·rw[go x c];exact h.kd x hx
  ·by_cases c:x=k
   ·grind
   ·rw[go x c]at k2|-;exact h.sz x hx k2
  ·by_cases c:x=k
   ·subst c;rw[sz0];exact aC _
   ·rw[go x c]at k1|-;exact h.fz x hx k1
  ·by_cases c:x=k
   ·subst c;rw[sz0]at hj;omega
   ·rw[go x c]at k2 hj|-;exact h.nb x j hx k2 hj
  ·by_cases c:x=k
   ·subst c;intro a b _ hb;rw[sz0]at hb;omega
   ·rw[go x c]at k2|-;exact h.dp x hx k2
  ·by_cases c:x=k
   ·subst c;rw[sz0]at hj;omega
   ·rw[go x c]at k2 hj|-;rw[go _ (kne x j hx k2 hj)];exact h.ki x j hx k2 hj
  ·have htt':t<F.trees:=by rw[<-hF']at htt;exact htt
   have e:F'.root t=F.root t:=by rw[<-hF'];rfl
   rw[e,go _ (rne t htt')];exact h.rt t htt'
  ·by_cases c:x=k
   ·subst c;rw[gk,bG,hc0,gF];rfl
   ·rw[go x c]at kx|-;rw[bG,kC (bQ c)];exact h.lk x hx kx
  ·by_cases c:x=k
   ·subst c;rw[gk];show 1<=1+0;omega
   ·rw[go x c]at kx|-;exact h.al x hx kx
  ·by_cases c:x=k
   ·subst c;rw[bG,hc0,gF]
   ·rw[go x c]at k2;rw[bG,kC (bQ c)];exact h.dr x hx k2
  ·rw[go x c]at k2;exact(h.en x hx k2).zq (k:=k) (fun y d=>by rw[go y d]) (h.Dn k0 (fun _ _=>rfl) 40 x hx k2)
  ·rw[go x c]at k2 hu2;obtain⟨t,h1,h2⟩:=h.ro x hx k2 hu2;exact⟨t,by rw[<-hF'];exact h1,by rw[<-hF'];exact h2⟩
 have n8:=h.sz n n40 n2;refine hx.lead n40 k40 nk (by rw[go n nk];exact n2) (by rw[gk];show kd≠0;omega) (by rw[go n nk];omega) hnm (by rw[go n nk];exact hp) (by rw[gk,go n nk];rfl) (fun _=>h.Dn k0 (fun y d=>by rw[go y d]) 40 n n40 n2)
theorem Tr.Ok.dc {F:Fo}(h:Tr.Ok F)(z:Int):Tr.Ok (Tr.dc F z):=by
 unfold Tr.dc;split
 ·rename_i c;obtain⟨n,rfl,n40,_⟩:=Tr.fW c;exact h.put n _ n40 rfl rfl rfl rfl (fun _=>⟨rfl,rfl,rfl⟩) (fun k1=>h.fz n n40 k1) (fun k0=>by show 1<=(F.nd n).bE+((F.nd n).held+1);omega)
 ·exact h
theorem Tr.erase {F:Fo}{k:Nat}(hk:k<40)(tr:F.trees<=4)(kd: ∀n,n<40->(F.nd n).kind<=2)(sz:Tr.jD F)(fz:Tr.sY F)
  (nb: ∀n i,n<40->(F.nd n).kind=2->i<(F.nd n).size->Tr.eX ((F.nd n).dz i)=true)
  (dp: ∀n,n<40->(F.nd n).kind=2->Tr.Nodup (F.nd n))
  (ki: ∀n i,n<40->(F.nd n).kind=2->i<(F.nd n).size->(F.nd n).bO i<40/\(F.nd ((F.nd n).bO i)).kind≠0/\(F.nd ((F.nd n).bO i)).tree=(F.nd n).tree/\((F.nd ((F.nd n).bO i)).kind=2->(F.nd ((F.nd n).bO i)).up=n))
  (rt: ∀t,t<F.trees->F.root t<40/\(F.nd (F.root t)).kind=2/\(F.nd (F.root t)).up=F.root t/\(F.nd (F.root t)).tree=t)
  (lk: ∀n,n<40->(F.nd n).kind≠0->n≠k->(F.nd n).bE=Tr.bG F n)
  (al: ∀n,n<40->(F.nd n).kind≠0->n≠k->1<=(F.nd n).bE+(F.nd n).held)
  (dr: ∀n,n<40->(F.nd n).kind=2->n≠k->Tr.bG F n=1)
  (en: ∀n,n<40->(F.nd n).kind=2->n≠k->Tr.cJ F 40 n)
  (ro: ∀n,n<40->(F.nd n).kind=2->n≠k->(F.nd n).up=n-> ∃t,t<F.trees/\F.root t=n)
  (c0:Tr.bG F k=0) (z0:(F.nd k).kind=2->(F.nd k).size=0):Tr.Ok (F.put k Nd.no):=by
 obtain⟨G,hG⟩:=nJ (F.put k Nd.no);rw[hG];have gk:G.nd k=Nd.no:=by rw[<-hG,Tr.ai]
 have gk0:(G.nd k).kind=0:=by rw[gk];rfl
 have go: ∀x,x≠k->G.nd x=F.nd x:=fun x c=>by rw[<-hG,Tr.ao _ _ _ _ c]
 have bG: ∀x,Tr.bG G x=Tr.bG F x:=fun x=>by
  rw[<-hG];refine Tr.ie F k _ x hk ?_;rw[Tr.yk (x:=Nd.no) x (by decide)];unfold Tr.fS;split
  ·rename_i c;rw[z0 c];rfl
  ·rfl
 obtain⟨kne,rne⟩:=Tr.rT c0;have n2: ∀{x},(G.nd x).kind=2->x≠k:=fun{x} k2 c=>by subst c;rw[gk0]at k2;exact aZ k2 (by decide)
 have n0: ∀{x},(G.nd x).kind≠0->x≠k:=fun{x} kx c=>by subst c;exact kx gk0
 refine⟨by rw[<-hG];exact tr,fun x hx=>?_,fun x hx k2=>?_,fun x hx k1=>?_,fun x j hx k2 hj=>?_,fun x hx k2=>?_,fun x j hx k2 hj=>?_,fun t htt=>?_,fun x hx kx=>?_,fun x hx kx=>?_,fun x hx k2=>?_,fun x hx k2=>?_,fun x hx k2 hu2=>?_⟩
 ·by_cases c:x=k
  ·subst c;rw[gk0];exact aC _
  ·rw[go x c];exact kd x hx
 ·have c:=n2 k2;rw[go x c]at k2|-;exact sz x hx k2
 ·have c:x≠k:=fun e=>by subst e;rw[gk0]at k1;exact aZ k1 (by decide)
  rw[go x c]at k1|-;exact fz x hx k1
 ·have c:=n2 k2;rw[go x c]at k2 hj|-;exact nb x j hx k2 hj
 ·have c:=n2 k2;rw[go x c]at k2|-;exact dp x hx k2
 ·grind
 ·have htt':t<F.trees:=by rw[<-hG]at htt;exact htt
  have e:G.root t=F.root t:=by rw[<-hG];rfl
  rw[e,go _ (rne t htt')];exact rt t htt'
 ·have c:=n0 kx;rw[go x c]at kx|-;rw[bG];exact lk x hx kx c
 ·have c:=n0 kx;rw[go x c]at kx|-;exact al x hx kx c
 ·have c:=n2 k2;rw[go x c]at k2;rw[bG];exact dr x hx k2 c
 ·have c:=n2 k2;rw[go x c]at k2;refine Tr.cJ.on (F:=F) (G:=G) (fun y=>y<40/\(F.nd y).kind=2/\y≠k) (fun y hy=>?_) ⟨hx,k2,c⟩ (en x hx k2 c);refine⟨by rw[go y hy.2.2],?_⟩;rcases Tr.K7 ki hy.2.1 (by rw[dr y hy.1 hy.2.1 hy.2.2];exact aL _)with⟨t,ht,e⟩|⟨i,h1,h2,h3,_⟩
  ·have:=(rt t ht).2.2.1;rw[e]at this;rw[this];exact hy
  ·refine⟨h1,h2,fun e=>?_⟩;rw[e]at h2 h3;rw[z0 h2]at h3;omega
 ·have c:=n2 k2;rw[go x c]at k2 hu2;obtain⟨t,h1,h2⟩:=ro x hx k2 c hu2;exact⟨t,by rw[<-hG];exact h1,by rw[<-hG];exact h2⟩
theorem Tr.Ok.cZ {F:Fo}(h:Tr.Ok F)(z:Int):Tr.Ok (Tr.cZ F z):=by
 unfold Tr.cZ;split
 ·rename_i c;have c1:Tr.bh F z=0:=by
   rcases Classical.em (Tr.bh F z=0)with d|d
   ·exact d
   ·unfold Tr.letE at c;rw[aI d]at c;exact c
  obtain⟨n,rfl,n40,k0⟩:=Tr.fW c1;unfold Tr.letE at c;rw[aJ c1,hU]at c;unfold Tr.kV;rw[Tr.ai];split
  ·rename_i d;have d1:(F.nd n).bE=0:=d.1;rw[Tr.fD];have c0:Tr.bG F n=0:=by rw[<-h.lk n n40 k0];exact d1
   refine Tr.erase n40 h.tr h.kd h.sz h.fz h.nb h.dp h.ki h.rt (fun x hx kx _=>h.lk x hx kx) (fun x hx kx _=>h.al x hx kx) (fun x hx k2 _=>h.dr x hx k2) (fun x hx k2 _=>h.en x hx k2) (fun x hx k2 _ u=>h.ro x hx k2 u) c0 (fun k2=>?_);have:=h.dr n n40 k2;omega
  ·rename_i d;refine h.put n _ n40 rfl rfl rfl rfl (fun _=>⟨rfl,rfl,rfl⟩) (fun k1=>h.fz n n40 k1) (fun _=>?_);grind
 ·exact h
theorem Tr.Ok.rem {F:Fo}(h:Tr.Ok F){z E:Int}{s:bU}{G:Fo}(hm:Tr.wX F z s E G):Tr.Ok G:=by
 obtain⟨k,e,hf,⟨_,_,rfl⟩|⟨rfl,hm⟩⟩:=hm
 ·exact h
 rcases hm with⟨_,_,_,rfl⟩|⟨nbz,_,i,hpl,rfl⟩
 ·exact h
 obtain⟨n,i',rfl,n40,n2,hp,hK⟩:=hf.ok;rw[hU]at hpl|-;have ii:i=i':=by have:=hpl.unique hp;omega
 subst ii;have hi:=hp.lt;have hx:=h.forget n40 n2 hi;rw[<-hK]at hx;obtain⟨k40,kk0,_,_⟩:=h.ki n i n40 n2 hi;rw[<-hK]at k40 kk0;have nk:k≠n:=fun e=>nbz ⟨by rw[e];exact n2, .inl (by rw[e];omega)⟩;unfold Tr.uS;obtain⟨F1,hF1⟩:=nJ (F.put n (Tr.dJ (F.nd n) i));rw[hF1]at hx|-;have gk:F1.nd k=F.nd k:=by rw[<-hF1,Tr.ao _ _ _ _ nk]
 have hl:=hx.lk k k40 (by rw[gk];exact kk0);rw[gF,gk]at hl;have one: ∀x,x≠k->eJ k x=0:=fun x c=>kC (bQ c);unfold Tr.kV;rw[Tr.ai];split
 ·rename_i d;have d1:(F.nd k).bE-1=0:=d.1;rw[Tr.fD];refine Tr.erase k40 hx.tr hx.kd hx.sz hx.fz hx.nb hx.dp hx.ki hx.rt (fun x hxx kx c=>by have:=hx.lk x hxx kx;rw[one x c]at this;exact this) (fun x hxx kx _=>hx.al x hxx kx) (fun x hxx k2 c=>by have:=hx.dr x hxx k2;rw[one x c]at this;exact this) hx.en hx.ro (by omega) (fun k2=>?_);grind
 ·rename_i d;have d': ¬((F.nd k).bE-1=0/\(F1.nd k).held=0):=d;rw[gk]at d';have k1:(F.nd k).kind≠2:=fun k2=>by
   have b:=hx.dr k k40 (by rw[gk];exact k2);rw[gF]at b;rcases Nat.eq_zero_or_pos (F.nd k).held with q|q
   ·exact d' ⟨by omega,q⟩
   ·exact nbz ⟨k2, .inr q⟩
  obtain⟨G,hG⟩:=nJ (F1.put k {F1.nd k with bE:=(F.nd k).bE-1});rw[hG];have go: ∀x,x≠k->G.nd x=F1.nd x:=fun x c=>by rw[<-hG,Tr.ao _ _ _ _ c]
  have al: ∀x,(G.nd x).kind=(F1.nd x).kind/\(G.nd x).size=(F1.nd x).size/\(G.nd x).dz=(F1.nd x).dz/\(G.nd x).bO=(F1.nd x).bO/\(G.nd x).tree=(F1.nd x).tree/\(G.nd x).up=(F1.nd x).up/\(G.nd x).held=(F1.nd x).held:=fun x=>by
   by_cases c:x=k
   ·subst c;rw[<-hG,Tr.ai];exact⟨rfl,rfl,rfl,rfl,rfl,rfl,rfl⟩
   ·rw[go x c];exact⟨rfl,rfl,rfl,rfl,rfl,rfl,rfl⟩
  have gkl:(G.nd k).bE=(F.nd k).bE-1:=by rw[<-hG,Tr.ai]
  have bG: ∀x,Tr.bG G x=Tr.bG F1 x:=fun x=>by
   rw[<-hG];exact Tr.ie F1 k _ x k40 rfl
  refine⟨by rw[<-hG];exact hx.tr,fun x hxx=>by rw[(al x).1];exact hx.kd x hxx,fun x hxx k2=>?_,fun x hxx k1=>?_,fun x j hxx k2 hj=>?_,fun x hxx k2=>?_,fun x j hxx k2 hj=>?_,fun t htt=>?_,fun x hxx kx=>?_,fun x hxx kx=>?_,fun x hxx k2=>?_,fun x hxx k2=>?_,fun x hxx k2 hu2=>?_⟩
  ·rw[(al x).1]at k2;rw[(al x).2.1];exact hx.sz x hxx k2
  ·rw[(al x).1]at k1;rw[(al x).2.1];exact hx.fz x hxx k1
  ·rw[(al x).1]at k2;rw[(al x).2.1]at hj;rw[(al x).2.2.1];exact hx.nb x j hxx k2 hj
  ·rw[(al x).1]at k2;unfold Tr.Nodup;rw[(al x).2.1,(al x).2.2.1];exact hx.dp x hxx k2
  ·rw[(al x).1]at k2;rw[(al x).2.1]at hj;rw[(al x).2.2.2.1,(al _).1,(al _).2.2.2.2.1,(al x).2.2.2.2.1,(al _).2.2.2.2.2.1];exact hx.ki x j hxx k2 hj
  ·have a:=hx.rt t (by rw[<-hG]at htt;exact htt);have e:G.root t=F1.root t:=by rw[<-hG];rfl
   rw[e,(al _).1,(al _).2.2.2.2.1,(al _).2.2.2.2.2.1];exact a
  ·rw[(al x).1]at kx;rw[bG];by_cases c:x=k
   ·subst c;rw[gkl];omega
   ·rw[go x c];have:=hx.lk x hxx kx;rw[one x c]at this;exact this
  ·rw[(al x).1]at kx;by_cases c:x=k
   ·subst c;rw[gkl,(al x).2.2.2.2.2.2,gk];omega
   ·rw[go x c];exact hx.al x hxx kx
  ·rw[(al x).1]at k2;rw[bG];have c:x≠k:=fun e=>by rw[e,gk]at k2;exact k1 k2
   have:=hx.dr x hxx k2;rw[one x c]at this;exact this
  ·rw[(al x).1]at k2;have c:x≠k:=fun e=>by rw[e,gk]at k2;exact k1 k2
   exact(hx.en x hxx k2 c).congr (fun y=>(al y).2.2.2.2.2.1)
  ·rw[(al x).1]at k2;rw[(al x).2.2.2.2.2.1]at hu2;have c:x≠k:=fun e=>by rw[e,gk]at k2;exact k1 k2
   obtain⟨t,h1,h2⟩:=hx.ro x hxx k2 c hu2;exact⟨t,by rw[<-hG];exact h1,by rw[<-hG];exact h2⟩
theorem Tr.Ok.Lw {F:Fo}(h:Tr.Ok F){T:Nat}{E:Int}{G:Fo}(hm:Tr.tJ F T E G):Tr.Ok G:=by
 rcases hm with⟨_,_,_,rfl⟩|⟨t4,n,e,hf,hm⟩
 ·exact h
 rcases hm with⟨_,_,_,rfl⟩|⟨rfl,_,_,rfl⟩
 ·exact h
 obtain⟨n40,k0⟩:n<40/\(F.nd n).kind=0:=by
  rcases hf with⟨_,h1,h2,_⟩|⟨h1,_⟩
  ·exact⟨h1,h2⟩
  ·omega
 obtain⟨G,hG⟩:=nJ (Tr.xZ F n);rw[hG];have gk:G.nd n=dS 2 F.trees n:=by rw[<-hG];exact Tr.ai F n _
 have go: ∀x,x≠n->G.nd x=F.nd x:=fun x c=>by rw[<-hG];exact Tr.ao F n _ x c
 have gtr:G.trees=F.trees+1:=by rw[<-hG];rfl
 have gro: ∀t,t<F.trees->G.root t=F.root t:=fun t ht=>by rw[<-hG];exact sP _ _ _ _ (by omega)
 have grn:G.root F.trees=n:=by rw[<-hG];exact oJ _ _ _
 have hc0:=h.none k0;obtain⟨kne,rne⟩:=Tr.rT hc0;have bG: ∀x,Tr.bG G x=Tr.bG F x+eJ n x:=fun x=>by
  have a:Tr.bG (F.put n (dS 2 F.trees n)) x=Tr.bG F x:=by
   refine Tr.ie F n _ x n40 ?_;rw[Tr.yk (x:=F.nd n) x (by rw[k0];decide)];rfl
  have b:Tr.nR G x=Tr.nR F x+eJ n x:=by
   unfold Tr.nR;rw[gtr];show e9 (fun t=>eJ (G.root t) x) F.trees+eJ (G.root F.trees) x=_;rw[grn,lY (fun t ht=>by rw[gro t ht])]
  have c:e9 (fun m=>Tr.fS (G.nd m) x) 40=e9 (fun m=>Tr.fS ((F.put n (dS 2 F.trees n)).nd m) x) 40:=by rw[<-hG];rfl
  have d:Tr.nR (F.put n (dS 2 F.trees n)) x=Tr.nR F x:=rfl;unfold Tr.bG at a|-;omega
 have sz0:(G.nd n).size=0:=by rw[gk];rfl
 have h4:=h.tr;refine⟨by rw[gtr];omega,fun x hx=>?_,fun x hx k2=>?_,fun x hx k1=>?_,fun x j hx k2 hj=>?_,fun x hx k2=>?_,fun x j hx k2 hj=>?_,fun t htt=>?_,fun x hx kx=>?_,fun x hx kx=>?_,fun x hx k2=>?_,fun x hx k2=>?_,fun x hx k2 hu2=>?_⟩
 ·by_cases c:x=n
  ·subst c;rw[gk];exact aL _
  ·rw[go x c];exact h.kd x hx
 ·by_cases c:x=n
  ·subst c;rw[sz0];exact aC _
  ·rw[go x c]at k2|-;exact h.sz x hx k2
 ·by_cases c:x=n
  ·subst c;rw[sz0];exact aC _
  ·rw[go x c]at k1|-;exact h.fz x hx k1
 ·by_cases c:x=n
  ·subst c;rw[sz0]at hj;omega
  ·rw[go x c]at k2 hj|-;exact h.nb x j hx k2 hj
 ·by_cases c:x=n
  ·subst c;intro a b _ hb;rw[sz0]at hb;omega
  ·rw[go x c]at k2|-;exact h.dp x hx k2
 ·by_cases c:x=n
  ·subst c;rw[sz0]at hj;omega
  ·rw[go x c]at k2 hj|-;rw[go _ (kne x j hx k2 hj)];exact h.ki x j hx k2 hj
 ·rw[gtr]at htt;by_cases c:t=F.trees
  ·subst c;rw[grn,gk];exact⟨n40,rfl,rfl,rfl⟩
  ·rw[gro t (by omega),go _ (rne t (by omega))];exact h.rt t (by omega)
 ·by_cases c:x=n
  ·subst c;rw[gk,bG,hc0,gF];rfl
  ·rw[go x c]at kx|-;rw[bG,kC (bQ c)];exact h.lk x hx kx
 ·by_cases c:x=n
  ·subst c;rw[gk];show 1<=1+0;omega
  ·rw[go x c]at kx|-;exact h.al x hx kx
 ·by_cases c:x=n
  ·subst c;rw[bG,hc0,gF]
  ·rw[go x c]at k2;rw[bG,kC (bQ c)];exact h.dr x hx k2
 ·by_cases c:x=n
  ·subst c;exact Tr.cJ.Fw (m:=0) ⟨n40,by rw[gk];rfl⟩
  ·rw[go x c]at k2;exact(h.en x hx k2).zq (k:=n) (fun y d=>by rw[go y d]) (h.Dn k0 (fun _ _=>rfl) 40 x hx k2)
 ·by_cases c:x=n
  ·exact⟨F.trees,by rw[gtr];omega,by rw[grn,c]⟩
  ·rw[go x c]at k2 hu2;obtain⟨t,h1,h2⟩:=h.ro x hx k2 hu2;grind
