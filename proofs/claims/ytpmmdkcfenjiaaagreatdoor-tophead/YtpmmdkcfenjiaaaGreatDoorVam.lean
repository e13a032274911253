import Derived.Test.YtpmmdkcfenjiaaaGreatDoorVal
namespace Go.Proofs.YtpmmdkcfenjiaaaGreatDoor
open Bd (P)
namespace Bd
theorem F9 {b:P}(h:Inv b){i j:Nat}(hi:i<64)(ho:2<=b.ord i)(hti:b.tk i=false)(hj:j<64)(ht:b.tk j=true):(half b i).ord j=b.ord j:=by
 obtain⟨k,hk⟩: ∃k,b.ord i=k+1:=⟨b.ord i-1,by omega⟩;have hs:=mH (k:=k) (by omega);have sp:=qq k;have j0:=h.tk j hj ht;have ou:=h.own i (i+sz k) hi (by omega) (by omega) (by rw[hk,hs];omega);unfold half up;show(if j=i+sz (b.ord i-1)then b.ord i-1 else if j=i then b.ord i-1 else b.ord j)=b.ord j;rw[hk,aP,aI (fun c=>by rw[<-c]at ou;omega),aI (fun c=>by rw[c,hti]at ht;cases ht)]
theorem Ef {i j:Nat}(hi:i<64)(hj:j<64): ∀n {b:P},n<b.ord i->Inv b->b.tk i=false->NB b i->b.tk j=true->(parts b i n).ord j=b.ord j:=by
 intro n
 induction n with
 |zero=>intro b _ _ _ _ _;rfl
 |succ n ih=>
  intro b hn h1 h2 h3 h4;have a:=h1.half hi (by omega) h2;have:=ih (b:=half b i) (by rw[a.2.1];omega) a.1 (by rw[a.2.2];exact h2) (h3.half h1 hi (by omega)) (by rw[a.2.2];exact h4);show(parts (half b i) i n).ord j=_;rw[this,F9 h1 hi (by omega) h2 hj h4]
theorem wD {b:P}(h:Inv b)(n:NB b 64){o i j:Nat}(k:xS b o i)(hj:j<64)(ht:b.tk j=true):(jr b o i).ord j=b.ord j:=
 Ef k.lt hj _ (by have:=k.ord;omega) h k.tk (n.but h i) ht
theorem Fv {j:Nat}: ∀(n:Nat) {b:P} {i:Nat},i<64->0<b.ord i->b.tk i=false->Inv b->b.tk j=true->(mT b i n).ord j=b.ord j:=by
 intro n
 induction n with
 |zero=>intro b i _ _ _ _ _;rfl
 |succ n ih=>
  intro b i hi h0 h2 h1 ht;show(if eV b i=true then _ else b).ord j=b.ord j;by_cases c:eV b i=true
  ·rw[aJ c];unfold eV at c;simp only[Bool.and_eq_true,decide_eq_true_eq,Bool.not_eq_true']at c;have a:=h1.join hi h0 c.1 h2 c.2.1 c.2.2;rw[ih (b:=join b (min i (bT i (sz (b.ord i)))) (max i (bT i (sz (b.ord i))))) a.2.1 (by rw[a.2.2.1];omega) a.2.2.2 a.1 ht];have nf:j≠bT i (sz (b.ord i)):=fun e=>by rw[e,c.2.2]at ht;cases ht
   have ni:j≠i:=fun e=>by rw[e,h2]at ht;cases ht
   show(if j=min i (bT i (sz (b.ord i)))then _ else if j=max i (bT i (sz (b.ord i)))then 0 else b.ord j)=b.ord j;rw[aI (by omega),aI (by omega)]
  ·rw[aI c]
theorem EB {b:P}(h:Inv b){i j:Nat}(hi:i<64)(hti:b.tk i=true)(hji:j≠i)(ht:b.tk j=true):(ji b i).ord j=b.ord j:=by
 have g:=h.tk i hi hti;have:=Fv (j:=j) 7 (b:={b with tk:=lZ b.tk i false}) (i:=i) hi g (by show(if i=i then false else b.tk i)=false;rw[aJ rfl]) ⟨h.le,h.al,h.own,h.Af,fun x hx hx0=>by
  have:(if x=i then false else b.tk x)=true:=hx0;by_cases c:x=i
  ·rw[aJ c]at this;cases this
  ·rw[aI c]at this;exact h.tk x hx this⟩ (by show(if j=i then false else b.tk j)=true;rw[aI hji];exact ht)
 exact this
def OS (p:P)(f:Nat->Int):Prop:= ∀i,i<64->f i=if p.tk i=true then(p.ord i:Int)else 0
theorem OS.take {p:P}{f:Nat->Int}(h:OS p f)(hI:Inv p)(hN:NB p 64){o i:Nat}(k:xS p o i):OS (jr p o i) (N7 f i ((o:Int)+1)):=fun j hj=>by
 have t:=hI.jr hN k;unfold N7;by_cases c:j=i
 ·subst c;rw[aJ rfl,aJ t.2.2.2.1,t.2.2.1];omega
 ·rw[aI c,t.2.2.2.2.2 j c,h j hj];by_cases d:p.tk j=true
  ·rw[aJ d,aJ d,wD hI hN k hj d]
  ·rw[aI d,aI d]
end Bd
open Mv (Me Bk)
namespace Mv
def one (a b:Nat):Nat:=if a=b+1 then 1 else 0
theorem Jk (fr:Nat->Nat)(f i v:Nat): ∀n,dH (iX fr i v) f n+(if i<n then one (fr i) f else 0)=dH fr f n+(if i<n then one v f else 0):=by
 intro n
 induction n with
 |zero=>rfl
 |succ n ih=>
  show dH (iX fr i v) f n+one (iX fr i v n) f+(if i<n+1 then one (fr i) f else 0)=dH fr f n+one (fr n) f+(if i<n+1 then one v f else 0);by_cases c:n=i
  ·subst c;rw[aI (bV n),aI (bV n)]at ih;rw[aJ (Nat.lt_succ_self n),aJ (Nat.lt_succ_self n),show iX fr n v n=v from aJ rfl];omega
  ·rw[show iX fr i v n=fr n from aI c];by_cases d:i<n
   ·have d2:i<n+1:=by omega
    rw[aJ d,aJ d]at ih;rw[aJ d2,aJ d2];omega
   ·have d2: ¬i<n+1:=by omega
    rw[aI d,aI d]at ih;rw[aI d2,aI d2];omega
def nH (me:Nat->Me)(f:Nat):Nat->Nat
 |0=>0
 |i+1=>nH me f i+dH (me i).fr f 16
def jc (me:Nat->Me)(i:Nat)(m:Me):Nat->Me:=fun j=>if j=i then m else me j
theorem fp (me:Nat->Me)(i:Nat)(m:Me):jc me i m i=m:=aJ rfl
theorem ic (me:Nat->Me)(i:Nat)(m:Me)(j:Nat)(h:j≠i):jc me i m j=me j:=aI h
theorem CZ (me:Nat->Me)(f i:Nat)(m:Me): ∀n,nH (jc me i m) f n+(if i<n then dH (me i).fr f 16 else 0)=nH me f n+(if i<n then dH m.fr f 16 else 0):=by
 intro n
 induction n with
 |zero=>rfl
 |succ n ih=>
  show nH (jc me i m) f n+dH (jc me i m n).fr f 16+_=nH me f n+dH (me n).fr f 16+_;by_cases c:n=i
  ·subst c;rw[aI (by omega),aI (by omega)]at ih;rw[fp,aJ (by omega),aJ (by omega)];omega
  ·rw[ic _ _ _ _ c];by_cases d:i<n
   ·rw[aJ d,aJ d]at ih;rw[aJ (by omega),aJ (by omega)];omega
   ·rw[aI d,aI d]at ih;rw[aI (by omega),aI (by omega)];omega
theorem OW (me:Nat->Me)(f n:Nat):nH me f n<=16*n:=by
 induction n with
 |zero=>exact aL 0
 |succ n ih=>show nH me f n+dH _ f 16<=_;have:=CE (me n).fr f 16;omega
theorem NZ (me:Nat->Me)(f:Nat){i n:Nat}(h:i<n):dH (me i).fr f 16<=nH me f n:=by
 induction n with
 |zero=>omega
 |succ n ih=>
  show _<=nH me f n+dH (me n).fr f 16;by_cases c:i=n
  ·subst c;omega
  ·have:=ih (by omega);omega
theorem GO {me me':Nat->Me}(f:Nat): ∀n,(∀i,i<n-> ∀x,x<16->(me' i).fr x=(me i).fr x)->nH me' f n=nH me f n:=by
 intro n
 induction n with
 |zero=>intro _;rfl
 |succ n ih=>
  intro h;show nH me' f n+dH _ f 16=nH me f n+dH _ f 16;rw[ih (fun i hi=>h i (by omega)),nZ (h n (by omega))]
structure eZ (k:Bk)(N:Nat)(me:Nat->Me):Prop where
 inv:Bd.Inv k.cq
 nb:Bd.NB k.cq 64
 n8:N<=20
 le: ∀i,i<N-> ∀n,n<16->(me i).fr n<=64
 ref: ∀f,f<64->k.refs f=nH me f N
 tk: ∀f,f<64->(k.cq.tk f=true↔1<=k.refs f)
 one: ∀f,f<64->k.cq.tk f=true->k.cq.ord f=1
section
variable {k k' : Bk} {N : Nat} {me me' : Nat -> Me}
theorem eZ.refl (h:eZ k N me)(f:Nat)(hf:f<64):k.refs f<=320:=by rw[h.ref f hf];have:=OW me f N;have:=h.n8;omega
theorem eZ.bG (h:eZ k N me){i:Nat}(hi:i<N):xp (me i) k:=⟨h.inv,h.nb,h.le i hi,fun f hf=>⟨by rw[h.ref f hf];exact NZ me f hi,by have:=h.refl f hf;omega⟩⟩
theorem eZ.held (h:eZ k N me){i n:Nat}(hi:i<N)(hn:n<16)(c:(me i).fr n≠0):1<=k.refs ((me i).fr n-1):=by
 have l:=h.le i hi n hn;have a:=(h.bG hi).bG ((me i).fr n-1) (by omega);have b:=Ak (fr:=(me i).fr) (f:=(me i).fr n-1) (n:=16) hn (by omega);omega
theorem eZ.OQ (h:eZ k N me){i:Nat}(hi:i<N):pA (me i) k:=⟨h.inv,h.nb,h.le i hi,fun n hn c=>⟨h.held hi hn c,by have l:=h.le i hi n hn;have:=h.refl ((me i).fr n-1) (by omega);omega⟩,fun f hf c=>(h.tk f hf).2 c⟩
theorem eZ.congr (h:eZ k N me)(e: ∀i,i<N-> ∀x,x<16->(me' i).fr x=(me i).fr x):eZ k N me':=⟨h.inv,h.nb,h.n8,fun i hi n hn=>by rw[e i hi n hn];exact h.le i hi n hn,fun f hf=>by rw[h.ref f hf,GO f N e],h.tk,h.one⟩
theorem eZ.jE (h:eZ k N me){i n v:Nat}(hi:i<N)(hn:n<16)(hv:v<=64)(inv:Bd.Inv k'.cq)(nb:Bd.NB k'.cq 64)
  (hr: ∀f,f<64->k'.refs f+Mv.one ((me i).fr n) f=k.refs f+Mv.one v f) (ht: ∀f,f<64->(k'.cq.tk f=true↔1<=k'.refs f)) (ho: ∀f,f<64->k'.cq.tk f=true->k'.cq.ord f=1):
  eZ k' N (jc me i {(me i)with fr:=iX (me i).fr n v}):=by
 refine⟨inv,nb,h.n8,fun j hj x hx=>?_,fun f hf=>?_,ht,ho⟩
 ·by_cases c:j=i
  ·subst c;rw[fp];show(if x=n then v else(me j).fr x)<=64;split
   ·exact hv
   ·exact h.le j hj x hx
  ·rw[ic _ _ _ _ c];exact h.le j hj x hx
 ·have a:=CZ me f i {(me i)with fr:=iX (me i).fr n v} N;rw[aJ hi,aJ hi]at a;have b:=Jk (me i).fr f n v 16;rw[aJ hn,aJ hn]at b;have c:=hr f hf;have d:=h.ref f hf;have e:({(me i)with fr:=iX (me i).fr n v}:Me).fr=iX (me i).fr n v:=rfl;rw[e]at a;omega
theorem eZ.drop (h:eZ k N me){i n v:Nat}(hi:i<N)(hn:n<16)(hv:(me i).fr n=v+1):eZ (je k v) N (jc me i {(me i)with fr:=iX (me i).fr n 0}):=by
 have l:=h.le i hi n hn;have hd:=h.held hi hn (by omega);rw[hv,aP]at hd;have v64:v<64:=by omega
 have tv:=(h.tk v v64).2 hd;have ip:Bd.Inv (je k v).cq/\Bd.NB (je k v).cq 64:=by
  show Bd.Inv (if _ then _ else _)/\Bd.NB (if _ then _ else _) 64;split
  ·exact h.inv.NF h.nb _
  ·exact⟨h.inv,h.nb⟩
 have er: ∀f,(je k v).refs f=if f=v then k.refs v-1 else k.refs f:=fun f=>rfl;have eg:Bd.jN k.cq (v:Int)=Bd.ji k.cq v:=by
  unfold Bd.jN Bd.gw;rw[aI (by omega: ¬((v:Int)<0\/63<(v:Int))),hU,aJ tv,aJ rfl]
 have gb:=h.inv.ji h.nb v64 tv;refine h.jE hi hn (by omega) ip.1 ip.2 (fun f hf=>?_) (fun f hf=>?_) (fun f hf=>?_)
 ·rw[er,hv];unfold Mv.one;by_cases c:f=v
  ·subst c;rw[aJ rfl,aJ rfl,aI (by omega)];omega
  ·rw[aI c,aI (by omega),aI (by omega)]
 ·rw[er];show(if k.refs v=1 then Bd.jN k.cq v else k.cq).tk f=true↔_;by_cases r1:k.refs v=1
  ·rw[aJ r1,eg,gb.2.2];show(if f=v then false else k.cq.tk f)=true↔_;by_cases c:f=v
   ·rw[aJ c,aJ c];constructor
    ·intro d;cases d
    ·intro d;omega
   ·rw[aI c,aI c];exact h.tk f hf
  ·rw[aI r1];by_cases c:f=v
   ·subst c;rw[aJ rfl];exact⟨fun _=>by omega,fun _=>tv⟩
   ·rw[aI c];exact h.tk f hf
 ·show(if k.refs v=1 then Bd.jN k.cq v else k.cq).tk f=true->(if k.refs v=1 then Bd.jN k.cq v else k.cq).ord f=1;by_cases r1:k.refs v=1
  ·rw[aJ r1,eg];intro d;rw[gb.2.2]at d;have d':(if f=v then false else k.cq.tk f)=true:=d;by_cases c:f=v
   ·rw[aJ c]at d';cases d'
   ·rw[aI c]at d';rw[Bd.EB h.inv v64 tv c d'];exact h.one f hf d'
  ·rw[aI r1];exact h.one f hf
theorem eZ.taken (h:eZ k N me){g:Nat}{k1:Bk}(t:sy k 0 g k1):g<64/\k.cq.tk g=false/\k.refs g=0/\(∃p',k1=Da k p' g/\Bd.Inv p'/\Bd.NB p' 64/\p'.tk g=true/\p'.ord g=1/\(∀f,f≠g->p'.tk f=k.cq.tk f)/\ ∀f,f<64->k.cq.tk f=true->p'.ord f=k.cq.ord f):=by
 obtain⟨p',t1,t2⟩:=t;rw[aJ rfl]at t2;have iv:=h.inv.take h.nb t1;rcases t1 with⟨_,c,_⟩|⟨_,_,c,_⟩|⟨_,hB,_,e⟩
 ·omega
 ·omega
 ·have tb:=h.inv.jr h.nb hB;have g0:k.refs g=0:=by
   have:=h.tk g hB.lt;rw[hB.tk]at this;have: ¬1<=k.refs g:=fun c=>by cases this.2 c
   omega
  subst e;exact⟨hB.lt,hB.tk,g0,_,t2,iv.1,iv.2,tb.2.2.2.1,tb.2.2.1,fun f hf=>tb.2.2.2.2.2 f hf,fun f hf ht=>Bd.wD h.inv h.nb hB hf ht⟩
theorem eZ.fresh (h:eZ k N me){i n g:Nat}{k1:Bk}(hi:i<N)(hn:n<16)(h0:(me i).fr n=0)(t:sy k 0 g k1):eZ k1 N (jc me i {(me i)with fr:=iX (me i).fr n (g+1)}):=by
 obtain⟨g64,gt,g0,p',rfl,i1,i2,i3,i4,i5,i6⟩:=h.taken t;refine h.jE hi hn (by omega) i1 i2 (fun f hf=>?_) (fun f hf=>?_) (fun f hf ht=>?_)
 ·show(if f=g then 1 else k.refs f)+Mv.one ((me i).fr n) f=k.refs f+Mv.one (g+1) f;unfold Mv.one;rw[h0,aI (by omega: ¬0=f+1)];by_cases c:f=g
  ·subst c;rw[aJ rfl,aJ rfl];omega
  ·rw[aI c,aI (by omega)]
 ·show p'.tk f=true↔1<=(if f=g then 1 else k.refs f);by_cases c:f=g
  ·subst c;rw[aJ rfl,i3];exact⟨fun _=>by omega,fun _=>rfl⟩
  ·rw[aI c,i5 f c];exact h.tk f hf
 ·have ht':p'.tk f=true:=ht;show p'.ord f=1;by_cases c:f=g
  ·subst c;exact i4
  ·rw[i5 f c]at ht';rw[i6 f hf ht'];exact h.one f hf ht'
theorem eZ.part (h:eZ k N me){i n g v:Nat}{k1:Bk}(hi:i<N)(hn:n<16)(hv:(me i).fr n=v+1)(hr:k.refs v≠1)(t:sy k 0 g k1):eZ (je (yX k1 v g) v) N (jc me i {(me i)with fr:=iX (me i).fr n (g+1)})/\v≠g/\(je (yX k1 v g) v).refs g=1:=by
 obtain⟨g64,gt,g0,p',rfl,i1,i2,i3,i4,i5,i6⟩:=h.taken t;have l:=h.le i hi n hn;have hd:=h.held hi hn (by omega);rw[hv,aP]at hd;have ne:v≠g:=fun c=>by rw[c]at hd;omega
 have er: ∀f,(je (yX (Da k p' g) v g) v).refs f=if f=v then k.refs v-1 else if f=g then 1 else k.refs f:=fun f=>by
  show(if f=v then(if v=g then 1 else k.refs v)-1 else if f=g then 1 else k.refs f)=_;rw[aI ne]
 have ep:(je (yX (Da k p' g) v g) v).cq=p':=by
  show(if(if v=g then 1 else k.refs v)=1 then Bd.jN p' v else p')=p';rw[aI ne,aI hr]
 refine⟨h.jE hi hn (by omega) (by rw[ep];exact i1) (by rw[ep];exact i2) (fun f hf=>?_) (fun f hf=>?_) (fun f hf ht=>?_),ne,by rw[er,aI (bQ ne),aJ rfl]⟩
 ·rw[er,hv];unfold Mv.one;by_cases c:f=v
  ·subst c;rw[aJ rfl,aJ rfl,aI (by omega)];omega
  ·rw[aI c,aI (by omega: ¬v+1=f+1)];by_cases d:f=g
   ·subst d;rw[aJ rfl,aJ rfl];omega
   ·rw[aI d,aI (by omega)]
 ·rw[er,ep];by_cases c:f=v
  ·subst c;rw[aJ rfl,i5 f ne];exact⟨fun _=>by omega,fun _=>(h.tk f hf).2 hd⟩
  ·rw[aI c];by_cases d:f=g
   ·subst d;rw[aJ rfl,i3];exact⟨fun _=>by omega,fun _=>rfl⟩
   ·rw[aI d,i5 f d];exact h.tk f hf
 ·rw[ep]at ht|-;by_cases c:f=g
  ·subst c;exact i4
  ·rw[i5 f c]at ht;rw[i6 f hf ht];exact h.one f hf ht
theorem ME {k k1:Bk}{e:Int}{g:Nat}(t:sy k e g k1)(c:e≠0):k1=k:=by
 obtain⟨p',t1,t2⟩:=t;rw[aI c]at t2;rcases t1 with⟨_,_,_,e⟩|⟨_,_,_,_,e⟩|⟨_,_,e,_⟩
 ·subst e;exact t2
 ·subst e;exact t2
 ·exact aZ e c
theorem eZ.Ls (h:eZ k N me){i:Nat}(hi:i<N){z E:Int}{wr:Bool}{g:Nat}{m':Me}(t:nP (me i) k z wr E g m' k'):eZ k' N (jc me i m')/\(E=0->wr=true->k'.refs g=1):=by
 have same:eZ k N (jc me i (me i)):=h.congr (fun j _ x _=>by
  by_cases c:j=i
  ·subst c;rw[fp]
  ·rw[ic _ _ _ _ c])
 rcases t with⟨_,e,_,rfl,rfl⟩|⟨a,b,c,e,rfl,rfl,rfl⟩|⟨a,b,k1,t,c⟩
 ·exact⟨same,fun c=>by omega⟩
 ·exact⟨same,fun _ w=>by rcases c with c|c;rw[c]at w;cases w;exact c⟩
 ·obtain⟨x,rfl,hx⟩:=GZ a;rw[hU]at b c;rcases c with⟨e0,rfl,rfl⟩|⟨e0,rfl,rfl⟩
  ·have:=ME t e0;subst this;exact⟨same,fun c=>aZ c e0⟩
  ·subst e0;by_cases f0:(me i).fr (x/8)=0
   ·rw[aJ f0];refine⟨h.fresh hi (by omega) f0 t,fun _ _=>?_⟩;obtain⟨_,_,_,p',rfl,_⟩:=h.taken t;show(if g=g then 1 else k.refs g)=1;rw[aJ rfl]
   ·rw[aI f0];have hr:k.refs ((me i).fr (x/8)-1)≠1:=fun c=>b ⟨f0, .inr c⟩;have r:=h.part hi (by omega:x/8<16) (v:=(me i).fr (x/8)-1) (by omega) hr t;exact⟨r.1,fun _ _=>r.2.2⟩
theorem eZ.Le (h:eZ k N me){i:Nat}(hi:i<N){x:Nat}: ∀j,x+j<=16->eZ (gL (me i) k x j) N (jc me i (iE (me i) x (x+j))):=by
 intro j
 induction j with
 |zero=>
  intro _;refine h.congr (fun a _ y _=>?_);by_cases c:a=i
  ·subst c;rw[fp];exact aI (by omega)
  ·rw[ic _ _ _ _ c]
 |succ j ih=>
  intro hj;have w:=ih (by omega);have e0:(iE (me i) x (x+j)).fr (x+j)=(me i).fr (x+j):=aI (by omega);have key: ∀y,(iE (me i) x (x+(j+1))).fr y=iX (iE (me i) x (x+j)).fr (x+j) 0 y:=fun y=>by
   unfold iX;by_cases c:y=x+j
   ·subst c;rw[aJ rfl];exact(Hd (me i) x j).2
   ·rw[aI c];exact(Bo c).2
  by_cases c:(me i).fr (x+j)=0
  ·rw[show gL (me i) k x (j+1)=gL (me i) k x j from aJ c];refine w.congr (fun a _ y _=>?_);by_cases d:a=i
   ·subst d;rw[fp,fp,key];unfold iX;by_cases e:y=x+j
    ·subst e;rw[aJ rfl,e0,c]
    ·rw[aI e]
   ·rw[ic _ _ _ _ d,ic _ _ _ _ d]
  ·rw[show gL (me i) k x (j+1)=je (gL (me i) k x j) ((me i).fr (x+j)-1)from aI c];have s:=w.drop (v:=(me i).fr (x+j)-1) hi (by omega:x+j<16) (by rw[fp,e0];omega);refine s.congr (fun a _ y _=>?_);by_cases d:a=i
   ·subst d;rw[fp,fp,fp,key]
   ·rw[ic _ _ _ _ d,ic _ _ _ _ d,ic _ _ _ _ d]
end
end Mv
namespace Mv
section
variable {k k' : Bk} {N : Nat} {me me' : Nat -> Me} {fl : Nat -> Nat -> Int}
theorem eZ.bytes (h:eZ k N me)(b:Nat->Nat->Int):eZ {k with cX:=b} N me:=⟨h.inv,h.nb,h.n8,h.le,h.ref,h.tk,h.one⟩
end
end Mv
