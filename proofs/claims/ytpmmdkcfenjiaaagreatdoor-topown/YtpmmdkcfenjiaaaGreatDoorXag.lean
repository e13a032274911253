import Derived.Test.YtpmmdkcfenjiaaaGreatDoorXaf
namespace Go.Proofs.YtpmmdkcfenjiaaaGreatDoor
open Bool renaming true->bE,false->bF
open Bd (P)
variable {E z:Int}{f g i j n v x:Nat}{b:P}
namespace Bd
theorem J6(h:Inv b)(hi:i<64)(ho:2<=b.ord i)(hti:b.tk i=bF)(hj:j<64)(ht:b.tk j=bE):(half b i).ord j=b.ord j:=by
 obtain⟨k,hk⟩:∃k,b.ord i=k+1:=⟨b.ord i-1,bG⟩;have hs:=oM (k:=k) bG;have sp:=sJ k;have j0:=h.tk j hj ht;have ou:=h.own i (i+sz k) hi bG bG (by rw[hk,hs];omega);unfold half up;show(if j=i+sz (b.ord i-1)then b.ord i-1 else if j=i then b.ord i-1 else b.ord j)=b.ord j;rw[hk,aP,aI (λc=>by rw[<-c]at ou;omega),aI (λc=>by rw[c,hti]at ht;cases ht)]
theorem IX(hi:i<64)(hj:j<64):∀n {b:P},n<b.ord i->Inv b->b.tk i=bF->NB b i->b.tk j=bE->(parts b i n).ord j=b.ord j:=by
 intro n
 induction n with
 |zero=>intro b _ _ _ _ _;rfl
 |succ n ih=>
  intro b hn h1 h2 h3 h4;have a:=h1.half hi bG h2;have:=ih (b:=half b i) (by rw[a.2.1];omega) a.1 (by rw[a.2.2];exact h2) (h3.half h1 hi bG) (by rw[a.2.2];exact h4);show(parts (half b i) i n).ord j=_;rw[this,J6 h1 hi bG h2 hj h4]
theorem Je(h:Inv b)(n:NB b 64){o:Nat}(k:G9 b o i)(hj:j<64)(ht:b.tk j=bE):(lY b o i).ord j=b.ord j:=
 IX k.lt hj _ (by have:=k.ord;omega) h k.tk (n.but h i) ht
theorem Ik:∀(n:Nat) {b:P} {i:Nat},i<64->0<b.ord i->b.tk i=bF->Inv b->b.tk j=bE->(oT b i n).ord j=b.ord j:=by
 intro n
 induction n with
 |zero=>intro b i _ _ _ _ _;rfl
 |succ n ih=>
  intro b i hi h0 h2 h1 ht;show(if ga b i=bE then _ else b).ord j=b.ord j;by_cases c:ga b i=bE
  .rw[aJ c];unfold ga at c;simp only[Bool.and_eq_true,decide_eq_true_eq,Bool.not_eq_true']at c;have a:=h1.join hi h0 c.1 h2 c.2.1 c.2.2;rw[ih (b:=join b (min i (dm i (sz (b.ord i)))) (max i (dm i (sz (b.ord i))))) a.2.1 (by rw[a.2.2.1];omega) a.2.2.2 a.1 ht];have nf:j≠dm i (sz (b.ord i)):=λe=>by rw[e,c.2.2]at ht;cases ht
   have ni:j≠i:=λe=>by rw[e,h2]at ht;cases ht
   show(if j=min i (dm i (sz (b.ord i)))then _ else if j=max i (dm i (sz (b.ord i)))then 0 else b.ord j)=b.ord j;rw[nJ,nJ]
  .rw[aI c]
theorem Ic(h:Inv b)(hi:i<64)(hti:b.tk i=bE)(hji:j≠i)(ht:b.tk j=bE):(kJ b i).ord j=b.ord j:=by
 have g:=h.tk i hi hti;have:=Ik (j:=j) 7 (b:={b with tk:=ob b.tk i bF}) (i:=i) hi g (by show(if i=i then bF else b.tk i)=bF;rw[aJ rfl]) ⟨h.le,h.al,h.own,h.CY,λx hx hx0=>by
  have:(if x=i then bF else b.tk x)=bE:=hx0;by_cases c:x=i
  .rw[aJ c]at this;cases this
  .rw[aI c]at this;exact h.tk x hx this⟩ (by show(if j=i then bF else b.tk j)=bE;rw[aI hji];exact ht)
 exact this
end Bd
open Mv (Me Bk)
namespace Mv
def one(a b:Nat):Nat:=if a=b+1 then 1 else 0
theorem CV(fr:Nat->Nat)(f i v:Nat):∀n,eH (iJ fr i v) f n+(if i<n then one (fr i) f else 0)=eH fr f n+(if i<n then one v f else 0):=by
 intro n
 induction n with
 |zero=>rfl
 |succ n ih=>
  show eH (iJ fr i v) f n+one (iJ fr i v n) f+(if i<n+1 then one (fr i) f else 0)=eH fr f n+one (fr n) f+(if i<n+1 then one v f else 0);by_cases c:n=i
  .subst c;rw[aI (bV n),aI (bV n)]at ih;rw[aJ (Nat.lt_succ_self n),aJ (Nat.lt_succ_self n),show iJ fr n v n=v from aJ rfl];omega
  .rw[show iJ fr i v n=fr n from aI c];by_cases d:i<n
   .have d2:i<n+1:=bG
    rw[aJ d,aJ d]at ih;rw[aJ d2,aJ d2];omega
   .have d2:¬i<n+1:=bG
    rw[aI d,aI d]at ih;rw[aI d2,aI d2];omega
def pG(me:Nat->Me)(f:Nat):Nat->Nat
 |0=>0
 |i+1=>pG me f i+eH (me i).fr f 16
def im(me:Nat->Me)(i:Nat)(m:Me):Nat->Me:=λj=>if j=i then m else me j
theorem dZ(me:Nat->Me)(i:Nat)(m:Me):im me i m i=m:=aJ rfl
theorem gv(me:Nat->Me)(i:Nat)(m:Me)(j:Nat)(h:j≠i):im me i m j=me j:=aI h
theorem AB(me:Nat->Me)(f i:Nat)(m:Me):∀n,pG (im me i m) f n+(if i<n then eH (me i).fr f 16 else 0)=pG me f n+(if i<n then eH m.fr f 16 else 0):=by
 intro n
 induction n with
 |zero=>rfl
 |succ n ih=>
  show pG (im me i m) f n+eH (im me i m n).fr f 16+_=pG me f n+eH (me n).fr f 16+_;by_cases c:n=i
  .subst c;rw[nJ,nJ]at ih;rw[dZ,nK,nK];omega
  .rw[gv _ _ _ _ c];by_cases d:i<n
   .rw[aJ d,aJ d]at ih;rw[nK,nK];omega
   .rw[aI d,aI d]at ih;rw[nJ,nJ];omega
theorem TZ(me:Nat->Me)(f n:Nat):pG me f n<=16*n:=by
 induction n with
 |zero=>exact aL 0
 |succ n ih=>show pG me f n+eH _ f 16<=_;have:=Gc (me n).fr f 16;omega
theorem Er(me:Nat->Me)(f:Nat)(h:i<n):eH (me i).fr f 16<=pG me f n:=by
 induction n with
 |zero=>omega
 |succ n ih=>
  show _<=pG me f n+eH (me n).fr f 16;by_cases c:i=n
  .subst c;omega
  .have:=ih bG;omega
theorem LR{me me':Nat->Me}(f:Nat):∀n,(∀i,i<n->∀x,x<16->(me' i).fr x=(me i).fr x)->pG me' f n=pG me f n:=by
 intro n
 induction n with
 |zero=>intro _;rfl
 |succ n ih=>
  intro h;show pG me' f n+eH _ f 16=pG me f n+eH _ f 16;rw[ih (λi hi=>h i bG),pV (h n bG)]
structure fR (k:Bk)(N:Nat)(me:Nat->Me):Prop where
 inv:Bd.Inv k.dn
 nb:Bd.NB k.dn 64
 n8:N<=20
 le:∀i,i<N->∀n,n<16->(me i).fr n<=64
 ref:∀f,f<64->k.refs f=pG me f N
 tk:∀f,f<64->(k.dn.tk f=bE↔1<=k.refs f)
 one:∀f,f<64->k.dn.tk f=bE->k.dn.ord f=1
section
variable {k k':Bk}{N:Nat}{me me':Nat->Me}
theorem fR.refl(h:fR k N me)(f:Nat)(hf:f<64):k.refs f<=320:=by rw[h.ref f hf];have:=TZ me f N;have:=h.n8;omega
theorem fR.cY(h:fR k N me)(hi:i<N):ye (me i) k:=⟨h.inv,h.nb,h.le i hi,λf hf=>⟨by rw[h.ref f hf];exact Er me f hi,by have:=h.refl f hf;omega⟩⟩
theorem fR.held(h:fR k N me)(hi:i<N)(hn:n<16)(c:(me i).fr n≠0):1<=k.refs ((me i).fr n-1):=by
 have l:=h.le i hi n hn;have a:=(h.cY hi).cY ((me i).fr n-1) bG;have b:=qp (fr:=(me i).fr) (f:=(me i).fr n-1) (n:=16) hn bG;omega
theorem fR.Sv(h:fR k N me)(hi:i<N):qW (me i) k:=⟨h.inv,h.nb,h.le i hi,λn hn c=>⟨h.held hi hn c,by have l:=h.le i hi n hn;have:=h.refl ((me i).fr n-1) bG;omega⟩,λf hf c=>(h.tk f hf).2 c⟩
theorem fR.congr(h:fR k N me)(e:∀i,i<N->∀x,x<16->(me' i).fr x=(me i).fr x):fR k N me':=⟨h.inv,h.nb,h.n8,λi hi n hn=>by rw[e i hi n hn];exact h.le i hi n hn,λf hf=>by rw[h.ref f hf,LR f N e],h.tk,h.one⟩
theorem fR.jN(h:fR k N me)(hi:i<N)(hn:n<16)(hv:v<=64)(inv:Bd.Inv k'.dn)(nb:Bd.NB k'.dn 64)
  (hr:∀f,f<64->k'.refs f+Mv.one ((me i).fr n) f=k.refs f+Mv.one v f) (ht:∀f,f<64->(k'.dn.tk f=bE↔1<=k'.refs f)) (ho:∀f,f<64->k'.dn.tk f=bE->k'.dn.ord f=1):
  fR k' N (im me i {(me i)with fr:=iJ (me i).fr n v}):=by
 refine⟨inv,nb,h.n8,λj hj x hx=>?_,λf hf=>?_,ht,ho⟩
 .by_cases c:j=i
  .subst c;rw[dZ];show(if x=n then v else(me j).fr x)<=64;split
   .exact hv
   .exact h.le j hj x hx
  .rw[gv _ _ _ _ c];exact h.le j hj x hx
 .have a:=AB me f i {(me i)with fr:=iJ (me i).fr n v} N;rw[aJ hi,aJ hi]at a;have b:=CV (me i).fr f n v 16;rw[aJ hn,aJ hn]at b;have c:=hr f hf;have d:=h.ref f hf;have e:({(me i)with fr:=iJ (me i).fr n v}:Me).fr=iJ (me i).fr n v:=rfl;rw[e]at a;omega
theorem fR.drop(h:fR k N me)(hi:i<N)(hn:n<16)(hv:(me i).fr n=v+1):fR (ko k v) N (im me i {(me i)with fr:=iJ (me i).fr n 0}):=by
 have l:=h.le i hi n hn;have hd:=h.held hi hn bG;rw[hv,aP]at hd;have v64:v<64:=bG
 have tv:=(h.tk v v64).2 hd;have ip:Bd.Inv (ko k v).dn/\Bd.NB (ko k v).dn 64:=by
  show Bd.Inv (if _ then _ else _)/\Bd.NB (if _ then _ else _) 64;split
  .exact h.inv.Su h.nb _
  .exact⟨h.inv,h.nb⟩
 have er:∀f,(ko k v).refs f=if f=v then k.refs v-1 else k.refs f:=λf=>rfl;have eg:Bd.lu k.dn (v:Int)=Bd.kJ k.dn v:=by
  unfold Bd.lu Bd.iC;rw[aI (by omega:¬((v:Int)<0\/63<(v:Int))),hZ,aJ tv,aJ rfl]
 have gb:=h.inv.kJ h.nb v64 tv;refine h.jN hi hn bG ip.1 ip.2 (λf hf=>?_) (λf hf=>?_) (λf hf=>?_)
 .rw[er,hv];unfold Mv.one;by_cases c:f=v
  .subst c;rw[aJ rfl,aJ rfl,nJ];omega
  .rw[aI c,nJ,nJ]
 .rw[er];show(if k.refs v=1 then Bd.lu k.dn v else k.dn).tk f=bE↔_;by_cases r1:k.refs v=1
  .rw[aJ r1,eg,gb.2.2];show(if f=v then bF else k.dn.tk f)=bE↔_;by_cases c:f=v
   .rw[aJ c,aJ c];constructor
    .intro d;cases d
    .intro d;omega
   .rw[aI c,aI c];exact h.tk f hf
  .rw[aI r1];by_cases c:f=v
   .subst c;rw[aJ rfl];exact⟨λ_=>bG,λ_=>tv⟩
   .rw[aI c];exact h.tk f hf
 .show(if k.refs v=1 then Bd.lu k.dn v else k.dn).tk f=bE->(if k.refs v=1 then Bd.lu k.dn v else k.dn).ord f=1;by_cases r1:k.refs v=1
  .rw[aJ r1,eg];intro d;rw[gb.2.2]at d;have d':(if f=v then bF else k.dn.tk f)=bE:=d;by_cases c:f=v
   .rw[aJ c]at d';cases d'
   .rw[aI c]at d';rw[Bd.Ic h.inv v64 tv c d'];exact h.one f hf d'
  .rw[aI r1];exact h.one f hf
theorem fR.taken(h:fR k N me){k1:Bk}(t:uq k 0 g k1):g<64/\k.dn.tk g=bF/\k.refs g=0/\(∃p',k1=Gb k p' g/\Bd.Inv p'/\Bd.NB p' 64/\p'.tk g=bE/\p'.ord g=1/\(∀f,f≠g->p'.tk f=k.dn.tk f)/\∀f,f<64->k.dn.tk f=bE->p'.ord f=k.dn.ord f):=by
 obtain⟨p',t1,t2⟩:=t;rw[aJ rfl]at t2;have iv:=h.inv.take h.nb t1;rcases t1 with⟨_,c,_⟩|⟨_,_,c,_⟩|⟨_,hB,_,e⟩
 .omega
 .omega
 .have tb:=h.inv.lY h.nb hB;have g0:k.refs g=0:=by
   have:=h.tk g hB.lt;rw[hB.tk]at this;have:¬1<=k.refs g:=λc=>by cases this.2 c
   omega
  subst e;exact⟨hB.lt,hB.tk,g0,_,t2,iv.1,iv.2,tb.2.2.2.1,tb.2.2.1,λf hf=>tb.2.2.2.2.2 f hf,λf hf ht=>Bd.Je h.inv h.nb hB hf ht⟩
theorem fR.fresh(h:fR k N me){k1:Bk}(hi:i<N)(hn:n<16)(h0:(me i).fr n=0)(t:uq k 0 g k1):fR k1 N (im me i {(me i)with fr:=iJ (me i).fr n (g+1)}):=by
 obtain⟨g64,gt,g0,p',rfl,i1,i2,i3,i4,i5,i6⟩:=h.taken t;refine h.jN hi hn bG i1 i2 (λf hf=>?_) (λf hf=>?_) (λf hf ht=>?_)
 .show(if f=g then 1 else k.refs f)+Mv.one ((me i).fr n) f=k.refs f+Mv.one (g+1) f;unfold Mv.one;rw[h0,aI (by omega:¬0=f+1)];by_cases c:f=g
  .subst c;rw[aJ rfl,aJ rfl];omega
  .rw[aI c,nJ]
 .show p'.tk f=bE↔1<=(if f=g then 1 else k.refs f);by_cases c:f=g
  .subst c;rw[aJ rfl,i3];exact⟨λ_=>bG,λ_=>rfl⟩
  .rw[aI c,i5 f c];exact h.tk f hf
 .have ht':p'.tk f=bE:=ht;show p'.ord f=1;by_cases c:f=g
  .subst c;exact i4
  .rw[i5 f c]at ht';rw[i6 f hf ht'];exact h.one f hf ht'
theorem fR.part(h:fR k N me){k1:Bk}(hi:i<N)(hn:n<16)(hv:(me i).fr n=v+1)(hr:k.refs v≠1)(t:uq k 0 g k1):fR (ko (AZ k1 v g) v) N (im me i {(me i)with fr:=iJ (me i).fr n (g+1)})/\v≠g/\(ko (AZ k1 v g) v).refs g=1:=by
 obtain⟨g64,gt,g0,p',rfl,i1,i2,i3,i4,i5,i6⟩:=h.taken t;have l:=h.le i hi n hn;have hd:=h.held hi hn bG;rw[hv,aP]at hd;have ne:v≠g:=λc=>by rw[c]at hd;omega
 have er:∀f,(ko (AZ (Gb k p' g) v g) v).refs f=if f=v then k.refs v-1 else if f=g then 1 else k.refs f:=λf=>by
  show(if f=v then(if v=g then 1 else k.refs v)-1 else if f=g then 1 else k.refs f)=_;rw[aI ne]
 have ep:(ko (AZ (Gb k p' g) v g) v).dn=p':=by
  show(if(if v=g then 1 else k.refs v)=1 then Bd.lu p' v else p')=p';rw[aI ne,aI hr]
 refine⟨h.jN hi hn bG (by rw[ep];exact i1) (by rw[ep];exact i2) (λf hf=>?_) (λf hf=>?_) (λf hf ht=>?_),ne,by rw[er,aI (bQ ne),aJ rfl]⟩
 .rw[er,hv];unfold Mv.one;by_cases c:f=v
  .subst c;rw[aJ rfl,aJ rfl,nJ];omega
  .rw[aI c,aI (by omega:¬v+1=f+1)];by_cases d:f=g
   .subst d;rw[aJ rfl,aJ rfl];omega
   .rw[aI d,nJ]
 .rw[er,ep];by_cases c:f=v
  .subst c;rw[aJ rfl,i5 f ne];exact⟨λ_=>bG,λ_=>(h.tk f hf).2 hd⟩
  .rw[aI c];by_cases d:f=g
   .subst d;rw[aJ rfl,i3];exact⟨λ_=>bG,λ_=>rfl⟩
   .rw[aI d,i5 f d];exact h.tk f hf
 .rw[ep]at ht|-;by_cases c:f=g
  .subst c;exact i4
  .rw[i5 f c]at ht;rw[i6 f hf ht];exact h.one f hf ht
theorem FY{k k1:Bk}{e:Int}(t:uq k e g k1)(c:e≠0):k1=k:=by
 obtain⟨p',t1,t2⟩:=t;rw[aI c]at t2;rcases t1 with⟨_,_,_,e⟩|⟨_,_,_,_,e⟩|⟨_,_,e,_⟩
 .subst e;exact t2
 .subst e;exact t2
 .exact aZ e c
theorem fR.wA(h:fR k N me)(hi:i<N){wr:Bool}{m':Me}(t:kG (me i) k z wr E g m' k'):fR k' N (im me i m')/\(E=0->wr=bE->k'.refs g=1):=by
 have same:fR k N (im me i (me i)):=h.congr (λj _ x _=>by
  by_cases c:j=i
  .subst c;rw[dZ]
  .rw[gv _ _ _ _ c])
 rcases t with⟨_,e,_,rfl,rfl⟩|⟨a,b,c,e,rfl,rfl,rfl⟩|⟨a,b,k1,t,c⟩
 .exact⟨same,λc=>bG⟩
 .exact⟨same,λ_ w=>by rcases c with c|c;rw[c]at w;cases w;exact c⟩
 .obtain⟨x,rfl,hx⟩:=uT a;rw[hZ]at b c;rcases c with⟨e0,rfl,rfl⟩|⟨e0,rfl,rfl⟩
  .have:=FY t e0;subst this;exact⟨same,λc=>aZ c e0⟩
  .subst e0;by_cases f0:(me i).fr (x/8)=0
   .rw[aJ f0];refine⟨h.fresh hi bG f0 t,λ_ _=>?_⟩;obtain⟨_,_,_,p',rfl,_⟩:=h.taken t;show(if g=g then 1 else k.refs g)=1;rw[aJ rfl]
   .rw[aI f0];have hr:k.refs ((me i).fr (x/8)-1)≠1:=λc=>b ⟨f0, .inr c⟩;have r:=h.part hi (by omega:x/8<16) (v:=(me i).fr (x/8)-1) bG hr t;exact⟨r.1,λ_ _=>r.2.2⟩
theorem fR.Cp(h:fR k N me)(hi:i<N):∀j,x+j<=16->fR (gU (me i) k x j) N (im me i (gV (me i) x (x+j))):=by
 intro j
 induction j with
 |zero=>
  intro _;refine h.congr (λa _ y _=>?_);by_cases c:a=i
  .subst c;rw[dZ];exact nJ
  .rw[gv _ _ _ _ c]
 |succ j ih=>
  intro hj;have w:=ih bG;have e0:(gV (me i) x (x+j)).fr (x+j)=(me i).fr (x+j):=nJ;have key:∀y,(gV (me i) x (x+(j+1))).fr y=iJ (gV (me i) x (x+j)).fr (x+j) 0 y:=λy=>by
   unfold iJ;by_cases c:y=x+j
   .subst c;rw[aJ rfl];exact(LZ (me i) x j).2
   .rw[aI c];exact(Es c).2
  by_cases c:(me i).fr (x+j)=0
  .rw[show gU (me i) k x (j+1)=gU (me i) k x j from aJ c];refine w.congr (λa _ y _=>?_);by_cases d:a=i
   .subst d;rw[dZ,dZ,key];unfold iJ;by_cases e:y=x+j
    .subst e;rw[aJ rfl,e0,c]
    .rw[aI e]
   .rw[gv _ _ _ _ d,gv _ _ _ _ d]
  .rw[show gU (me i) k x (j+1)=ko (gU (me i) k x j) ((me i).fr (x+j)-1)from aI c];have s:=w.drop (v:=(me i).fr (x+j)-1) hi (by omega:x+j<16) (by rw[dZ,e0];omega);refine s.congr (λa _ y _=>?_);by_cases d:a=i
   .subst d;rw[dZ,dZ,dZ,key]
   .rw[gv _ _ _ _ d,gv _ _ _ _ d,gv _ _ _ _ d]
end
def pd(k:Bk)(N:Nat)(me:Nat->Me)(fl:Nat->Nat->Int):Prop:=∀i,i<N->∀x,x<128->fl i x=if(me i).fr (x/8)=0 then 0 else k.dc ((me i).fr (x/8)-1) (x%8)
section
variable {k k':Bk}{N:Nat}{me me':Nat->Me}{fl:Nat->Nat->Int}
theorem pd.congr(h:pd k N me fl)(e:∀i,i<N->∀n,n<16->(me' i).fr n=(me i).fr n):pd k N me' fl:=λi hi x hx=>by rw[h i hi x hx,e i hi _ bG]
theorem pd.wA(h:pd k N me fl)(w:fR k N me)(hi:i<N){wr:Bool}{m':Me}(t:kG (me i) k z wr E g m' k'):pd k' N (im me i m') fl:=by
 have same:pd k N (im me i (me i)) fl:=h.congr (λj _ x _=>by
  by_cases c:j=i
  .subst c;rw[dZ]
  .rw[gv _ _ _ _ c])
 rcases t with⟨_,e,_,rfl,rfl⟩|⟨a,b,c,e,rfl,rfl,rfl⟩|⟨a,b,k1,t,c⟩
 .exact same
 .exact same
 .obtain⟨x,rfl,hx⟩:=uT a;rw[hZ]at b c;rcases c with⟨e0,rfl,rfl⟩|⟨e0,rfl,rfl⟩
  .have:=FY t e0;subst this;exact same
  .subst e0;obtain⟨g64,gt,g0,p',rfl,_⟩:=w.taken t;have nog:∀j,j<N->∀n,n<16->(me j).fr n≠g+1:=λj hj n hn c=>by
    have:=w.held hj hn bG;rw[c,aP]at this;omega
   intro j hj y hy;have hf:=h j hj y hy;by_cases f0:(me i).fr (x/8)=0
   .rw[aJ f0];by_cases c:j=i/\y/8=x/8
    .obtain⟨rfl,c2⟩:=c;rw[dZ];show fl j y=if(if y/8=x/8 then g+1 else _)=0 then 0 else(if(if y/8=x/8 then g+1 else _)-1=g then 0 else _);rw[aJ c2,nJ,aP,aJ rfl,hf,c2,aJ f0]
    .have e:(im me i {(me i)with fr:=iJ (me i).fr (x/8) (g+1)} j).fr (y/8)=(me j).fr (y/8):=by
      by_cases d:j=i
      .subst d;rw[dZ];exact aI (λe=>c ⟨rfl,e⟩)
      .rw[gv _ _ _ _ d]
     rw[e,hf];by_cases d:(me j).fr (y/8)=0
     .rw[aJ d,aJ d]
     .rw[aI d,aI d];show _=if(me j).fr (y/8)-1=g then 0 else _;rw[aI (λc=>nog j hj (y/8) bG bG)]
   .rw[aI f0];have ne:(me i).fr (x/8)-1≠g:=λc=>nog i hi (x/8) bG bG;by_cases c:j=i/\y/8=x/8
    .obtain⟨rfl,c2⟩:=c;rw[dZ];show fl j y=if(if y/8=x/8 then g+1 else _)=0 then 0 else(if(if y/8=x/8 then g+1 else _)-1=g then(if(me j).fr (x/8)-1=g then 0 else k.dc ((me j).fr (x/8)-1) (y%8))else _);rw[aJ c2,nJ,aP,aJ rfl,aI ne,hf,c2,aI f0]
    .have e:(im me i {(me i)with fr:=iJ (me i).fr (x/8) (g+1)} j).fr (y/8)=(me j).fr (y/8):=by
      by_cases d:j=i
      .subst d;rw[dZ];exact aI (λe=>c ⟨rfl,e⟩)
      .rw[gv _ _ _ _ d]
     rw[e,hf];by_cases d:(me j).fr (y/8)=0
     .rw[aJ d,aJ d]
     .rw[aI d,aI d];have n2:(me j).fr (y/8)-1≠g:=λc=>nog j hj (y/8) bG bG;show _=if(me j).fr (y/8)-1=g then _ else(if(me j).fr (y/8)-1=g then 0 else _);rw[aI n2,aI n2]
end
end Mv
namespace Mv
section
variable {k k':Bk}{N:Nat}{me me':Nat->Me}{fl:Nat->Nat->Int}
theorem fR.bytes(h:fR k N me)(b:Nat->Nat->Int):fR {k with dc:=b} N me:=⟨h.inv,h.nb,h.n8,h.le,h.ref,h.tk,h.one⟩
theorem MX{fr:Nat->Nat}(hi:i<n)(hj:j<n)(ne:i≠j)(ei:fr i=f+1)(ej:fr j=f+1):2<=eH fr f n:=by
 have a:=CV fr f i 0 n;rw[aJ hi,aJ hi]at a;have b:=qp (fr:=iJ fr i 0) (f:=f) (n:=n) hj (by show(if j=i then 0 else fr j)=f+1;rw[aI (bQ ne)];exact ej);have c:one (fr i) f=1:=aJ ei;have d:one 0 f=0:=nJ;omega
theorem fR.alone(h:fR k N me)(hf:f<64)(h1:k.refs f=1)(hi:i<N)(hj:j<N)(hn:n<16)(hx:x<16)(e1:(me i).fr n=f+1)(e2:(me j).fr x=f+1):i=j/\n=x:=by
 rw[h.ref f hf]at h1;by_cases c:i=j
 .subst c;refine⟨rfl,Classical.byContradiction λd=>?_⟩;have:=MX hn hx d e1 e2;have:=Er me f hi;omega
 .exfalso;have a:=AB me f i j5 N;rw[aJ hi,aJ hi]at a;have z:eH j5.fr f 16=0:=by
   have:∀n,eH j5.fr f n=0:=λn=>by
    induction n with
    |zero=>rfl
    |succ n ih=>show eH j5.fr f n+(if 0=f+1 then 1 else 0)=0;rw[ih,nJ]
   exact this 16
  have b:=Er (im me i j5) f hj;rw[gv _ _ _ _ (bQ c)]at b;have p1:=qp (fr:=(me i).fr) (f:=f) (n:=16) hn e1;have p2:=qp (fr:=(me j).fr) (f:=f) (n:=16) hx e2;omega
def oO(fl:Nat->Nat->Int)(i x:Nat)(v:Int):Nat->Nat->Int:=λj y=>if j=i/\y=x then v else fl j y
theorem pd.store(h:pd k N me fl)(w:fR k N me)(hi:i<N)(hx:x<128)(hg:g<64)(eg:(me i).fr (x/8)=g+1)(h1:k.refs g=1)(v:Int):pd (GU k g (x%8) v) N me (oO fl i x v):=λj hj y hy=>by
 have hf:=h j hj y hy;unfold oO;show _=if(me j).fr (y/8)=0 then 0 else(if(me j).fr (y/8)-1=g/\y%8=x%8 then v else k.dc ((me j).fr (y/8)-1) (y%8));by_cases c:j=i/\y=x
 .obtain⟨rfl,rfl⟩:=c;rw[aJ ⟨rfl,rfl⟩,eg,nJ,aJ ⟨by omega,rfl⟩]
 .rw[aI c,hf];by_cases d:(me j).fr (y/8)=0
  .rw[aJ d,aJ d]
  .rw[aI d,aI d,aI];rintro⟨e1,e2⟩;have:=w.alone hg h1 hi hj (by omega:x/8<16) (by omega:y/8<16) eg bG;exact c ⟨this.1.symm,bG⟩
theorem G5(m:Me)(k:Bk)(x:Nat):∀j,(gU m k x j).dc=k.dc:=by
 intro j
 induction j with
 |zero=>rfl
 |succ j ih=>
  show(if m.fr (x+j)=0 then gU m k x j else ko (gU m k x j) (m.fr (x+j)-1)).dc=k.dc;split
  .exact ih
  .exact ih
def mf(fl:Nat->Nat->Int)(i a e:Nat):Nat->Nat->Int:=λj y=>if j=i/\a<=y/\y<e then 0 else fl j y
theorem pd.Cp(h:pd k N me fl):pd (gU (me i) k x n) N (im me i (gV (me i) x (x+n))) (mf fl i (8*x) (8*(x+n))):=λj hj y hy=>by
 have hf:=h j hj y hy;rw[G5];unfold mf;by_cases c:j=i
 .subst c;rw[dZ];have e:(gV (me j) x (x+n)).fr (y/8)=if x<=y/8/\y/8<x+n then 0 else(me j).fr (y/8):=rfl;rw[e];by_cases d:x<=y/8/\y/8<x+n
  .rw[aJ d,aJ rfl,aJ ⟨rfl,bG,bG⟩]
  .rw[aI d,aI (λc=>d bG),hf]
 .rw[gv _ _ _ _ c,aI (λd=>c d.1),hf]
end
end Mv
