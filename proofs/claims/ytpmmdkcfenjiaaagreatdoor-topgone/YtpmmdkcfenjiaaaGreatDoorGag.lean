import Derived.Test.YtpmmdkcfenjiaaaGreatDoorGaf
namespace Go.Proofs.YtpmmdkcfenjiaaaGreatDoor
open Bool renaming true->bw,false->bA
open Bd (P)
variable {g i j n v:Nat}{b p:P}
namespace Bd
theorem Kw(h:Inv b)(hi:i<64)(ho:2<=b.ord i)(hti:b.tk i=bA)(hj:j<64)(ht:b.tk j=bw):(half b i).ord j=b.ord j:=by
 obtain⟨k,hk⟩:∃k,b.ord i=k+1:=⟨b.ord i-1,bB⟩;have hs:=oW (k:=k) bB;have sp:=qY k;have j0:=h.tk j hj ht;have ou:=h.own i (i+sz k) hi bB bB (by rw[hk,hs];omega);unfold half up;show(if j=i+sz (b.ord i-1)then b.ord i-1 else if j=i then b.ord i-1 else b.ord j)=b.ord j;rw[hk,aP,aI (λc=>by rw[<-c]at ou;omega),aI (λc=>by rw[c,hti]at ht;cases ht)]
theorem Ji(hi:i<64)(hj:j<64):∀n {b:P},n<b.ord i->Inv b->b.tk i=bA->NB b i->b.tk j=bw->(parts b i n).ord j=b.ord j:=by
 intro n
 induction n with
 |zero=>intro b _ _ _ _ _;rfl
 |succ n ih=>
  intro b hn h1 h2 h3 h4;have a:=h1.half hi bB h2;have:=ih (b:=half b i) (by rw[a.2.1];omega) a.1 (by rw[a.2.2];exact h2) (h3.half h1 hi bB) (by rw[a.2.2];exact h4);show(parts (half b i) i n).ord j=_;rw[this,Kw h1 hi bB h2 hj h4]
theorem JC(h:Inv b)(n:NB b 64){o:Nat}(k:Hv b o i)(hj:j<64)(ht:b.tk j=bw):(mF b o i).ord j=b.ord j:=
 Ji k.lt hj _ (by have:=k.ord;omega) h k.tk (n.but h i) ht
theorem IJ:∀(n:Nat) {b:P} {i:Nat},i<64->0<b.ord i->b.tk i=bA->Inv b->b.tk j=bw->(px b i n).ord j=b.ord j:=by
 intro n
 induction n with
 |zero=>intro b i _ _ _ _ _;rfl
 |succ n ih=>
  intro b i hi h0 h2 h1 ht;show(if fT b i=bw then _ else b).ord j=b.ord j;by_cases c:fT b i=bw
  .rw[aJ c];unfold fT at c;simp only[Bool.and_eq_true,decide_eq_true_eq,Bool.not_eq_true']at c;have a:=h1.join hi h0 c.1 h2 c.2.1 c.2.2;rw[ih (b:=join b (min i (dm i (sz (b.ord i)))) (max i (dm i (sz (b.ord i))))) a.2.1 (by rw[a.2.2.1];omega) a.2.2.2 a.1 ht];have nf:j≠dm i (sz (b.ord i)):=λe=>by rw[e,c.2.2]at ht;cases ht
   have ni:j≠i:=λe=>by rw[e,h2]at ht;cases ht
   show(if j=min i (dm i (sz (b.ord i)))then _ else if j=max i (dm i (sz (b.ord i)))then 0 else b.ord j)=b.ord j;rw[nK,nK]
  .rw[aI c]
theorem IC(h:Inv b)(hi:i<64)(hti:b.tk i=bw)(hji:j≠i)(ht:b.tk j=bw):(kQ b i).ord j=b.ord j:=by
 have g:=h.tk i hi hti;have:=IJ (j:=j) 7 (b:={b with tk:=oG b.tk i bA}) (i:=i) hi g (by show(if i=i then bA else b.tk i)=bA;rw[aJ rfl]) ⟨h.le,h.al,h.own,h.yN,λx hx hx0=>by
  have:(if x=i then bA else b.tk x)=bw:=hx0;by_cases c:x=i
  .rw[aJ c]at this;cases this
  .rw[aI c]at this;exact h.tk x hx this⟩ (by show(if j=i then bA else b.tk j)=bw;rw[aI hji];exact ht)
 exact this
end Bd
open Mv (Me Bk)
namespace Mv
def one(a b:Nat):Nat:=if a=b+1 then 1 else 0
theorem ND(fr:Nat->Nat)(f i v:Nat):∀n,eS (jk fr i v) f n+(if i<n then one (fr i) f else 0)=eS fr f n+(if i<n then one v f else 0):=by
 intro n
 induction n with
 |zero=>rfl
 |succ n ih=>
  show eS (jk fr i v) f n+one (jk fr i v n) f+(if i<n+1 then one (fr i) f else 0)=eS fr f n+one (fr n) f+(if i<n+1 then one v f else 0);by_cases c:n=i
  .subst c;rw[aI (bV n),aI (bV n)]at ih;rw[aJ (Nat.lt_succ_self n),aJ (Nat.lt_succ_self n),show jk fr n v n=v from aJ rfl];omega
  .rw[show jk fr i v n=fr n from aI c];by_cases d:i<n
   .have d2:i<n+1:=bB
    rw[aJ d,aJ d]at ih;rw[aJ d2,aJ d2];omega
   .have d2:¬i<n+1:=bB
    rw[aI d,aI d]at ih;rw[aI d2,aI d2];omega
def oD(me:Nat->Me)(f:Nat):Nat->Nat
 |0=>0
 |i+1=>oD me f i+eS (me i).fr f 16
def kE(me:Nat->Me)(i:Nat)(m:Me):Nat->Me:=λj=>if j=i then m else me j
theorem gC(me:Nat->Me)(i:Nat)(m:Me):kE me i m i=m:=aJ rfl
theorem jz(me:Nat->Me)(i:Nat)(m:Me)(j:Nat)(h:j≠i):kE me i m j=me j:=aI h
theorem Hr(me:Nat->Me)(f i:Nat)(m:Me):∀n,oD (kE me i m) f n+(if i<n then eS (me i).fr f 16 else 0)=oD me f n+(if i<n then eS m.fr f 16 else 0):=by
 intro n
 induction n with
 |zero=>rfl
 |succ n ih=>
  show oD (kE me i m) f n+eS (kE me i m n).fr f 16+_=oD me f n+eS (me n).fr f 16+_;by_cases c:n=i
  .subst c;rw[nK,nK]at ih;rw[gC,nL,nL];omega
  .rw[jz _ _ _ _ c];by_cases d:i<n
   .rw[aJ d,aJ d]at ih;rw[nL,nL];omega
   .rw[aI d,aI d]at ih;rw[nK,nK];omega
theorem UA(me:Nat->Me)(f n:Nat):oD me f n<=16*n:=by
 induction n with
 |zero=>exact aL 0
 |succ n ih=>show oD me f n+eS _ f 16<=_;have:=Gw (me n).fr f 16;omega
theorem Uz(me:Nat->Me)(f:Nat)(h:i<n):eS (me i).fr f 16<=oD me f n:=by
 induction n with
 |zero=>omega
 |succ n ih=>
  show _<=oD me f n+eS (me n).fr f 16;by_cases c:i=n
  .subst c;omega
  .have:=ih bB;omega
theorem Mq{me me':Nat->Me}(f:Nat):∀n,(∀i,i<n->∀x,x<16->(me' i).fr x=(me i).fr x)->oD me' f n=oD me f n:=by
 intro n
 induction n with
 |zero=>intro _;rfl
 |succ n ih=>
  intro h;show oD me' f n+eS _ f 16=oD me f n+eS _ f 16;rw[ih (λi hi=>h i bB),qj (h n bB)]
structure fX (k:Bk)(N:Nat)(me:Nat->Me):Prop where
 inv:Bd.Inv k.cX
 nb:Bd.NB k.cX 64
 n8:N<=20
 le:∀i,i<N->∀n,n<16->(me i).fr n<=64
 ref:∀f,f<64->k.refs f=oD me f N
 tk:∀f,f<64->(k.cX.tk f=bw↔1<=k.refs f)
 one:∀f,f<64->k.cX.tk f=bw->k.cX.ord f=1
section
variable {k k':Bk}{N:Nat}{me me':Nat->Me}
theorem fX.refl(h:fX k N me)(f:Nat)(hf:f<64):k.refs f<=320:=by rw[h.ref f hf];have:=UA me f N;have:=h.n8;omega
theorem fX.cQ(h:fX k N me)(hi:i<N):yo (me i) k:=⟨h.inv,h.nb,h.le i hi,λf hf=>⟨by rw[h.ref f hf];exact Uz me f hi,by have:=h.refl f hf;omega⟩⟩
theorem fX.held(h:fX k N me)(hi:i<N)(hn:n<16)(c:(me i).fr n≠0):1<=k.refs ((me i).fr n-1):=by
 have l:=h.le i hi n hn;have a:=(h.cQ hi).cQ ((me i).fr n-1) bB;have b:=Dd (fr:=(me i).fr) (f:=(me i).fr n-1) (n:=16) hn bB;omega
theorem fX.Tx(h:fX k N me)(hi:i<N):rq (me i) k:=⟨h.inv,h.nb,h.le i hi,λn hn c=>⟨h.held hi hn c,by have l:=h.le i hi n hn;have:=h.refl ((me i).fr n-1) bB;omega⟩,λf hf c=>(h.tk f hf).2 c⟩
theorem fX.congr(h:fX k N me)(e:∀i,i<N->∀x,x<16->(me' i).fr x=(me i).fr x):fX k N me':=⟨h.inv,h.nb,h.n8,λi hi n hn=>by rw[e i hi n hn];exact h.le i hi n hn,λf hf=>by rw[h.ref f hf,Mq f N e],h.tk,h.one⟩
theorem fX.kU(h:fX k N me)(hi:i<N)(hn:n<16)(hv:v<=64)(inv:Bd.Inv k'.cX)(nb:Bd.NB k'.cX 64)
  (hr:∀f,f<64->k'.refs f+Mv.one ((me i).fr n) f=k.refs f+Mv.one v f) (ht:∀f,f<64->(k'.cX.tk f=bw↔1<=k'.refs f)) (ho:∀f,f<64->k'.cX.tk f=bw->k'.cX.ord f=1):
  fX k' N (kE me i {(me i)with fr:=jk (me i).fr n v}):=by
 refine⟨inv,nb,h.n8,λj hj x hx=>?_,λf hf=>?_,ht,ho⟩
 .by_cases c:j=i
  .subst c;rw[gC];show(if x=n then v else(me j).fr x)<=64;split
   .exact hv
   .exact h.le j hj x hx
  .rw[jz _ _ _ _ c];exact h.le j hj x hx
 .have a:=Hr me f i {(me i)with fr:=jk (me i).fr n v} N;rw[aJ hi,aJ hi]at a;have b:=ND (me i).fr f n v 16;rw[aJ hn,aJ hn]at b;have c:=hr f hf;have d:=h.ref f hf;have e:({(me i)with fr:=jk (me i).fr n v}:Me).fr=jk (me i).fr n v:=rfl;rw[e]at a;omega
theorem fX.drop(h:fX k N me)(hi:i<N)(hn:n<16)(hv:(me i).fr n=v+1):fX (kH k v) N (kE me i {(me i)with fr:=jk (me i).fr n 0}):=by
 have l:=h.le i hi n hn;have hd:=h.held hi hn bB;rw[hv,aP]at hd;have v64:v<64:=bB
 have tv:=(h.tk v v64).2 hd;have ip:Bd.Inv (kH k v).cX/\Bd.NB (kH k v).cX 64:=by
  show Bd.Inv (if _ then _ else _)/\Bd.NB (if _ then _ else _) 64;split
  .exact h.inv.Tw h.nb _
  .exact⟨h.inv,h.nb⟩
 have er:∀f,(kH k v).refs f=if f=v then k.refs v-1 else k.refs f:=λf=>rfl;have eg:Bd.lJ k.cX (v:Int)=Bd.kQ k.cX v:=by
  unfold Bd.lJ Bd.iA;rw[aI (by omega:¬((v:Int)<0\/63<(v:Int))),hU,aJ tv,aJ rfl]
 have gb:=h.inv.kQ h.nb v64 tv;refine h.kU hi hn bB ip.1 ip.2 (λf hf=>?_) (λf hf=>?_) (λf hf=>?_)
 .rw[er,hv];unfold Mv.one;by_cases c:f=v
  .subst c;rw[aJ rfl,aJ rfl,nK];omega
  .rw[aI c,nK,nK]
 .rw[er];show(if k.refs v=1 then Bd.lJ k.cX v else k.cX).tk f=bw↔_;by_cases r1:k.refs v=1
  .rw[aJ r1,eg,gb.2.2];show(if f=v then bA else k.cX.tk f)=bw↔_;by_cases c:f=v
   .rw[aJ c,aJ c];constructor
    .intro d;cases d
    .intro d;omega
   .rw[aI c,aI c];exact h.tk f hf
  .rw[aI r1];by_cases c:f=v
   .subst c;rw[aJ rfl];exact⟨λ_=>bB,λ_=>tv⟩
   .rw[aI c];exact h.tk f hf
 .show(if k.refs v=1 then Bd.lJ k.cX v else k.cX).tk f=bw->(if k.refs v=1 then Bd.lJ k.cX v else k.cX).ord f=1;by_cases r1:k.refs v=1
  .rw[aJ r1,eg];intro d;rw[gb.2.2]at d;have d':(if f=v then bA else k.cX.tk f)=bw:=d;by_cases c:f=v
   .rw[aJ c]at d';cases d'
   .rw[aI c]at d';rw[Bd.IC h.inv v64 tv c d'];exact h.one f hf d'
  .rw[aI r1];exact h.one f hf
theorem fX.taken(h:fX k N me){k1:Bk}(t:uE k 0 g k1):g<64/\k.cX.tk g=bA/\k.refs g=0/\(∃p',k1=Gv k p' g/\Bd.Inv p'/\Bd.NB p' 64/\p'.tk g=bw/\p'.ord g=1/\(∀f,f≠g->p'.tk f=k.cX.tk f)/\∀f,f<64->k.cX.tk f=bw->p'.ord f=k.cX.ord f):=by
 obtain⟨p',t1,t2⟩:=t;rw[aJ rfl]at t2;have iv:=h.inv.take h.nb t1;rcases t1 with⟨_,c,_⟩|⟨_,_,c,_⟩|⟨_,hB,_,e⟩
 .omega
 .omega
 .have tb:=h.inv.mF h.nb hB;have g0:k.refs g=0:=by
   have:=h.tk g hB.lt;rw[hB.tk]at this;have:¬1<=k.refs g:=λc=>by cases this.2 c
   omega
  subst e;exact⟨hB.lt,hB.tk,g0,_,t2,iv.1,iv.2,tb.2.2.2.1,tb.2.2.1,λf hf=>tb.2.2.2.2.2 f hf,λf hf ht=>Bd.JC h.inv h.nb hB hf ht⟩
theorem fX.fresh(h:fX k N me){k1:Bk}(hi:i<N)(hn:n<16)(h0:(me i).fr n=0)(t:uE k 0 g k1):fX k1 N (kE me i {(me i)with fr:=jk (me i).fr n (g+1)}):=by
 obtain⟨g64,gt,g0,p',rfl,i1,i2,i3,i4,i5,i6⟩:=h.taken t;refine h.kU hi hn bB i1 i2 (λf hf=>?_) (λf hf=>?_) (λf hf ht=>?_)
 .show(if f=g then 1 else k.refs f)+Mv.one ((me i).fr n) f=k.refs f+Mv.one (g+1) f;unfold Mv.one;rw[h0,aI (by omega:¬0=f+1)];by_cases c:f=g
  .subst c;rw[aJ rfl,aJ rfl];omega
  .rw[aI c,nK]
 .show p'.tk f=bw↔1<=(if f=g then 1 else k.refs f);by_cases c:f=g
  .subst c;rw[aJ rfl,i3];exact⟨λ_=>bB,λ_=>rfl⟩
  .rw[aI c,i5 f c];exact h.tk f hf
 .have ht':p'.tk f=bw:=ht;show p'.ord f=1;by_cases c:f=g
  .subst c;exact i4
  .rw[i5 f c]at ht';rw[i6 f hf ht'];exact h.one f hf ht'
theorem fX.part(h:fX k N me){k1:Bk}(hi:i<N)(hn:n<16)(hv:(me i).fr n=v+1)(hr:k.refs v≠1)(t:uE k 0 g k1):fX (kH (Bi k1 v g) v) N (kE me i {(me i)with fr:=jk (me i).fr n (g+1)})/\v≠g/\(kH (Bi k1 v g) v).refs g=1:=by
 obtain⟨g64,gt,g0,p',rfl,i1,i2,i3,i4,i5,i6⟩:=h.taken t;have l:=h.le i hi n hn;have hd:=h.held hi hn bB;rw[hv,aP]at hd;have ne:v≠g:=λc=>by rw[c]at hd;omega
 have er:∀f,(kH (Bi (Gv k p' g) v g) v).refs f=if f=v then k.refs v-1 else if f=g then 1 else k.refs f:=λf=>by
  show(if f=v then(if v=g then 1 else k.refs v)-1 else if f=g then 1 else k.refs f)=_;rw[aI ne]
 have ep:(kH (Bi (Gv k p' g) v g) v).cX=p':=by
  show(if(if v=g then 1 else k.refs v)=1 then Bd.lJ p' v else p')=p';rw[aI ne,aI hr]
 refine⟨h.kU hi hn bB (by rw[ep];exact i1) (by rw[ep];exact i2) (λf hf=>?_) (λf hf=>?_) (λf hf ht=>?_),ne,by rw[er,aI (bQ ne),aJ rfl]⟩
 .rw[er,hv];unfold Mv.one;by_cases c:f=v
  .subst c;rw[aJ rfl,aJ rfl,nK];omega
  .rw[aI c,aI (by omega:¬v+1=f+1)];by_cases d:f=g
   .subst d;rw[aJ rfl,aJ rfl];omega
   .rw[aI d,nK]
 .rw[er,ep];by_cases c:f=v
  .subst c;rw[aJ rfl,i5 f ne];exact⟨λ_=>bB,λ_=>(h.tk f hf).2 hd⟩
  .rw[aI c];by_cases d:f=g
   .subst d;rw[aJ rfl,i3];exact⟨λ_=>bB,λ_=>rfl⟩
   .rw[aI d,i5 f d];exact h.tk f hf
 .rw[ep]at ht|-;by_cases c:f=g
  .subst c;exact i4
  .rw[i5 f c]at ht;rw[i6 f hf ht];exact h.one f hf ht
theorem QG{k k1:Bk}{e:Int}(t:uE k e g k1)(c:e≠0):k1=k:=by
 obtain⟨p',t1,t2⟩:=t;rw[aI c]at t2;rcases t1 with⟨_,_,_,e⟩|⟨_,_,_,_,e⟩|⟨_,_,e,_⟩
 .subst e;exact t2
 .subst e;exact t2
 .exact aZ e c
theorem fX.Qs(h:fX k N me)(hi:i<N){z E:Int}{wr:Bool}{m':Me}(t:mO (me i) k z wr E g m' k'):fX k' N (kE me i m')/\(E=0->wr=bw->k'.refs g=1):=by
 have same:fX k N (kE me i (me i)):=h.congr (λj _ x _=>by
  by_cases c:j=i
  .subst c;rw[gC]
  .rw[jz _ _ _ _ c])
 rcases t with⟨_,e,_,rfl,rfl⟩|⟨a,b,c,e,rfl,rfl,rfl⟩|⟨a,b,k1,t,c⟩
 .exact⟨same,λc=>bB⟩
 .exact⟨same,λ_ w=>by rcases c with c|c;rw[c]at w;cases w;exact c⟩
 .obtain⟨x,rfl,hx⟩:=Lr a;rw[hU]at b c;rcases c with⟨e0,rfl,rfl⟩|⟨e0,rfl,rfl⟩
  .have:=QG t e0;subst this;exact⟨same,λc=>aZ c e0⟩
  .subst e0;by_cases f0:(me i).fr (x/8)=0
   .rw[aJ f0];refine⟨h.fresh hi bB f0 t,λ_ _=>?_⟩;obtain⟨_,_,_,p',rfl,_⟩:=h.taken t;show(if g=g then 1 else k.refs g)=1;rw[aJ rfl]
   .rw[aI f0];have hr:k.refs ((me i).fr (x/8)-1)≠1:=λc=>b ⟨f0, .inr c⟩;have r:=h.part hi (by omega:x/8<16) (v:=(me i).fr (x/8)-1) bB hr t;exact⟨r.1,λ_ _=>r.2.2⟩
theorem fX.Qy(h:fX k N me)(hi:i<N){x:Nat}:∀j,x+j<=16->fX (jc (me i) k x j) N (kE me i (iN (me i) x (x+j))):=by
 intro j
 induction j with
 |zero=>
  intro _;refine h.congr (λa _ y _=>?_);by_cases c:a=i
  .subst c;rw[gC];exact nK
  .rw[jz _ _ _ _ c]
 |succ j ih=>
  intro hj;have w:=ih bB;have e0:(iN (me i) x (x+j)).fr (x+j)=(me i).fr (x+j):=nK;have key:∀y,(iN (me i) x (x+(j+1))).fr y=jk (iN (me i) x (x+j)).fr (x+j) 0 y:=λy=>by
   unfold jk;by_cases c:y=x+j
   .subst c;rw[aJ rfl];exact(Mw (me i) x j).2
   .rw[aI c];exact(E9 c).2
  by_cases c:(me i).fr (x+j)=0
  .rw[show jc (me i) k x (j+1)=jc (me i) k x j from aJ c];refine w.congr (λa _ y _=>?_);by_cases d:a=i
   .subst d;rw[gC,gC,key];unfold jk;by_cases e:y=x+j
    .subst e;rw[aJ rfl,e0,c]
    .rw[aI e]
   .rw[jz _ _ _ _ d,jz _ _ _ _ d]
  .rw[show jc (me i) k x (j+1)=kH (jc (me i) k x j) ((me i).fr (x+j)-1)from aI c];have s:=w.drop (v:=(me i).fr (x+j)-1) hi (by omega:x+j<16) (by rw[gC,e0];omega);refine s.congr (λa _ y _=>?_);by_cases d:a=i
   .subst d;rw[gC,gC,gC,key]
   .rw[jz _ _ _ _ d,jz _ _ _ _ d,jz _ _ _ _ d]
end
end Mv
namespace Mv
section
variable {k k':Bk}{N:Nat}{me me':Nat->Me}{fl:Nat->Nat->Int}
theorem fX.bytes(h:fX k N me)(b:Nat->Nat->Int):fX {k with dJ:=b} N me:=⟨h.inv,h.nb,h.n8,h.le,h.ref,h.tk,h.one⟩
end
end Mv
namespace Bd
def kO(p:P):Nat->Nat
 |0=>0
 |i+1=>kO p i+if 0<p.ord i then sz (p.ord i)else 0
theorem QO(h:Inv p):∀j,j<64->∃i,i<=j/\0<p.ord i/\j<i+sz (p.ord i)/\kO p (j+1)=i+sz (p.ord i):=by
 intro j
 induction j with
 |zero=>
  intro _;obtain⟨a,a1,a2,a3⟩:=h.yN 0 bB;obtain rfl:a=0:=bB
  exact⟨0,bB,a2,a3,by show 0+(if 0<p.ord 0 then sz (p.ord 0)else 0)=_;rw[aJ a2]⟩
 |succ j ih=>
  intro hj;obtain⟨i,i1,i2,i3,i4⟩:=ih bB;show∃i',i'<=j+1/\0<p.ord i'/\j+1<i'+sz (p.ord i')/\kO p (j+1)+(if 0<p.ord (j+1)then sz (p.ord (j+1))else 0)=i'+sz (p.ord i');by_cases c:0<p.ord (j+1)
  .have e:i+sz (p.ord i)=j+1:=by
    by_cases d:j+1<i+sz (p.ord i)
    .have:=h.own i (j+1) bB i2 bB d;omega
    .omega
   have sp:=qY (p.ord (j+1));exact⟨j+1,bB,c,bB,by rw[aJ c,i4,e]⟩
  .obtain⟨a,a1,a2,a3⟩:=h.yN (j+1) hj;have ne:a≠j+1:=λd=>by rw[d]at a2;exact c a2
   have ea:a=i:=h.Iu (x:=j) bB bB a2 bB i1 i2 i3;subst ea;exact⟨a,bB,a2,a3,by rw[aI c,i4];rfl⟩
theorem Ni(h:Inv p):kO p 64=64:=by
 obtain⟨i,i1,i2,i3,i4⟩:=QO h 63 bB;have:=(h.al i bB i2).2;rw[i4];omega
end Bd
namespace Mv
def Al(k:Bk):Nat->Nat
 |0=>0
 |f+1=>Al k f+if k.refs f=0 then 1 else 0
theorem Ks{k:Bk}{N:Nat}{me:Nat->Me}(h:fX k N me):Al k 64=Bd.left k.cX:=by
 have key:∀j,j<=64->Bd.kR k.cX j+j=Bd.kO k.cX j+Al k j:=by
  intro j
  induction j with
  |zero=>intro _;rfl
  |succ j ih=>
   intro hj;have a:=ih bB;show Bd.kR k.cX j+(if 0<k.cX.ord j/\k.cX.tk j=bA then Bd.sz (k.cX.ord j)else 0)+(j+1)=Bd.kO k.cX j+(if 0<k.cX.ord j then Bd.sz (k.cX.ord j)else 0)+(Al k j+if k.refs j=0 then 1 else 0);have t:=h.tk j bB;cases c:k.cX.tk j
   .rw[c]at t;have r0:k.refs j=0:=by
     have:¬1<=k.refs j:=λd=>by cases t.2 d
     omega
    rw[aJ r0];by_cases d:0<k.cX.ord j
    .rw[aJ ⟨d,rfl⟩,aJ d];omega
    .rw[aI (λe=>d e.1),aI d];omega
   .have o:=h.one j bB c;have r1:=t.1 c;rw[aI (λe=>by cases e.2),o,nL,nK];have:Bd.sz 1=1:=rfl;omega
 have:=key 64 (aL _);rw[Bd.Ni h.inv]at this;show _=Bd.kR k.cX 64;omega
end Mv
