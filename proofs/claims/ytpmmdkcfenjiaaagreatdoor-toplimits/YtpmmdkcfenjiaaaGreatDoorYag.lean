import Derived.Test.YtpmmdkcfenjiaaaGreatDoorYaf
namespace Go.Proofs.YtpmmdkcfenjiaaaGreatDoor
open Bool renaming true->bw,false->bA
open Bd (P)
variable {g i j n v:Nat}{b:P}
namespace Bd
theorem Ku(h:Inv b)(hi:i<64)(ho:2<=b.ord i)(hti:b.tk i=bA)(hj:j<64)(ht:b.tk j=bw):(half b i).ord j=b.ord j:=by
 obtain⟨k,hk⟩:∃k,b.ord i=k+1:=⟨b.ord i-1,bB⟩;have hs:=oO (k:=k) bB;have sp:=sL k;have j0:=h.tk j hj ht;have ou:=h.own i (i+sz k) hi bB bB (by rw[hk,hs];omega);unfold half up;show(if j=i+sz (b.ord i-1)then b.ord i-1 else if j=i then b.ord i-1 else b.ord j)=b.ord j;rw[hk,aP,aI (λc=>by rw[<-c]at ou;omega),aI (λc=>by rw[c,hti]at ht;cases ht)]
theorem Jh(hi:i<64)(hj:j<64):∀n {b:P},n<b.ord i->Inv b->b.tk i=bA->NB b i->b.tk j=bw->(parts b i n).ord j=b.ord j:=by
 intro n
 induction n with
 |zero=>intro b _ _ _ _ _;rfl
 |succ n ih=>
  intro b hn h1 h2 h3 h4;have a:=h1.half hi bB h2;have:=ih (b:=half b i) (by rw[a.2.1];omega) a.1 (by rw[a.2.2];exact h2) (h3.half h1 hi bB) (by rw[a.2.2];exact h4);show(parts (half b i) i n).ord j=_;rw[this,Ku h1 hi bB h2 hj h4]
theorem Jz(h:Inv b)(n:NB b 64){o:Nat}(k:Ht b o i)(hj:j<64)(ht:b.tk j=bw):(mu b o i).ord j=b.ord j:=
 Jh k.lt hj _ (by have:=k.ord;omega) h k.tk (n.but h i) ht
theorem IJ:∀(n:Nat) {b:P} {i:Nat},i<64->0<b.ord i->b.tk i=bA->Inv b->b.tk j=bw->(oV b i n).ord j=b.ord j:=by
 intro n
 induction n with
 |zero=>intro b i _ _ _ _ _;rfl
 |succ n ih=>
  intro b i hi h0 h2 h1 ht;show(if fX b i=bw then _ else b).ord j=b.ord j;by_cases c:fX b i=bw
  .rw[aJ c];unfold fX at c;simp only[Bool.and_eq_true,decide_eq_true_eq,Bool.not_eq_true']at c;have a:=h1.join hi h0 c.1 h2 c.2.1 c.2.2;rw[ih (b:=join b (min i (db i (sz (b.ord i)))) (max i (db i (sz (b.ord i))))) a.2.1 (by rw[a.2.2.1];omega) a.2.2.2 a.1 ht];have nf:j≠db i (sz (b.ord i)):=λe=>by rw[e,c.2.2]at ht;cases ht
   have ni:j≠i:=λe=>by rw[e,h2]at ht;cases ht
   show(if j=min i (db i (sz (b.ord i)))then _ else if j=max i (db i (sz (b.ord i)))then 0 else b.ord j)=b.ord j;rw[nJ,nJ]
  .rw[aI c]
theorem IB(h:Inv b)(hi:i<64)(hti:b.tk i=bw)(hji:j≠i)(ht:b.tk j=bw):(kL b i).ord j=b.ord j:=by
 have g:=h.tk i hi hti;have:=IJ (j:=j) 7 (b:={b with tk:=ov b.tk i bA}) (i:=i) hi g (by show(if i=i then bA else b.tk i)=bA;rw[aJ rfl]) ⟨h.le,h.al,h.own,h.De,λx hx hx0=>by
  have:(if x=i then bA else b.tk x)=bw:=hx0;by_cases c:x=i
  .rw[aJ c]at this;cases this
  .rw[aI c]at this;exact h.tk x hx this⟩ (by show(if j=i then bA else b.tk j)=bw;rw[aI hji];exact ht)
 exact this
end Bd
open Mv (Me Bk)
namespace Mv
def one(a b:Nat):Nat:=if a=b+1 then 1 else 0
theorem ND(fr:Nat->Nat)(f i v:Nat):∀n,eV (je fr i v) f n+(if i<n then one (fr i) f else 0)=eV fr f n+(if i<n then one v f else 0):=by
 intro n
 induction n with
 |zero=>rfl
 |succ n ih=>
  show eV (je fr i v) f n+one (je fr i v n) f+(if i<n+1 then one (fr i) f else 0)=eV fr f n+one (fr n) f+(if i<n+1 then one v f else 0);by_cases c:n=i
  .subst c;rw[aI (bV n),aI (bV n)]at ih;rw[aJ (Nat.lt_succ_self n),aJ (Nat.lt_succ_self n),show je fr n v n=v from aJ rfl];omega
  .rw[show je fr i v n=fr n from aI c];by_cases d:i<n
   .have d2:i<n+1:=bB
    rw[aJ d,aJ d]at ih;rw[aJ d2,aJ d2];omega
   .have d2:¬i<n+1:=bB
    rw[aI d,aI d]at ih;rw[aI d2,aI d2];omega
def lW(me:Nat->Me)(f:Nat):Nat->Nat
 |0=>0
 |i+1=>lW me f i+eV (me i).fr f 16
def j6(me:Nat->Me)(i:Nat)(m:Me):Nat->Me:=λj=>if j=i then m else me j
theorem fZ(me:Nat->Me)(i:Nat)(m:Me):j6 me i m i=m:=aJ rfl
theorem iW(me:Nat->Me)(i:Nat)(m:Me)(j:Nat)(h:j≠i):j6 me i m j=me j:=aI h
theorem Hm(me:Nat->Me)(f i:Nat)(m:Me):∀n,lW (j6 me i m) f n+(if i<n then eV (me i).fr f 16 else 0)=lW me f n+(if i<n then eV m.fr f 16 else 0):=by
 intro n
 induction n with
 |zero=>rfl
 |succ n ih=>
  show lW (j6 me i m) f n+eV (j6 me i m n).fr f 16+_=lW me f n+eV (me n).fr f 16+_;by_cases c:n=i
  .subst c;rw[nJ,nJ]at ih;rw[fZ,nK,nK];omega
  .rw[iW _ _ _ _ c];by_cases d:i<n
   .rw[aJ d,aJ d]at ih;rw[nK,nK];omega
   .rw[aI d,aI d]at ih;rw[nJ,nJ];omega
theorem vt(me:Nat->Me)(f n:Nat):lW me f n<=16*n:=by
 induction n with
 |zero=>exact aL 0
 |succ n ih=>show lW me f n+eV _ f 16<=_;have:=Gu (me n).fr f 16;omega
theorem Ux(me:Nat->Me)(f:Nat)(h:i<n):eV (me i).fr f 16<=lW me f n:=by
 induction n with
 |zero=>omega
 |succ n ih=>
  show _<=lW me f n+eV (me n).fr f 16;by_cases c:i=n
  .subst c;omega
  .have:=ih bB;omega
theorem Mr{me me':Nat->Me}(f:Nat):∀n,(∀i,i<n->∀x,x<16->(me' i).fr x=(me i).fr x)->lW me' f n=lW me f n:=by
 intro n
 induction n with
 |zero=>intro _;rfl
 |succ n ih=>
  intro h;show lW me' f n+eV _ f 16=lW me f n+eV _ f 16;rw[ih (λi hi=>h i bB),p9 (h n bB)]
structure gw (k:Bk)(N:Nat)(me:Nat->Me):Prop where
 inv:Bd.Inv k.dg
 nb:Bd.NB k.dg 64
 n8:N<=20
 le:∀i,i<N->∀n,n<16->(me i).fr n<=64
 ref:∀f,f<64->k.refs f=lW me f N
 tk:∀f,f<64->(k.dg.tk f=bw↔1<=k.refs f)
 one:∀f,f<64->k.dg.tk f=bw->k.dg.ord f=1
section
variable {k k':Bk}{N:Nat}{me me':Nat->Me}
theorem gw.refl(h:gw k N me)(f:Nat)(hf:f<64):k.refs f<=320:=by rw[h.ref f hf];have:=vt me f N;have:=h.n8;omega
theorem gw.cW(h:gw k N me)(hi:i<N):ym (me i) k:=⟨h.inv,h.nb,h.le i hi,λf hf=>⟨by rw[h.ref f hf];exact Ux me f hi,by have:=h.refl f hf;omega⟩⟩
theorem gw.held(h:gw k N me)(hi:i<N)(hn:n<16)(c:(me i).fr n≠0):1<=k.refs ((me i).fr n-1):=by
 have l:=h.le i hi n hn;have a:=(h.cW hi).cW ((me i).fr n-1) bB;have b:=Dc (fr:=(me i).fr) (f:=(me i).fr n-1) (n:=16) hn bB;omega
theorem gw.Tz(h:gw k N me)(hi:i<N):qY (me i) k:=⟨h.inv,h.nb,h.le i hi,λn hn c=>⟨h.held hi hn c,by have l:=h.le i hi n hn;have:=h.refl ((me i).fr n-1) bB;omega⟩,λf hf c=>(h.tk f hf).2 c⟩
theorem gw.congr(h:gw k N me)(e:∀i,i<N->∀x,x<16->(me' i).fr x=(me i).fr x):gw k N me':=⟨h.inv,h.nb,h.n8,λi hi n hn=>by rw[e i hi n hn];exact h.le i hi n hn,λf hf=>by rw[h.ref f hf,Mr f N e],h.tk,h.one⟩
theorem gw.kP(h:gw k N me)(hi:i<N)(hn:n<16)(hv:v<=64)(inv:Bd.Inv k'.dg)(nb:Bd.NB k'.dg 64)
  (hr:∀f,f<64->k'.refs f+Mv.one ((me i).fr n) f=k.refs f+Mv.one v f) (ht:∀f,f<64->(k'.dg.tk f=bw↔1<=k'.refs f)) (ho:∀f,f<64->k'.dg.tk f=bw->k'.dg.ord f=1):
  gw k' N (j6 me i {(me i)with fr:=je (me i).fr n v}):=by
 refine⟨inv,nb,h.n8,λj hj x hx=>?_,λf hf=>?_,ht,ho⟩
 .by_cases c:j=i
  .subst c;rw[fZ];show(if x=n then v else(me j).fr x)<=64;split
   .exact hv
   .exact h.le j hj x hx
  .rw[iW _ _ _ _ c];exact h.le j hj x hx
 .have a:=Hm me f i {(me i)with fr:=je (me i).fr n v} N;rw[aJ hi,aJ hi]at a;have b:=ND (me i).fr f n v 16;rw[aJ hn,aJ hn]at b;have c:=hr f hf;have d:=h.ref f hf;have e:({(me i)with fr:=je (me i).fr n v}:Me).fr=je (me i).fr n v:=rfl;rw[e]at a;omega
theorem gw.drop(h:gw k N me)(hi:i<N)(hn:n<16)(hv:(me i).fr n=v+1):gw (kF k v) N (j6 me i {(me i)with fr:=je (me i).fr n 0}):=by
 have l:=h.le i hi n hn;have hd:=h.held hi hn bB;rw[hv,aP]at hd;have v64:v<64:=bB
 have tv:=(h.tk v v64).2 hd;have ip:Bd.Inv (kF k v).dg/\Bd.NB (kF k v).dg 64:=by
  show Bd.Inv (if _ then _ else _)/\Bd.NB (if _ then _ else _) 64;split
  .exact h.inv.Tx h.nb _
  .exact⟨h.inv,h.nb⟩
 have er:∀f,(kF k v).refs f=if f=v then k.refs v-1 else k.refs f:=λf=>rfl;have eg:Bd.lE k.dg (v:Int)=Bd.kL k.dg v:=by
  unfold Bd.lE Bd.ix;rw[aI (by omega:¬((v:Int)<0\/63<(v:Int))),hZ,aJ tv,aJ rfl]
 have gb:=h.inv.kL h.nb v64 tv;refine h.kP hi hn bB ip.1 ip.2 (λf hf=>?_) (λf hf=>?_) (λf hf=>?_)
 .rw[er,hv];unfold Mv.one;by_cases c:f=v
  .subst c;rw[aJ rfl,aJ rfl,nJ];omega
  .rw[aI c,nJ,nJ]
 .rw[er];show(if k.refs v=1 then Bd.lE k.dg v else k.dg).tk f=bw↔_;by_cases r1:k.refs v=1
  .rw[aJ r1,eg,gb.2.2];show(if f=v then bA else k.dg.tk f)=bw↔_;by_cases c:f=v
   .rw[aJ c,aJ c];constructor
    .intro d;cases d
    .intro d;omega
   .rw[aI c,aI c];exact h.tk f hf
  .rw[aI r1];by_cases c:f=v
   .subst c;rw[aJ rfl];exact⟨λ_=>bB,λ_=>tv⟩
   .rw[aI c];exact h.tk f hf
 .show(if k.refs v=1 then Bd.lE k.dg v else k.dg).tk f=bw->(if k.refs v=1 then Bd.lE k.dg v else k.dg).ord f=1;by_cases r1:k.refs v=1
  .rw[aJ r1,eg];intro d;rw[gb.2.2]at d;have d':(if f=v then bA else k.dg.tk f)=bw:=d;by_cases c:f=v
   .rw[aJ c]at d';cases d'
   .rw[aI c]at d';rw[Bd.IB h.inv v64 tv c d'];exact h.one f hf d'
  .rw[aI r1];exact h.one f hf
theorem gw.taken(h:gw k N me){k1:Bk}(t:uf k 0 g k1):g<64/\k.dg.tk g=bA/\k.refs g=0/\(∃p',k1=Gt k p' g/\Bd.Inv p'/\Bd.NB p' 64/\p'.tk g=bw/\p'.ord g=1/\(∀f,f≠g->p'.tk f=k.dg.tk f)/\∀f,f<64->k.dg.tk f=bw->p'.ord f=k.dg.ord f):=by
 obtain⟨p',t1,t2⟩:=t;rw[aJ rfl]at t2;have iv:=h.inv.take h.nb t1;rcases t1 with⟨_,c,_⟩|⟨_,_,c,_⟩|⟨_,hB,_,e⟩
 .omega
 .omega
 .have tb:=h.inv.mu h.nb hB;have g0:k.refs g=0:=by
   have:=h.tk g hB.lt;rw[hB.tk]at this;have:¬1<=k.refs g:=λc=>by cases this.2 c
   omega
  subst e;exact⟨hB.lt,hB.tk,g0,_,t2,iv.1,iv.2,tb.2.2.2.1,tb.2.2.1,λf hf=>tb.2.2.2.2.2 f hf,λf hf ht=>Bd.Jz h.inv h.nb hB hf ht⟩
theorem gw.fresh(h:gw k N me){k1:Bk}(hi:i<N)(hn:n<16)(h0:(me i).fr n=0)(t:uf k 0 g k1):gw k1 N (j6 me i {(me i)with fr:=je (me i).fr n (g+1)}):=by
 obtain⟨g64,gt,g0,p',rfl,i1,i2,i3,i4,i5,i6⟩:=h.taken t;refine h.kP hi hn bB i1 i2 (λf hf=>?_) (λf hf=>?_) (λf hf ht=>?_)
 .show(if f=g then 1 else k.refs f)+Mv.one ((me i).fr n) f=k.refs f+Mv.one (g+1) f;unfold Mv.one;rw[h0,aI (by omega:¬0=f+1)];by_cases c:f=g
  .subst c;rw[aJ rfl,aJ rfl];omega
  .rw[aI c,nJ]
 .show p'.tk f=bw↔1<=(if f=g then 1 else k.refs f);by_cases c:f=g
  .subst c;rw[aJ rfl,i3];exact⟨λ_=>bB,λ_=>rfl⟩
  .rw[aI c,i5 f c];exact h.tk f hf
 .have ht':p'.tk f=bw:=ht;show p'.ord f=1;by_cases c:f=g
  .subst c;exact i4
  .rw[i5 f c]at ht';rw[i6 f hf ht'];exact h.one f hf ht'
theorem gw.part(h:gw k N me){k1:Bk}(hi:i<N)(hn:n<16)(hv:(me i).fr n=v+1)(hr:k.refs v≠1)(t:uf k 0 g k1):gw (kF (Bl k1 v g) v) N (j6 me i {(me i)with fr:=je (me i).fr n (g+1)})/\v≠g/\(kF (Bl k1 v g) v).refs g=1:=by
 obtain⟨g64,gt,g0,p',rfl,i1,i2,i3,i4,i5,i6⟩:=h.taken t;have l:=h.le i hi n hn;have hd:=h.held hi hn bB;rw[hv,aP]at hd;have ne:v≠g:=λc=>by rw[c]at hd;omega
 have er:∀f,(kF (Bl (Gt k p' g) v g) v).refs f=if f=v then k.refs v-1 else if f=g then 1 else k.refs f:=λf=>by
  show(if f=v then(if v=g then 1 else k.refs v)-1 else if f=g then 1 else k.refs f)=_;rw[aI ne]
 have ep:(kF (Bl (Gt k p' g) v g) v).dg=p':=by
  show(if(if v=g then 1 else k.refs v)=1 then Bd.lE p' v else p')=p';rw[aI ne,aI hr]
 refine⟨h.kP hi hn bB (by rw[ep];exact i1) (by rw[ep];exact i2) (λf hf=>?_) (λf hf=>?_) (λf hf ht=>?_),ne,by rw[er,aI (bQ ne),aJ rfl]⟩
 .rw[er,hv];unfold Mv.one;by_cases c:f=v
  .subst c;rw[aJ rfl,aJ rfl,nJ];omega
  .rw[aI c,aI (by omega:¬v+1=f+1)];by_cases d:f=g
   .subst d;rw[aJ rfl,aJ rfl];omega
   .rw[aI d,nJ]
 .rw[er,ep];by_cases c:f=v
  .subst c;rw[aJ rfl,i5 f ne];exact⟨λ_=>bB,λ_=>(h.tk f hf).2 hd⟩
  .rw[aI c];by_cases d:f=g
   .subst d;rw[aJ rfl,i3];exact⟨λ_=>bB,λ_=>rfl⟩
   .rw[aI d,i5 f d];exact h.tk f hf
 .rw[ep]at ht|-;by_cases c:f=g
  .subst c;exact i4
  .rw[i5 f c]at ht;rw[i6 f hf ht];exact h.one f hf ht
theorem QC{k k1:Bk}{e:Int}(t:uf k e g k1)(c:e≠0):k1=k:=by
 obtain⟨p',t1,t2⟩:=t;rw[aI c]at t2;rcases t1 with⟨_,_,_,e⟩|⟨_,_,_,_,e⟩|⟨_,_,e,_⟩
 .subst e;exact t2
 .subst e;exact t2
 .exact aZ e c
theorem gw.Qs(h:gw k N me)(hi:i<N){z E:Int}{wr:Bool}{m':Me}(t:mH (me i) k z wr E g m' k'):gw k' N (j6 me i m')/\(E=0->wr=bw->k'.refs g=1):=by
 have same:gw k N (j6 me i (me i)):=h.congr (λj _ x _=>by
  by_cases c:j=i
  .subst c;rw[fZ]
  .rw[iW _ _ _ _ c])
 rcases t with⟨_,e,_,rfl,rfl⟩|⟨a,b,c,e,rfl,rfl,rfl⟩|⟨a,b,k1,t,c⟩
 .exact⟨same,λc=>bB⟩
 .exact⟨same,λ_ w=>by rcases c with c|c;rw[c]at w;cases w;exact c⟩
 .obtain⟨x,rfl,hx⟩:=Lr a;rw[hZ]at b c;rcases c with⟨e0,rfl,rfl⟩|⟨e0,rfl,rfl⟩
  .have:=QC t e0;subst this;exact⟨same,λc=>aZ c e0⟩
  .subst e0;by_cases f0:(me i).fr (x/8)=0
   .rw[aJ f0];refine⟨h.fresh hi bB f0 t,λ_ _=>?_⟩;obtain⟨_,_,_,p',rfl,_⟩:=h.taken t;show(if g=g then 1 else k.refs g)=1;rw[aJ rfl]
   .rw[aI f0];have hr:k.refs ((me i).fr (x/8)-1)≠1:=λc=>b ⟨f0, .inr c⟩;have r:=h.part hi (by omega:x/8<16) (v:=(me i).fr (x/8)-1) bB hr t;exact⟨r.1,λ_ _=>r.2.2⟩
theorem gw.Qx(h:gw k N me)(hi:i<N){x:Nat}:∀j,x+j<=16->gw (iX (me i) k x j) N (j6 me i (iF (me i) x (x+j))):=by
 intro j
 induction j with
 |zero=>
  intro _;refine h.congr (λa _ y _=>?_);by_cases c:a=i
  .subst c;rw[fZ];exact nJ
  .rw[iW _ _ _ _ c]
 |succ j ih=>
  intro hj;have w:=ih bB;have e0:(iF (me i) x (x+j)).fr (x+j)=(me i).fr (x+j):=nJ;have key:∀y,(iF (me i) x (x+(j+1))).fr y=je (iF (me i) x (x+j)).fr (x+j) 0 y:=λy=>by
   unfold je;by_cases c:y=x+j
   .subst c;rw[aJ rfl];exact(Mx (me i) x j).2
   .rw[aI c];exact(EH c).2
  by_cases c:(me i).fr (x+j)=0
  .rw[show iX (me i) k x (j+1)=iX (me i) k x j from aJ c];refine w.congr (λa _ y _=>?_);by_cases d:a=i
   .subst d;rw[fZ,fZ,key];unfold je;by_cases e:y=x+j
    .subst e;rw[aJ rfl,e0,c]
    .rw[aI e]
   .rw[iW _ _ _ _ d,iW _ _ _ _ d]
  .rw[show iX (me i) k x (j+1)=kF (iX (me i) k x j) ((me i).fr (x+j)-1)from aI c];have s:=w.drop (v:=(me i).fr (x+j)-1) hi (by omega:x+j<16) (by rw[fZ,e0];omega);refine s.congr (λa _ y _=>?_);by_cases d:a=i
   .subst d;rw[fZ,fZ,fZ,key]
   .rw[iW _ _ _ _ d,iW _ _ _ _ d,iW _ _ _ _ d]
end
end Mv
namespace Mv
section
variable {k k':Bk}{N:Nat}{me me':Nat->Me}{fl:Nat->Nat->Int}
theorem gw.bytes(h:gw k N me)(b:Nat->Nat->Int):gw {k with dO:=b} N me:=⟨h.inv,h.nb,h.n8,h.le,h.ref,h.tk,h.one⟩
end
end Mv
