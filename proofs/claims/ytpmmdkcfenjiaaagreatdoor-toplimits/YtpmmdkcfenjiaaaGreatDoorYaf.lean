import Derived.Test.YtpmmdkcfenjiaaaGreatDoorYae
set_option maxRecDepth 100000
set_option maxHeartbeats 2000000
set_option linter.unusedVariables false
set_option linter.unusedSimpArgs false
namespace Go.Proofs.YtpmmdkcfenjiaaaGreatDoor
open Value renaming int->aa,pointer->ai,slice->aj,tuple->ao,bool->ar,agg->au
open IntKind renaming i64->az,u8->bc
open Ending renaming returned->bf
open Obj renaming cells->bh
open Option renaming some->bj,none->bu
open Bool renaming true->bw,false->bA
open Tryz (prog)
open Go.RowKit
variable {E e:Int}{a b f g i j n q r v x:Nat}{fs:Nat->Nat}{w:bD}
namespace Mv
structure Me where
 is:Nat->Nat
 fr:Nat->Nat
def kZ(a n:Int):Bool:=decide (a<0\/15<a\/n<1\/16-a<n)
def jY(m:Me)(z:Int)(wr:Bool):Bool:=if z<0\/127<z then bA else decide (m.is (z.toNat/8)=2)||(decide (m.is (z.toNat/8)=1)&& !wr)
def kV(m:Me)(z:Int):Bool:=jY m z bA&&decide (m.fr (z.toNat/8)=0)
def qJ(m:Me)(a e:Nat)(wr:Bool):Me:={m with is:=λi=>if a<=i/\i<e then(if wr then 2 else 1)else m.is i}
def anyM(m:Me)(a e:Nat):Bool:=(List.range 16).any (λi=>decide (a<=i/\i<e)&&decide (m.is i≠0))
def allM(m:Me)(a e:Nat):Bool:=(List.range 16).all (λi=> !decide (a<=i/\i<e)||decide (m.is i≠0))
def rT(m:Me)(a n:Int):Int:=if kZ a n=bw then 1 else if anyM m a.toNat (a.toNat+n.toNat)=bw then 3 else 0
def mapM(m:Me)(a n:Int)(wr:Bool):Me:=if rT m a n=0 then qJ m a.toNat (a.toNat+n.toNat) wr else m
def rV(m:Me)(a n:Int):Int:=if kZ a n=bw then 1 else if allM m a.toNat (a.toNat+n.toNat)=bw then 0 else 10
def vb(m:Me)(a n:Int)(wr:Bool):Me:=if rV m a n=0 then qJ m a.toNat (a.toNat+n.toNat) wr else m
def cM(m:Me):Nat->Nat
 |0=>0
 |k+1=>cM m k+if m.fr k=0 then 0 else 1
theorem si{a n:Int}(h:kZ a n=bA):∃x k:Nat,a=x/\n=k/\x<16/\1<=k/\x+k<=16:=by
 unfold kZ at h;rw[decide_eq_false_iff_not]at h;exact⟨a.toNat,n.toNat,bB,bB,bB,bB,bB⟩
theorem Li{m:Me}{wr:Bool}(hi:a<=i)(x:Nat):(qJ m a (i+1) wr).is x=if x=i then(if wr then 2 else 1)else(qJ m a i wr).is x:=by
 show(if a<=x/\x<i+1 then(if wr then 2 else 1)else m.is x)=if x=i then(if wr then 2 else 1)else(if a<=x/\x<i then(if wr then 2 else 1)else m.is x);by_cases c:x=i
 .rw[nK,aJ c]
 .rw[aI c];by_cases d:a<=x/\x<i
  .rw[nK,aJ d]
  .rw[nJ,aI d]
theorem Lh(m:Me)(a:Nat)(wr:Bool)(x:Nat):(qJ m a a wr).is x=m.is x:=by
 show(if a<=x/\x<a then _ else m.is x)=m.is x;rw[nJ]
theorem Nl{m:Me}{e:Nat}(he:e<=16):anyM m a e=bw↔∃i,a<=i/\i<e/\m.is i≠0:=by
 unfold anyM;rw[List.any_eq_true];constructor
 .rintro⟨i,_,h⟩;simp only[Bool.and_eq_true,decide_eq_true_eq]at h;exact⟨i,h.1.1,h.1.2,h.2⟩
 .rintro⟨i,h1,h2,h3⟩;exact⟨i,by simp;omega,by simp only[Bool.and_eq_true,decide_eq_true_eq];exact⟨⟨h1,h2⟩,h3⟩⟩
theorem CK{m:Me}{e:Nat}(he:e<=16):allM m a e=bw↔∀i,a<=i->i<e->m.is i≠0:=by
 unfold allM;rw[List.all_eq_true];constructor
 .intro h i h1 h2;have:=h i (by simp;omega);simp only[Bool.or_eq_true,Bool.not_eq_true',decide_eq_false_iff_not,decide_eq_true_eq]at this;rcases this with c|c
  .exact aZ ⟨h1,h2⟩ c
  .exact c
 .intro h i _;simp only[Bool.or_eq_true,Bool.not_eq_true',decide_eq_false_iff_not,decide_eq_true_eq];by_cases c:a<=i/\i<e
  .exact .inr (h i c.1 c.2)
  .exact .inl c
end Mv
open Mv (Me)
section
variable {w w':bD}{b r:Nat}{m m':Me}{own own':Nat->Bool}
def je(f:Nat->Nat)(i v:Nat):Nat->Nat:=λj=>if j=i then v else f j
end
theorem Dh(x:Nat):((x:Int)/8).toNat=x/8:=bB
section
attribute [local go_sem] Dh
end
theorem mr(m:Me)(k:Nat):Mv.cM m k<=k:=by
 induction k with
 |zero=>exact aL 0
 |succ k ih=>show Mv.cM m k+_<=k+1;split<;>omega
open Bd (P)
namespace Mv
structure Bk where
 dg:P
 dO:Nat->Nat->Int
 refs:Nat->Nat
def Gt(k:Bk)(p:P)(f:Nat):Bk:=⟨p,λg j=>if g=f then 0 else k.dO g j,λg=>if g=f then 1 else k.refs g⟩
def uf(k:Bk)(e:Int)(f:Nat)(k':Bk):Prop:=∃p',Bd.qo k.dg 0 e f p'/\k'=if e=0 then Gt k p' f else{k with dg:=p'}
def kF(k:Bk)(f:Nat):Bk:={k with refs:=λg=>if g=f then k.refs f-1 else k.refs g,dg:=if k.refs f=1 then Bd.lE k.dg f else k.dg}
end Mv
open Mv (Bk)
section
variable {w w':bD}{r q:Nat}{k k':Bk}
def PQ(g:Nat->Int):Array Value:=#[aa bc (g 0),aa bc (g 1),aa bc (g 2),aa bc (g 3),aa bc (g 4),aa bc (g 5),aa bc (g 6),aa bc (g 7)]
theorem px(g:Nat->Int)(j:Nat)(hj:j<8):(PQ g)[j]? =bj (aa bc (g j)):=by
 match j,hj with
 |0,_=>rfl
 |1,_=>rfl
 |2,_=>rfl
 |3,_=>rfl
 |4,_=>rfl
 |5,_=>rfl
 |6,_=>rfl
 |7,_=>rfl
end
theorem yz{p p':P}(h:Bd.qo p 0 e f p'):f<64:=by
 rcases h with⟨_,_,rfl,_⟩|⟨_,_,_,rfl,_⟩|⟨_,h,_,_⟩
 .decide
 .decide
 .exact h.lt
def Mv.CV:Bk:=⟨Bd.b0,λ_ _=>0,λ_=>0⟩
open Mv (Me Bk)
namespace Mv
def Bl(k:Bk)(f g:Nat):Bk:={k with dO:=λa i=>if a=g then k.dO f i else k.dO a i}
def mH(m:Me)(k:Bk)(z:Int)(wr:Bool)(E:Int)(g:Nat)(m':Me)(k':Bk):Prop:=
 (jY m z wr=bA/\E=10/\g=0/\m'=m/\k'=k)\/
 (jY m z wr=bw/\m.fr (z.toNat/8)≠0/\(wr=bA\/k.refs (m.fr (z.toNat/8)-1)=1)/\E=0/\g=m.fr (z.toNat/8)-1/\m'=m/\k'=k)\/
 (jY m z wr=bw/\¬(m.fr (z.toNat/8)≠0/\(wr=bA\/k.refs (m.fr (z.toNat/8)-1)=1))/\∃k1,uf k E g k1/\
  ((E≠0/\m'=m/\k'=k1)\/(E=0/\m'={m with fr:=je m.fr (z.toNat/8) (g+1)}/\k'=if m.fr (z.toNat/8)=0 then k1 else kF (Bl k1 (m.fr (z.toNat/8)-1) g) (m.fr (z.toNat/8)-1))))
end Mv
structure fS (b r q:Nat)(w w':bD):Prop where
 os:w'.os=w.os
 tape:w'.tape=w.tape
 output:w'.output=w.output
 size:w.heap.size<=w'.heap.size
 block:∀k,k<w.heap.size->k≠b->k≠r->k≠q->w'.heap[k]? =w.heap[k]?
section
variable {b r q:Nat}{u v w:bD}
theorem fS.refl(b r q:Nat)(w:bD):fS b r q w w:=⟨rfl,rfl,rfl,aL _,λ_ _ _ _ _=>rfl⟩
theorem fS.trans(h:fS b r q u v)(k:fS b r q v w):fS b r q u w:=⟨k.os.trans h.os,k.tape.trans h.tape,k.output.trans h.output,aH h.size k.size,λj hj h1 h2 h3=>(k.block j (aD hj h.size) h1 h2 h3).trans (h.block j hj h1 h2 h3)⟩
theorem fS.mem(h:bG b u v):fS b r q u v:=⟨h.os,h.tape,h.output,h.size,λk hk h1 _ _=>h.block k hk h1⟩
theorem fS.CQ(h:jm r q u v):fS b r q u v:=⟨h.os,h.tape,h.output,h.size,λk hk _ h1 h2=>h.block k hk h1 h2⟩
end
section
attribute [local go_sem] Dh
end
section
attribute [local go_sem] Dh
theorem Lr{m:Me}{z:Int}{wr:Bool}(h:Mv.jY m z wr=bw):∃x:Nat,z=x/\x<128:=by
 have hz:¬(z<0\/127<z):=λc=>by unfold Mv.jY at h;rw[aJ c]at h;cases h
 exact⟨z.toNat,bB,bB⟩
end
def Mv.Mi(k:Bk)(g j:Nat)(v:Int):Bk:={k with dO:=λa i=>if a=g/\i=j then v else k.dO a i}
theorem Uc(x:Nat):((x:Int)%8).toNat=x%8:=bB
section
attribute [local go_sem] Uc
end
namespace Mv
def eV(fr:Nat->Nat)(f:Nat):Nat->Nat
 |0=>0
 |i+1=>eV fr f i+if fr i=f+1 then 1 else 0
theorem p9{fr:Nat->Nat}(h:∀i,i<n->fs i=fr i):eV fs f n=eV fr f n:=by
 induction n with
 |zero=>rfl
 |succ n ih=>show eV fs f n+_=eV fr f n+_;rw[ih (λi hi=>h i bB),h n bB]
theorem NA{fr:Nat->Nat}(hi:i<n)(e:fr i=f+1)(h0:fs i=0)(h:∀j,j≠i->fs j=fr j):eV fs f n+1=eV fr f n:=by
 induction n with
 |zero=>omega
 |succ n ih=>
  show eV fs f n+(if fs n=f+1 then 1 else 0)+1=eV fr f n+if fr n=f+1 then 1 else 0;by_cases c:i=n
  .subst c;rw[p9 (λj hj=>h j bB),h0,e,nJ,aJ rfl]
  .rw[h n (λd=>c d.symm)];have:=ih bB;omega
theorem Ir{fr:Nat->Nat}(e:fr i≠f+1)(h0:fs i=0)(h:∀j,j≠i->fs j=fr j):eV fs f n=eV fr f n:=by
 induction n with
 |zero=>rfl
 |succ n ih=>
  show eV fs f n+_=eV fr f n+_;rw[ih];by_cases c:i=n
  .subst c;rw[h0,nJ,aI e]
  .rw[h n (λd=>c d.symm)]
theorem Dc{fr:Nat->Nat}(hi:i<n)(e:fr i=f+1):1<=eV fr f n:=by
 induction n with
 |zero=>omega
 |succ n ih=>
  show 1<=eV fr f n+if fr n=f+1 then 1 else 0;by_cases c:i=n
  .subst c;rw[aJ e];omega
  .have:=ih bB;omega
structure ym (m:Me)(k:Bk):Prop where
 inv:Bd.Inv k.dg
 nb:Bd.NB k.dg 64
 le:∀i,i<16->m.fr i<=64
 cW:∀f,f<64->eV m.fr f 16<=k.refs f/\k.refs f<2^59
def iF(m:Me)(a i:Nat):Me:=⟨λx=>if a<=x/\x<i then 0 else m.is x,λx=>if a<=x/\x<i then 0 else m.fr x⟩
def iX(m:Me)(k:Bk)(a:Nat):Nat->Bk
 |0=>k
 |j+1=>if m.fr (a+j)=0 then iX m k a j else kF (iX m k a j) (m.fr (a+j)-1)
def og(m:Me)(a:Nat):Nat->Nat
 |0=>0
 |j+1=>og m a j+if m.fr (a+j)=0 then 0 else 1
theorem UA(m:Me)(a j:Nat):og m a j<=j:=by
 induction j with
 |zero=>exact aL 0
 |succ j ih=>show og m a j+_<=j+1;split<;>omega
theorem ID(a j:Nat){α}(x y:α):(if a<=a+j/\a+j<a+(j+1)then x else y)=x:=nK
theorem Al(h:x≠a+j){α}(u v:α):(if a<=x/\x<a+(j+1)then u else v)=if a<=x/\x<a+j then u else v:=by
 by_cases c:a<=x/\x<a+j
 .rw[aJ c,nK]
 .rw[aI c,nJ]
theorem ym.step{m:Me}{k:Bk}(h:ym (iF m a (a+j)) (iX m k a j))(hj:a+j<16):ym (iF m a (a+(j+1))) (iX m k a (j+1)):=by
 have e0:(iF m a (a+j)).fr (a+j)=m.fr (a+j):=nJ;have e1:(iF m a (a+(j+1))).fr (a+j)=0:=ID a j _ _;have e2:∀x,x≠a+j->(iF m a (a+(j+1))).fr x=(iF m a (a+j)).fr x:=λx hx=>Al hx _ _;have le:∀i,i<16->(iF m a (a+(j+1))).fr i<=64:=λi hi=>by
  by_cases c:i=a+j
  .subst c;rw[e1];omega
  .rw[e2 i c];exact h.le i hi
 by_cases c:m.fr (a+j)=0
 .have eK:iX m k a (j+1)=iX m k a j:=aJ c;rw[eK];refine⟨h.inv,h.nb,le,λf hf=>?_⟩;rw[p9 (fr:=(iF m a (a+j)).fr) (λx _=>by
   by_cases d:x=a+j
   .subst d;rw[e1,e0,c]
   .exact e2 x d)]
  exact h.cW f hf
 .have eK:iX m k a (j+1)=kF (iX m k a j) (m.fr (a+j)-1):=aI c;rw[eK];have l:=h.le (a+j) hj;rw[e0]at l;have ip:Bd.Inv (kF (iX m k a j) (m.fr (a+j)-1)).dg/\Bd.NB (kF (iX m k a j) (m.fr (a+j)-1)).dg 64:=by
   show Bd.Inv (if _ then _ else _)/\Bd.NB (if _ then _ else _) 64;split
   .exact h.inv.Tx h.nb _
   .exact⟨h.inv,h.nb⟩
  refine⟨ip.1,ip.2,le,λf hf=>?_⟩;have hc:=h.cW f hf;show _<=(if f=m.fr (a+j)-1 then(iX m k a j).refs (m.fr (a+j)-1)-1 else(iX m k a j).refs f)/\(if f=m.fr (a+j)-1 then(iX m k a j).refs (m.fr (a+j)-1)-1 else(iX m k a j).refs f)<2^59;by_cases d:f=m.fr (a+j)-1
  .have:=NA (f:=f) hj (by rw[e0];omega) e1 e2;rw[aJ d,<-d];omega
  .rw[aI d,Ir (fr:=(iF m a (a+j)).fr) (by rw[e0];omega) e1 e2];exact hc
end Mv
theorem EH{m:Me}(h:x≠a+j):(Mv.iF m a (a+(j+1))).is x=(Mv.iF m a (a+j)).is x/\(Mv.iF m a (a+(j+1))).fr x=(Mv.iF m a (a+j)).fr x:=⟨Mv.Al h _ _,Mv.Al h _ _⟩
theorem Mx(m:Me)(a j:Nat):(Mv.iF m a (a+(j+1))).is (a+j)=0/\(Mv.iF m a (a+(j+1))).fr (a+j)=0:=⟨Mv.ID a j _ _,Mv.ID a j _ _⟩
def Mv.pL(a n:Int):Int:=if kZ a n=bw then 1 else 0
def Mv.rL(m:Me)(a n:Int):Nat:=if kZ a n=bw then 0 else og m a.toNat n.toNat
def Mv.kH(m:Me)(a n:Int):Me:=if kZ a n=bw then m else iF m a.toNat (a.toNat+n.toNat)
def Mv.nM(m:Me)(k:Bk)(a n:Int):Bk:=if kZ a n=bw then k else iX m k a.toNat n.toNat
def nU(q:Nat)(k:Bk)(o:Nat):Value:=if o=0 then ai (bj ⟨q,0,bu⟩)else if(o-1)%9=0 then aa az (k.refs ((o-1)/9):Int)else aa bc (k.dO ((o-1)/9) ((o-1)%9-1))
structure dN (w:bD)(r q:Nat)(k:Bk):Prop where
 da:∃C,w.heap[r]? =bj (bh C 219 (0,0))/\C.size=577
 cell:∀o,o<577->w.cell? ⟨r,o,bu⟩=bj (nU q k o)
 dg:eC w q k.dg
 ne:q≠r
section
variable {w w':bD}{r q:Nat}{k k':Bk}
theorem dN.drew(h:dN w r q k):dN w.drew r q k:=⟨h.da,h.cell,h.dg.drew,h.ne⟩
theorem dN.frozen(h:dN w r q k)(o:Nat):w.frozen? ⟨r,o,bu⟩=bA:=by obtain⟨C,h1,_⟩:=h.da;exact cE h1 o
theorem dN.lt(h:dN w r q k):r<w.heap.size:=by obtain⟨C,h1,_⟩:=h.da;exact(aX.1 h1).1
theorem dN.DQ(h:dN w r q k):q<w.heap.size:=h.dg.lt
theorem dN.same(h:dN w r q k)(e:w'.heap[r]? =w.heap[r]?)(e2:w'.heap[q]? =w.heap[q]?):dN w' r q k:=⟨by rw[e];exact h.da,λo ho=>(aV e).trans (h.cell o ho),h.dg.same e2,h.ne⟩
theorem dN.below(h:dN w r q k)(b:Below w.heap.size w w'):dN w' r q k:=h.same (b.block r h.lt) (b.block q h.DQ)
theorem dN.Fj(h:dN w r q k){p:P}(f:bG q w w')(kp:eC w' q p):dN w' r q {k with dg:=p}:=by
 have e:=f.block r h.lt (bQ h.ne);exact⟨by rw[e];exact h.da,λo ho=>(aV e).trans (h.cell o ho),kp,h.ne⟩
theorem dN.cP(h:dN w r q k):w.cell? ⟨r,0,bu⟩=bj (ai (bj ⟨q,0,bu⟩)):=h.cell 0 bB
theorem dN.cB(h:dN w r q k)(f j:Nat)(hf:f<64)(hj:j<8):w.cell? ⟨r,1+f*9+1+j,bu⟩=bj (aa bc (k.dO f j)):=by
 rw[h.cell _ bB,nU,nJ,nJ,show(1+f*9+1+j-1)/9=f by omega,show(1+f*9+1+j-1)%9-1=j by omega]
theorem dN.yK(h:dN w r q k)(f:Nat)(hf:f<64):w.cell? ⟨r,1+f*9,bu⟩=bj (aa az (k.refs f:Int)):=by
 rw[h.cell _ bB,nU,nJ,nK,show(1+f*9-1)/9=f by omega]
theorem eC.GC{p:P}(h:eC w q p)(hne:q≠r)(o:Nat)(v:Value):eC (w.setCell ⟨r,o,bu⟩ v) q p:=h.same (dE _ _ _ _ hne)
theorem dN.set(h:dN w r q k)(o:Nat)(ho:o<577)(v:Value)(hp:k'.dg=k.dg)(hv:∀i,i<577->nU q k' i=if i=o then v else nU q k i):dN (w.setCell ⟨r,o,bu⟩ v) r q k':=by
 obtain⟨C,h1,h2⟩:=h.da;refine⟨⟨_,cQ h1 _ v,by simpa using h2⟩,λi hi=>?_,by rw[hp];exact h.dg.GC h.ne o v,h.ne⟩;rw[hv i hi];by_cases e:i=o
 .subst e;rw[dF h1 _ v bB,aJ rfl]
 .rw[dm h1 _ _ v (bQ e),aI e];exact h.cell i hi
theorem dN.sG(h:dN w r q k)(f v:Nat)(hf:f<64):dN (w.setCell ⟨r,1+f*9,bu⟩ (aa az (v:Int))) r q {k with refs:=λg=>if g=f then v else k.refs g}:=by
 refine h.set (1+f*9) bB _ rfl (λx hx=>?_);unfold nU;by_cases c0:x=0
 .rw[aJ c0,aJ c0,nJ]
 .rw[aI c0,aI c0];by_cases c:(x-1)%9=0
  .rw[aJ c,aJ c];by_cases e:x=1+f*9
   .rw[aJ e];simp[show(x-1)/9=f by omega]
   .rw[aI e];simp[show(x-1)/9≠f by omega]
  .rw[aI c,aI c,nJ]
theorem dN.VO(h:dN w r q k)(f j:Nat)(v:Int)(hf:f<64)(hj:j<8):dN (w.setCell ⟨r,1+f*9+1+j,bu⟩ (aa bc v)) r q (Mv.Mi k f j v):=by
 refine h.set (1+f*9+1+j) bB _ rfl (λx hx=>?_);unfold nU Mv.Mi;by_cases c0:x=0
 .rw[aJ c0,aJ c0,nJ]
 .rw[aI c0,aI c0];by_cases c:(x-1)%9=0
  .rw[aJ c,aJ c,nJ]
  .rw[aI c,aI c];by_cases e:x=1+f*9+1+j
   .rw[aJ e];simp[show(x-1)/9=f by omega,show(x-1)%9-1=j by omega]
   .rw[aI e];simp[show¬((x-1)/9=f/\(x-1)%9-1=j)by omega]
def yR(n:Int)(g:Nat->Int):Array Value:=#[aa az n,aa bc (g 0),aa bc (g 1),aa bc (g 2),aa bc (g 3),aa bc (g 4),aa bc (g 5),aa bc (g 6),aa bc (g 7)]
theorem mR(n:Int)(g:Nat->Int)(j:Nat)(hj:j<9):(yR n g)[j]? =bj (if j=0 then aa az n else aa bc (g (j-1))):=by
 match j,hj with
 |0,_=>rfl
 |1,_=>rfl
 |2,_=>rfl
 |3,_=>rfl
 |4,_=>rfl
 |5,_=>rfl
 |6,_=>rfl
 |7,_=>rfl
 |8,_=>rfl
def Mv.xO(k:Bk)(f n:Nat)(g:Nat->Int):Bk:={k with dO:=λa i=>if a=f then g i else k.dO a i,refs:=λa=>if a=f then n else k.refs a}
theorem dN.Pd(h:dN w r q k)(f n:Nat)(hf:f<64)(g:Nat->Int):dN (w.setCells r (1+f*9) (yR (n:Int) g).toList) r q (Mv.xO k f n g):=by
 obtain⟨C,h1,h2⟩:=h.da;have ht:∀j,j<9->(w.cell? ⟨r,1+f*9+j,bu⟩).isSome=bw:=λj hj=>by rw[h.cell _ bB];rfl
 have hs:(yR (n:Int) g).toList.length=9:=rfl;obtain⟨C',k1,k2⟩:=eP r (yR (n:Int) g).toList (1+f*9) w C h1;refine⟨⟨C',k1,bB⟩,λx hx=>?_,h.dg.same (ng r _ _ _ _ h.ne),h.ne⟩;by_cases c:1+f*9<=x/\x<1+f*9+9
 .obtain⟨j,rfl,hj⟩:∃j,x=1+f*9+j/\j<9:=⟨x-(1+f*9),bB,bB⟩;rw[aS r (yR (n:Int) g).toList (1+f*9) w (λi hi=>ht i bB) j bB,<-aW bB,aM,mR _ g j hj];unfold nU Mv.xO;rw[aI (show¬1+f*9+j=0 by omega),show(1+f*9+j-1)/9=f by omega,show(1+f*9+j-1)%9=j by omega];simp
 .rw[aA r _ (1+f*9) w ⟨r,x,bu⟩ (λ_ _=>by rw[hs];show x<_\/_<=x;omega),h.cell x hx];unfold nU Mv.xO;by_cases c0:x=0
  .rw[aJ c0,aJ c0]
  .rw[aI c0,aI c0];simp[show(x-1)/9≠f by omega]
end
def lD(r:Nat)(m:Me)(o:Nat):Value:=if o=0 then ai (bj ⟨r,0,bu⟩)else if(o-1)%2=0 then aa az (m.is ((o-1)/2):Int)else aa az ((m.fr ((o-1)/2):Int)-1)
structure dj (w:bD)(b r:Nat)(m:Me):Prop where
 da:∃C,w.heap[b]? =bj (bh C 186 (0,0))/\C.size=33
 cell:∀o,o<33->w.cell? ⟨b,o,bu⟩=bj (lD r m o)
section
variable {w w':bD}{b r:Nat}{m m':Me}
theorem dj.drew(h:dj w b r m):dj w.drew b r m:=⟨h.da,h.cell⟩
theorem dj.frozen(h:dj w b r m)(o:Nat):w.frozen? ⟨b,o,bu⟩=bA:=by obtain⟨C,h1,_⟩:=h.da;exact cE h1 o
theorem dj.lt(h:dj w b r m):b<w.heap.size:=by obtain⟨C,h1,_⟩:=h.da;exact(aX.1 h1).1
theorem dj.same(h:dj w b r m)(e:w'.heap[b]? =w.heap[b]?):dj w' b r m:=⟨by rw[e];exact h.da,λo ho=>(aV e).trans (h.cell o ho)⟩
theorem dj.below(h:dj w b r m)(k:Below w.heap.size w w'):dj w' b r m:=h.same (k.block b h.lt)
theorem dj.congr(h:dj w b r m)(e:∀n,n<16->m'.is n=m.is n/\m'.fr n=m.fr n):dj w b r m':=⟨h.da,λo ho=>by
 rw[h.cell o ho];unfold lD;by_cases c:o=0
 .rw[aJ c,aJ c]
 .rw[aI c,aI c,(e _ bB).1,(e _ bB).2]⟩
theorem dj.sW(h:dj w b r m):w.cell? ⟨b,0,bu⟩=bj (ai (bj ⟨r,0,bu⟩)):=h.cell 0 bB
theorem dj.Vq(h:dj w b r m)(i:Nat)(hi:i<16):w.cell? ⟨b,1+i*2,bu⟩=bj (aa az (m.is i:Int)):=by
 rw[h.cell _ bB,lD,nJ,nK,show(1+i*2-1)/2=i by omega]
theorem dj.wK(h:dj w b r m)(i:Nat)(hi:i<16):w.cell? ⟨b,1+i*2+1,bu⟩=bj (aa az ((m.fr i:Int)-1)):=by
 rw[h.cell _ bB,lD,nJ,nJ,show(1+i*2+1-1)/2=i by omega]
theorem dj.set(h:dj w b r m)(o:Nat)(ho:o<33)(v:Value)(hv:∀i,i<33->lD r m' i=if i=o then v else lD r m i):dj (w.setCell ⟨b,o,bu⟩ v) b r m':=by
 obtain⟨C,h1,h2⟩:=h.da;refine⟨⟨_,cQ h1 _ v,by simpa using h2⟩,λi hi=>?_⟩;rw[hv i hi];by_cases e:i=o
 .subst e;rw[dF h1 _ v bB,aJ rfl]
 .rw[dm h1 _ _ v (bQ e),aI e];exact h.cell i hi
theorem dj.Qo(h:dj w b r m)(i v:Nat)(hi:i<16):dj (w.setCell ⟨b,1+i*2,bu⟩ (aa az (v:Int))) b r {m with is:=je m.is i v}:=by
 refine h.set (1+i*2) bB _ (λx hx=>?_);unfold lD je;by_cases c0:x=0
 .rw[aJ c0,aJ c0,nJ]
 .rw[aI c0,aI c0];by_cases c:(x-1)%2=0
  .rw[aJ c,aJ c];by_cases e:x=1+i*2
   .rw[aJ e];simp[show(x-1)/2=i by omega]
   .rw[aI e];simp[show(x-1)/2≠i by omega]
  .rw[aI c,aI c,nJ]
theorem dj.Cw(h:dj w b r m)(i v:Nat)(hi:i<16)(u:Int)(hu:u=(v:Int)-1):dj (w.setCell ⟨b,1+i*2+1,bu⟩ (aa az u)) b r {m with fr:=je m.fr i v}:=by
 subst hu;refine h.set (1+i*2+1) bB _ (λx hx=>?_);unfold lD je;by_cases c0:x=0
 .rw[aJ c0,aJ c0,nJ]
 .rw[aI c0,aI c0];by_cases c:(x-1)%2=0
  .rw[aJ c,aJ c,nJ]
  .rw[aI c,aI c];by_cases e:x=1+i*2+1
   .rw[aJ e];simp[show(x-1)/2=i by omega]
   .rw[aI e];simp[show(x-1)/2≠i by omega]
end
structure UB (w:bD)(b r q:Nat)(m:Me)(k:Bk):Prop where
 me:dj w b r m
 bk:dN w r q k
 br:b≠r
 bq:b≠q
section
variable {b r q:Nat}{u v w:bD}
theorem dN.mS{k:Bk}(h:dN u r q k)(f:bG b u v)(h1:b≠r)(h2:b≠q):dN v r q k:=h.same (f.block r h.lt (bQ h1)) (f.block q h.DQ (bQ h2))
theorem dj.two{m:Me}(h:dj u b r m)(f:jm r q u v)(h1:b≠r)(h2:b≠q):dj v b r m:=h.same (f.block b h.lt h1 h2)
theorem UB.below{m:Me}{k:Bk}(h:UB u b r q m k)(f:Below u.heap.size u v):UB v b r q m k:=⟨h.me.below f,h.bk.below f,h.br,h.bq⟩
theorem UB.drew{m:Me}{k:Bk}(h:UB u b r q m k):UB u.drew b r q m k:=⟨h.me.drew,h.bk.drew,h.br,h.bq⟩
theorem fS.drew(h:fS b r q u v):fS b r q u v.drew:=⟨h.os,h.tape,h.output,h.size,h.block⟩
theorem fS.below(h:Below u.heap.size u v):fS b r q u v:=⟨h.os,h.tape,h.output,h.size,λk hk _ _ _=>h.block k hk⟩
end
def Fa:Array Value:=((List.range 577).map λi=>if i=0 then ai bu else if(i-1)%9=0 then aa az 0 else aa .u8 0).toArray
theorem Vh:Tryz.zeroCells219=Fa:=by kernel_rfl
theorem Vg(i:Nat)(h:i<577):Fa[i]? =bj (if i=0 then ai bu else if(i-1)%9=0 then aa az 0 else aa .u8 0):=by simp[Fa,h]
theorem Vf(h:w.heap[r]? =bj (bh (Fa.setIfInBounds 0 (ai (bj ⟨q,0,bu⟩))) 219 (0,0)))(hp:eC w q Bd.b0)(hne:q≠r):dN w r q Mv.CV:=by
 refine⟨⟨_,h,by simp[Fa]⟩,λo ho=>?_,hp,hne⟩;rw[bR h];unfold nU;by_cases c:o=0
 .subst c;rw[aE (by simp[Fa]),aJ rfl]
 .rw[aU bB,Vg o ho,aI c,aI c];split<;>rfl
theorem E5(w:bD):Calls prog 86 #[] w λe w'=>∃r,e=bf (ai (bj ⟨r,0,bu⟩))/\dN w' r w.heap.size Mv.CV/\Below w.heap.size w w'/\w.heap.size<r:=by
 go_in
 go_wp2_with fail
 refine sC (Nz _) ?_;rintro w1 ⟨hk,hb,hs⟩;have FIN:Hid (dN (w1.alloc (bh (Tryz.zeroCells219.setIfInBounds 0 (ai (bj ⟨w.heap.size,0,bu⟩))) 219)) w1.heap.size w.heap.size Mv.CV/\Below w.heap.size w (w1.alloc (bh (Tryz.zeroCells219.setIfInBounds 0 (ai (bj ⟨w.heap.size,0,bu⟩))) 219))/\w.heap.size<w1.heap.size):=hJ (by
  rw[Vh];have bb:Below w1.heap.size w1 (w1.alloc (bh (Fa.setIfInBounds 0 (ai (bj ⟨w.heap.size,0,bu⟩))) 219)):=(aQ _ _).alloc (aL _) _;exact⟨Vf (heap_alloc_new w1 _) (hk.same (bb.block _ hs)) bB,hb.alloc bB _,hs⟩)
 go_wp2
 go_ret
 exact⟨_,rfl,FIN.v⟩
theorem zy(r q f:Nat)(k:Bk)(w:bD)(h:dN w r q k)(hf:f<64)(hI:Bd.Inv k.dg)(h1:1<=k.refs f)(h2:k.refs f<2^60):
  Calls prog 228 #[ai (bj ⟨r,0,bu⟩),aa az f] w λe w'=>e=bf (ao #[])/\dN w' r q (Mv.kF k f)/\jm r q w w':=by
 have HI:=hJ hI;have c1:=h.yK f hf;have cf:=h.frozen;have fI:(f:Int)<64:=bB
 obtain⟨n,hn⟩:∃n,k.refs f=n+1:=⟨k.refs f-1,bB⟩;have S1:Hid (dN ((w.setCell ⟨r,1+f*9,bu⟩ (aa az (n:Int))).drew) r q {k with refs:=λg=>if g=f then n else k.refs g}/\jm r q w ((w.setCell ⟨r,1+f*9,bu⟩ (aa az (n:Int))).drew)):=hJ ⟨(h.sG f n hf).drew,((jm.refl r q w).left ((bG.refl r w).setCell _ _)).drew⟩;have HD:Hid (Mv.kF k f={k with refs:=λg=>if g=f then n else k.refs g,dg:=if n=0 then Bd.lE k.dg f else k.dg}):=hJ (by
  unfold Mv.kF;rw[hn,show n+1-1=n from rfl];cases n<;>rfl)
 rw[hn]at c1 h2;have hw:IntKind.i64.wrap (((n+1:Nat):Int)-1)=(n:Int):=by rw[aN _ ⟨by omega,bB⟩];omega
 go_in
 go_wp2_with fail
 go_region
 generalize hW1:World.drew _=W1;have S2:Hid (dN W1 r q {k with refs:=λg=>if g=f then n else k.refs g}/\jm r q w W1):=hJ (by rw[<-hW1];exact S1.v);have d1:W1.cell? ⟨r,1+f*9,bu⟩=bj (aa az (n:Int)):=by
  have:=S2.1.yK f hf;rw[this];show bj (aa az (((if f=f then n else k.refs f):Nat):Int))=_;rw[aJ rfl]
 have d0:=S2.1.cP;by_cases e0:n=0
 .subst e0;have d1':W1.cell? ⟨r,1+f*9,bu⟩=bj (aa .i64 0):=d1;go_wp2_with fail
  refine sC (J5 q f k.dg _ S2.1.dg HI.v) ?_;rintro w2 ⟨kp,F⟩;have S3:Hid (dN w2 r q (Mv.kF k f)/\jm r q w w2):=hJ ⟨by rw[HD.v];exact S2.1.Fj F kp,S2.2.right F⟩;go_wp2_with fail
  go_end0
  exact⟨rfl,S3.v⟩
 .have e0':((n:Int)==0)=bA:=by simp;omega
  have S3:Hid (dN W1 r q (Mv.kF k f)/\jm r q w W1):=hJ ⟨by rw[HD.v,aI e0];exact S2.1,S2.2⟩;go_wp2_with fail
  go_end0
  exact⟨rfl,S3.v⟩
def Mv.Ia(k:Bk)(g:Nat->Int)(e:Int)(f:Nat)(k':Bk):Prop:=∃p',Bd.qo k.dg 0 e f p'/\k'=if e=0 then Mv.xO {k with dg:=p'} f 1 g else{k with dg:=p'}
theorem BW(r q:Nat)(g:Nat->Int)(k:Bk)(w:bD)(h:dN w r q k)(hI:Bd.Inv k.dg)(hN:Bd.NB k.dg 64):
  Calls prog 273 #[ai (bj ⟨r,0,bu⟩),au (PQ g)] w λe w'=>∃(f:Nat) (E:Int) (k':Bk),e=bf (ao #[aa az f,bN E])/\Mv.Ia k g E f k'/\dN w' r q k'/\jm r q w w':=by
 have HI:=hJ (aK hI hN);have HF:Hid (∀C,dN (w.alloc (bh C 214)) r q k/\Below w.heap.size w (w.alloc (bh C 214))):=hJ (λC=>⟨h.below ((aQ _ _).alloc (aL _) _),(aQ _ _).alloc (aL _) _⟩);have HL:=hJ (aK h.lt h.DQ);go_in
 go_upto_region 1 with fail
 refine cJ (λW=>dN W r q k/\Below w.heap.size w W/\W.heap[w.heap.size]? =bj (bh (PQ g) 214 (0,0))) ⟨(HF.v _).1,(HF.v _).2,heap_alloc_new w _⟩ ?_;rintro W1 ⟨h1,b1,x1⟩;have NE:Hid (w.heap.size≠r/\w.heap.size≠q):=hJ (by have:=HL.v;omega);have H1:=hJ (aK h1 (aK b1 x1));obtain⟨bx,hbx⟩:=hU (w.heap.size);have HS:=hJ hbx;rw[hbx]at H1 NE;rw[hbx];have c0:=h1.cP;go_wp2_with fail
 refine(Kg q 0 k.dg _ H1.1.dg HI.1 HI.2).mono ?_;rintro e w1 ⟨f,E,p',rfl,ht,kp,F⟩;have hf:=yz ht;have h1:Hid (dN w1 r q {k with dg:=p'}):=hJ (H1.1.Fj F kp);have HB:Hid (jm r q w w1):=hJ ⟨F.os.trans H1.2.1.os,F.tape.trans H1.2.1.tape,F.output.trans H1.2.1.output,aH H1.2.1.size F.size,λj hj _ h3=>(F.block j (aD hj H1.2.1.size) h3).trans (H1.2.1.block j (by have:=HS.v;omega))⟩;have HT:=hJ ht;have x2:w1.heap[bx]? =bj (bh (PQ g) 214 (0,0)):=(F.block bx (aX.1 H1.2.2).1 NE.2).trans H1.2.2;by_cases e0:E=0
 .subst e0;have fI:(f:Int)<64:=bB
  have l0:w1.cell? ⟨bx,0,bu⟩=bj (aa bc (g 0)):=cR x2 0 _ (px g 0 bB);have l1:=cR x2 1 _ (px g 1 bB);have l2:=cR x2 2 _ (px g 2 bB);have l3:=cR x2 3 _ (px g 3 bB);have l4:=cR x2 4 _ (px g 4 bB);have l5:=cR x2 5 _ (px g 5 bB);have l6:=cR x2 6 _ (px g 6 bB);have l7:=cR x2 7 _ (px g 7 bB);have s0:=h1.yK f hf;have s1:w1.cell? ⟨r,1+f*9+1,bu⟩=bj (aa bc (k.dO f 0)):=h1.cB f 0 hf bB;have s2:w1.cell? ⟨r,1+f*9+2,bu⟩=bj (aa bc (k.dO f 1)):=h1.cB f 1 hf bB;have s3:w1.cell? ⟨r,1+f*9+3,bu⟩=bj (aa bc (k.dO f 2)):=h1.cB f 2 hf bB;have s4:w1.cell? ⟨r,1+f*9+4,bu⟩=bj (aa bc (k.dO f 3)):=h1.cB f 3 hf bB;have s5:w1.cell? ⟨r,1+f*9+5,bu⟩=bj (aa bc (k.dO f 4)):=h1.cB f 4 hf bB;have s6:w1.cell? ⟨r,1+f*9+6,bu⟩=bj (aa bc (k.dO f 5)):=h1.cB f 5 hf bB;have s7:w1.cell? ⟨r,1+f*9+7,bu⟩=bj (aa bc (k.dO f 6)):=h1.cB f 6 hf bB;have s8:w1.cell? ⟨r,1+f*9+8,bu⟩=bj (aa bc (k.dO f 7)):=h1.cB f 7 hf bB;have fz:=h1.frozen;rw[bF];go_wp2_with fail
  go_region
  generalize hW:World.drew _=W2;have S2:Hid (dN W2 r q (Mv.xO {k with dg:=p'} f 1 g)/\bG r w1 W2):=hJ (by
   rw[<-hW];have a:dN (w1.setCells r (1+f*9) (yR ((1:Nat):Int) g).toList).drew r q (Mv.xO {k with dg:=p'} f 1 g):=(h1.Pd f 1 hf g).drew;have b:bG r w1 (w1.setCells r (1+f*9) (yR ((1:Nat):Int) g).toList).drew:=(bG.setCells _ _ (bG.refl r w1)).drew;exact⟨a,b⟩)
  go_wp2
  go_ret2
  exact⟨f,0,_,rfl,⟨p',HT.v,by rw[aJ rfl]⟩,S2.1,HB.left S2.2⟩
 .rw[bH e0];have r0:f=0:=by
   rcases ht with⟨_,_,c,_⟩|⟨_,_,_,c,_⟩|⟨_,_,c,_⟩
   .exact c
   .exact c
   .exact aZ c e0
  have HE:=hJ e0;subst r0;go_wp2
  go_ret2
  exact⟨0,E,_,by rw[bH HE.v];rfl,⟨p',HT.v,by rw[aI HE.v]⟩,h1.v,HB.v⟩
section
attribute [local go_sem] Dh
theorem oR(b r:Nat)(z:Int)(wr:Bool)(m:Me)(w:bD)(h:dj w b r m):
  Calls prog 182 #[ai (bj ⟨b,0,bu⟩),aa az z,ar wr] w λe w'=>e=bf (ar (Mv.jY m z wr))/\Below w.heap.size w w':=by
 have BL:Hid (∀o,Below w.heap.size w (w.alloc o)):=hJ (λo=>(aQ _ _).alloc (aL _) o);by_cases k:z<0\/127<z
 .have HE:Hid (Mv.jY m z wr=bA):=hJ (aJ k);by_cases h0:z<0
  .clear k h;go_in
   go_wp2
   go_ret
   exact⟨cX HE.symm,aQ _ _⟩
  .have h1:decide (z<0)=bA:=aT h0;have h2:128<=z:=bB
   go_in
   go_wp2
   go_ret
   exact⟨cX HE.symm,aQ _ _⟩
 .obtain⟨x,rfl⟩:=aG (show 0<=z by omega);have h2:decide (128<=(x:Int))=bA:=by simp;omega
  have c1:=h.Vq (x/8) bB;have c2:=h.wK (x/8) bB;have h8:(x:Int)/8<16:=bB
  have h80:(0:Int)<=(x:Int)/8:=bB
  have HE:Hid (Mv.jY m x wr=(decide (m.is (x/8)=2)||(decide (m.is (x/8)=1)&& !wr))):=hJ (by unfold Mv.jY;rw[aI k,hZ]);obtain⟨u,hu⟩:=hU (m.is (x/8));rw[hu]at c1 HE;by_cases e2:u=2
  .subst e2;go_in
   go_wp2
   go_ret
   exact⟨cX (by rw[HE.v];rfl),BL.v _⟩
  .have e2':((u:Int)==2)=bA:=by simp;omega
   by_cases e1:u=1
   .subst e1;cases wr
    .go_in
     go_wp2
     go_ret
     exact⟨cX (by rw[HE.v];rfl),BL.v _⟩
    .go_in
     go_wp2
     go_ret
     exact⟨cX (by rw[HE.v];rfl),BL.v _⟩
   .have e1':((u:Int)==1)=bA:=by simp;omega
    go_in
    go_wp2
    go_ret
    exact⟨cX (by rw[HE.v,aT e2,aT e1];rfl),BL.v _⟩
theorem zF(b r:Nat)(z:Int)(m:Me)(w:bD)(h:dj w b r m):
  Calls prog 183 #[ai (bj ⟨b,0,bu⟩),aa az z] w λe w'=>e=bf (ar (Mv.kV m z))/\Below w.heap.size w w':=by
 have HF:=hJ h;cases hm:Mv.jY m z bA
 .have HE:Hid (Mv.kV m z=bA/\Mv.jY m z bA=bA):=hJ ⟨by unfold Mv.kV;rw[hm];rfl,hm⟩;go_in
  go_wp2_with fail
  refine sC (oR b r z bA m _ HF.v) ?_;rintro w1 hb;have HB:=hJ hb;rw[HE.2];go_wp2
  go_ret
  exact⟨cX HE.1.symm,HB.v⟩
 .have hz:¬(z<0\/127<z):=λc=>by unfold Mv.jY at hm;rw[aJ c]at hm;cases hm
  obtain⟨x,rfl⟩:=aG (show 0<=z by omega);have h8:(x:Int)/8<16:=bB
  have h80:(0:Int)<=(x:Int)/8:=bB
  have HX:Hid (x/8<16):=hJ bB;have HE:Hid (Mv.kV m x=decide (m.fr (x/8)=0)/\Mv.jY m x bA=bw):=hJ ⟨by unfold Mv.kV;rw[hm,hZ];rfl,hm⟩;go_in
  go_wp2_with fail
  refine sC (oR b r x bA m _ HF.v) ?_;rintro w1 hb;have c1:=(HF.below hb).wK (x/8) HX.v;have HB:=hJ hb;rw[HE.2];obtain⟨u,hu⟩:=hU (m.fr (x/8));rw[hu]at c1 HE;by_cases e0:u=0
  .subst e0;have c1':w1.cell? ⟨b,1+x/8*2+1,bu⟩=bj (aa az (-1)):=c1;go_wp2
   go_ret
   exact⟨cX (by rw[HE.1];rfl),HB.v⟩
  .have e0':((u:Int)-1== -1)=bA:=by simp;omega
   go_wp2
   go_ret
   exact⟨cX (by rw[HE.1,aT e0]),HB.v⟩
end
def rowP(m:Me):List Value:=(List.range 32).map λo=>if o%2=0 then aa az (m.is (o/2):Int)else aa az ((m.fr (o/2):Int)-1)
theorem Eh(m:Me):(rowP m).length=32:=by simp[rowP]
theorem dj.range{m:Me}(h:dj w b r m):w.rangeAt b 1 (rowP m):=λj v hv=>by
 have hj:j<32:=by have:=(aY.1 hv).1;rwa [Eh]at this
 simp[rowP,hj]at hv;rw[h.cell _ bB,<-hv];unfold lD;rw[nJ,show 1+j-1=j by omega]
theorem Sj(m:Me)(x:Nat)(h:x<16):(rowP m).toArray.extract (x*2) (x*2+2)=#[aa az (m.is x:Int),aa az ((m.fr x:Int)-1)]:=by
 have hs:(rowP m).toArray.size=32:=by simp[rowP]
 apply bL;intro i;rw[Array.getElem?_extract];by_cases hi:i<2
 .rw[aJ (by rw[hs];omega)];have e:(rowP m).toArray[x*2+i]? =bj (if(x*2+i)%2=0 then aa az (m.is ((x*2+i)/2):Int)else aa az ((m.fr ((x*2+i)/2):Int)-1)):=by
   simp[rowP,show x*2+i<32 by omega]
  rw[e,show(x*2+i)/2=x by omega]
  match i,hi with
  |0,_=>rw[nK];rfl
  |1,_=>rw[nJ];rfl
 .rw[aI (by rw[hs];omega),aR (by simp;omega)]
theorem yS(m:Me)(x:Nat)(h:x<16)(w:bD):Sem.run prog (Instr.index 184 (au (rowP m).toArray) (aa az x)) w= .ok (au #[aa az (m.is x:Int),aa az ((m.fr x:Int)-1)]) w:=by
 have hu:prog.underlying 184=bj (.array 16 183):=by kernel_rfl
 have hx:=Sj m x h;have h1:(x:Int)<16:=bB
 obtain⟨A,hA⟩:=hU ((rowP m).toArray);rw[hA]at hx|-;simp[Instr.index,Sem.run_bind,run_underlying hu,go_sem,hx];intro c;omega
theorem BM(m:Me):(prog.info? 184).map (·.size)=bj (rowP m).length:=by rw[Eh];kernel_rfl
theorem mW(b r:Nat)(m:Me)(w:bD)(h:dj w b r m):
  Calls prog 64 #[ai (bj ⟨b,0,bu⟩)] w λe w'=>e=bf (aa az (Mv.cM m 16:Int))/\Below w.heap.size w w':=by
 have hsz:=hJ (BM m);have HR:=hJ h.range;go_in
 go_wp2_with (refine wpList_load_mid rfl 184 _ rfl b 1 rfl (rowP m) (.array 16 183) HR.v bC rfl hsz.v ?_)
 go_loopw [3,10] (λs i wr=>∃(k:Nat),i=aa az k/\s=aa az (Mv.cM m k:Int)/\k<=16/\Hid (Below w.heap.size w wr)) (λ_ i _=>16-(intOf i).toNat)
 case atStart=>exact⟨0,rfl,rfl,bB,aQ _ _⟩
 case round=>
  obtain⟨k,rfl,rfl,hk,T⟩:=hrel;by_cases hlt:k<16
  .have hltI:(k:Int)<16:=bB
   have hix:=yS m k hlt;have LS:Hid (Mv.cM m (k+1)=Mv.cM m k+if m.fr k=0 then 0 else 1):=hJ rfl;have BL:Hid (∀o,Below w.heap.size w (wr.alloc o)):=hJ (λo=>T.alloc T.size o);have lb:=mr m k;generalize m.is k=u0 at*;generalize m.fr k=u at*;by_cases e1:u=0
   .have LE:Hid (Mv.cM m (k+1)=Mv.cM m k):=hJ (by rw[LS.v,aJ e1];rfl);subst e1;go_wp2
    go_roundw
    case rel=>exact⟨k+1,by go_num,by rw[LE.v],bB,BL.v _⟩
    case measure=>simp[intOf];omega
   .have LE:Hid (Mv.cM m (k+1)=Mv.cM m k+1):=hJ (by rw[LS.v,aI e1]);have e1':((u:Int)-1== -1)=bA:=by simp;omega
    generalize Mv.cM m k=lk at*;go_wp2
    go_roundw
    case rel=>exact⟨k+1,by go_num,by rw[LE.v];go_num,bB,BL.v _⟩
    case measure=>simp[intOf];omega
  .have hk64:k=16:=bB
   subst hk64;go_wp2
   go_ret
   exact⟨rfl,T.v⟩
structure qY (m:Me)(k:Bk):Prop where
 inv:Bd.Inv k.dg
 nb:Bd.NB k.dg 64
 le:∀i,i<16->m.fr i<=64
 held:∀i,i<16->m.fr i≠0->1<=k.refs (m.fr i-1)/\k.refs (m.fr i-1)<2^59
 hold:∀f,f<64->1<=k.refs f->k.dg.tk f=bw
def Mv.Nh(m:Me)(k:Bk)(n:Nat)(wr:Bool)(E:Int)(g:Nat)(m':Me)(k':Bk):Prop:=
 (m.fr n≠0/\(wr=bA\/k.refs (m.fr n-1)=1)/\E=0/\g=m.fr n-1/\m'=m/\k'=k)\/
 (¬(m.fr n≠0/\(wr=bA\/k.refs (m.fr n-1)=1))/\∃k1,Mv.uf k E g k1/\
  ((E≠0/\m'=m/\k'=k1)\/(E=0/\m'={m with fr:=je m.fr n (g+1)}/\k'=if m.fr n=0 then k1 else Mv.kF (Mv.Bl k1 (m.fr n-1) g) (m.fr n-1))))
theorem JR{k k':Bk}(h:Mv.Ia k (λ_=>0) e f k'):Mv.uf k e f k':=by
 obtain⟨p',h1,h2⟩:=h;refine⟨p',h1,?_⟩;rw[h2];rfl
theorem Ng{k k':Bk}(h:Mv.Ia k (k.dO v) e f k')(hv:k.dg.tk v=bw):∃k1,Mv.uf k e f k1/\((e≠0/\k'=k1)\/(e=0/\k'=Mv.Bl k1 v f/\v≠f)):=by
 obtain⟨p',h1,h2⟩:=h;by_cases e0:e=0
 .rw[aJ e0]at h2;have ne:v≠f:=λc=>by
   rcases h1 with⟨_,c1,_⟩|⟨_,_,c1,_⟩|⟨_,hB,_,_⟩
   .omega
   .omega
   .rw[c,hB.tk]at hv;cases hv
  refine⟨Mv.Gt k p' f,⟨p',h1,by rw[aJ e0]⟩, .inr ⟨e0,?_,ne⟩⟩;rw[h2];unfold Mv.Bl Mv.Gt Mv.xO;congr 1;funext a i;by_cases c:a=f
  .simp[c,ne]
  .simp[c]
 .rw[aI e0]at h2;exact⟨k',⟨p',h1,by rw[aI e0];exact h2⟩, .inl ⟨e0,rfl⟩⟩
def Hz(b r q n:Nat)(wr:Bool)(m:Me)(k:Bk)(w:bD)(e:Ending)(w':bD):Prop:=
 ∃(E:Int) (g:Nat) (m':Me) (k':Bk),e=bf (bN E)/\Mv.Nh m k n wr E g m' k'/\UB w' b r q m' k'/\fS b r q w w'
theorem Jv(b r q n:Nat)(wr:Bool)(m:Me)(k:Bk)(w:bD)(h:UB w b r q m k)(G:qY m k)(hn:n<16)(hv:m.fr n=0):
  Calls prog 240 #[ai (bj ⟨b,0,bu⟩),ai (bj ⟨b,1+n*2,bu⟩),ar wr] w (Hz b r q n wr m k w):=by
 have HF:=hJ (aK h (aK G hv));have c0:=h.me.sW;have c1:=h.me.wK n hn;rw[hv]at c1;have c1':w.cell? ⟨b,1+n*2+1,bu⟩=bj (aa az (-1)):=c1;have HN:Hid (¬(m.fr n≠0/\(wr=bA\/k.refs (m.fr n-1)=1))):=hJ (λc=>c.1 hv);go_in
 go_wp2_with fail
 refine(BW r q (λ_=>0) k _ HF.1.bk HF.2.1.inv HF.2.1.nb).mono ?_;rintro e w1 ⟨g,E,k1,rfl,ht,hk,F⟩;have HM:Hid (UB w1 b r q m k1/\fS b r q w w1):=hJ ⟨⟨HF.1.me.two F HF.1.br HF.1.bq,hk,HF.1.br,HF.1.bq⟩,fS.CQ F⟩;have HT:=hJ (JR ht);by_cases e0:E=0
 .subst e0;rw[bF];have d1:=HM.1.me.wK n hn;have df:=HM.1.me.frozen;have S2:Hid (UB (w1.setCell ⟨b,1+n*2+1,bu⟩ (aa az (g:Int))) b r q {m with fr:=je m.fr n (g+1)} k1/\fS b r q w (w1.setCell ⟨b,1+n*2+1,bu⟩ (aa az (g:Int)))):=hJ (by
   have f:bG b w1 (w1.setCell ⟨b,1+n*2+1,bu⟩ (aa az (g:Int))):=(bG.refl b w1).setCell _ _;exact⟨⟨HM.1.me.Cw n (g+1) hn _ bB,HM.1.bk.mS f HM.1.br HM.1.bq,HM.1.br,HM.1.bq⟩,HM.2.trans (fS.mem f)⟩)
  go_wp2
  go_ret
  exact⟨0,g,_,_,rfl, .inr ⟨HN.v,k1,HT.v, .inr ⟨rfl,rfl,by rw[aJ HF.2.2]⟩⟩,S2.1,S2.2⟩
 .rw[bH e0];have HE:=hJ e0;go_wp2
  go_ret
  exact⟨E,g,_,_,by rw[bH HE.v];rfl, .inr ⟨HN.v,k1,HT.v, .inl ⟨HE.v,rfl,rfl⟩⟩,HM.1,HM.2⟩
theorem Ju(b r q n v:Nat)(wr:Bool)(m:Me)(k:Bk)(w:bD)(h:UB w b r q m k)(G:qY m k)(hn:n<16)(hv:m.fr n=v+1):
  Calls prog 240 #[ai (bj ⟨b,0,bu⟩),ai (bj ⟨b,1+n*2,bu⟩),ar wr] w (Hz b r q n wr m k w):=by
 have HF:=hJ (aK h (aK G hv));have c0:=h.me.sW;have c1:=h.me.wK n hn;rw[hv,show((v+1:Nat):Int)-1=(v:Int)by omega]at c1;have v64:v<64:=by have:=G.le n hn;omega
 have vI:(v:Int)<64:=bB
 have v1:((v:Int)== -1)=bA:=by simp
 have l0:=h.bk.yK v v64;have l1:w.cell? ⟨r,1+v*9+1,bu⟩=bj (aa bc (k.dO v 0)):=h.bk.cB v 0 v64 bB;have l2:w.cell? ⟨r,1+v*9+2,bu⟩=bj (aa bc (k.dO v 1)):=h.bk.cB v 1 v64 bB;have l3:w.cell? ⟨r,1+v*9+3,bu⟩=bj (aa bc (k.dO v 2)):=h.bk.cB v 2 v64 bB;have l4:w.cell? ⟨r,1+v*9+4,bu⟩=bj (aa bc (k.dO v 3)):=h.bk.cB v 3 v64 bB;have l5:w.cell? ⟨r,1+v*9+5,bu⟩=bj (aa bc (k.dO v 4)):=h.bk.cB v 4 v64 bB;have l6:w.cell? ⟨r,1+v*9+6,bu⟩=bj (aa bc (k.dO v 5)):=h.bk.cB v 5 v64 bB;have l7:w.cell? ⟨r,1+v*9+7,bu⟩=bj (aa bc (k.dO v 6)):=h.bk.cB v 6 v64 bB;have l8:w.cell? ⟨r,1+v*9+8,bu⟩=bj (aa bc (k.dO v 7)):=h.bk.cB v 7 v64 bB;have hbs:b<w.heap.size:=h.me.lt;have hrs:r<w.heap.size:=h.bk.lt;have hbn:b≠w.heap.size:=bB
 have hrn:r≠w.heap.size:=bB
 go_in
 go_wp2_with fail
 go_region
 generalize hW:World.drew _=W2;have S2:Hid (UB W2 b r q m k/\fS b r q w W2/\W2.heap[w.heap.size]? =bj (bh (yR (k.refs v:Int) (k.dO v)) 216 (0,0))/\w.heap.size≠q):=hJ (by
  rw[<-hW];have bb:Below w.heap.size w (w.alloc (bh (yR (k.refs v:Int) (k.dO v)) 216)):=(aQ _ _).alloc (aL _) _;exact⟨(HF.1.below bb).drew,(fS.below bb).drew,heap_alloc_new w _,by have:=HF.1.bk.DQ;omega⟩)
 obtain⟨bo,hbo⟩:=hU (w.heap.size);rw[hbo]at S2 hbn hrn|-;have HBO:=hJ (aK hbo (aK hbn hrn));have o0:W2.cell? ⟨bo,0,bu⟩=bj (aa az (k.refs v:Int)):=cR S2.2.2.1 0 _ (mR _ _ 0 bB);have KEEP:Hid ((wr=bA\/k.refs v=1)->Hz b r q n wr m k w (bf (bN 0)) W2):=hJ (λc=>⟨0,v,m,k,rfl, .inl ⟨by rw[HF.2.2];omega,by rw[HF.2.2,aP];exact c,rfl,by rw[HF.2.2,aP],rfl,rfl⟩,S2.1,S2.2.1⟩);cases wr
 .have KP:=hJ (KEEP.v (.inl rfl));go_wp2
  go_ret
  exact KP.v
 .by_cases r1:k.refs v=1
  .rw[r1]at o0;have o0':W2.cell? ⟨bo,0,bu⟩=bj (aa .i64 1):=o0;have KP:=hJ (KEEP.v (.inr r1));go_wp2
   go_ret
   exact KP.v
  .have r1':((k.refs v:Int)==1)=bA:=by simp;omega
   have HN:Hid (¬(m.fr n≠0/\(bw=bA\/k.refs (m.fr n-1)=1))):=hJ (by
    rw[HF.2.2,aP];rintro⟨_,c|c⟩
    .cases c
    .exact r1 c)
   have d0:=S2.1.me.sW;have o1:W2.cell? ⟨bo,1,bu⟩=bj (aa bc (k.dO v 0)):=cR S2.2.2.1 1 _ (mR _ _ 1 bB);have o2:W2.cell? ⟨bo,2,bu⟩=bj (aa bc (k.dO v 1)):=cR S2.2.2.1 2 _ (mR _ _ 2 bB);have o3:W2.cell? ⟨bo,3,bu⟩=bj (aa bc (k.dO v 2)):=cR S2.2.2.1 3 _ (mR _ _ 3 bB);have o4:W2.cell? ⟨bo,4,bu⟩=bj (aa bc (k.dO v 3)):=cR S2.2.2.1 4 _ (mR _ _ 4 bB);have o5:W2.cell? ⟨bo,5,bu⟩=bj (aa bc (k.dO v 4)):=cR S2.2.2.1 5 _ (mR _ _ 5 bB);have o6:W2.cell? ⟨bo,6,bu⟩=bj (aa bc (k.dO v 5)):=cR S2.2.2.1 6 _ (mR _ _ 6 bB);have o7:W2.cell? ⟨bo,7,bu⟩=bj (aa bc (k.dO v 6)):=cR S2.2.2.1 7 _ (mR _ _ 7 bB);have o8:W2.cell? ⟨bo,8,bu⟩=bj (aa bc (k.dO v 7)):=cR S2.2.2.1 8 _ (mR _ _ 8 bB);have TK:=hJ (λW (hW:dN W r q k)=>BW r q (k.dO v) k W hW HF.2.1.inv HF.2.1.nb);generalize k.refs v=rv at o0 r1';go_wp2_with fail
   go_region_with ((go_at_call 273;refine(TK.v _ (by first|exact S2.1.bk.drew|exact S2.1.bk)).mono ?_;rintro e w3 ⟨g,E,k1,rfl,ht,hk,F⟩;have H3:Hid (Mv.Ia k (k.dO v) E g k1/\dN w3 r q k1/\jm r q W2 w3):=hJ ⟨ht,hk,(by first|exact F|exact((jm.refl r q W2).drew).trans F)⟩))
   all_goals
    have HM:Hid (UB w3 b r q m k1/\fS b r q w w3):=hJ ⟨⟨S2.1.me.two H3.2.2 S2.1.br S2.1.bq,H3.2.1,S2.1.br,S2.1.bq⟩,S2.2.1.trans (fS.CQ H3.2.2)⟩;have c0:=HM.1.me.sW;have c1:=HM.1.me.wK n hn;rw[HF.2.2,show((v+1:Nat):Int)-1=(v:Int)by omega]at c1;have tkv:k.dg.tk v=bw:=HF.2.1.hold v v64 (by have:=HF.2.1.held n hn (by rw[HF.2.2];omega);rw[HF.2.2,aP]at this;exact this.1);obtain⟨kk,hkk,hc⟩:=Ng H3.1 tkv;have HK:=hJ (aK hkk hc);by_cases e0:E=0
    .subst e0;have LV:Hid (Bd.Inv k1.dg/\1<=k1.refs v/\k1.refs v<2^60):=hJ (by
      obtain⟨p',h1,h2⟩:=H3.1;have hi:=HF.2.1.inv.take HF.2.1.nb h1;have hh:=HF.2.1.held n hn (by rw[HF.2.2];omega);rw[HF.2.2,aP]at hh;rw[aJ rfl]at h2;subst h2;refine⟨hi.1,?_⟩;show 1<=(if v=g then 1 else k.refs v)/\(if v=g then 1 else k.refs v)<2^60;split<;>omega)
     rw[bF];go_wp2_with fail
     go_region_with ((go_at_call 228;refine(zy r q v k1 _ (by first|exact HM.1.bk.drew|exact HM.1.bk) v64 LV.1 LV.2.1 LV.2.2).mono ?_;rintro e w4 ⟨rfl,hk4,F4⟩;have H4:Hid (dN w4 r q (Mv.kF k1 v)/\jm r q w3 w4):=hJ ⟨hk4,(by first|exact F4|exact((jm.refl r q w3).drew).trans F4)⟩))
     all_goals
      have S3:Hid (UB w4 b r q m (Mv.kF k1 v)/\fS b r q w w4):=hJ ⟨⟨HM.1.me.two H4.2 S2.1.br S2.1.bq,H4.1,S2.1.br,S2.1.bq⟩,HM.2.trans (fS.CQ H4.2)⟩;have d1:=S3.1.me.wK n hn;have df:=S3.1.me.frozen;have S4:Hid (UB (w4.setCell ⟨b,1+n*2+1,bu⟩ (aa az (g:Int))) b r q {m with fr:=je m.fr n (g+1)} (Mv.kF k1 v)/\fS b r q w (w4.setCell ⟨b,1+n*2+1,bu⟩ (aa az (g:Int)))):=hJ (by
       have f:bG b w4 (w4.setCell ⟨b,1+n*2+1,bu⟩ (aa az (g:Int))):=(bG.refl b w4).setCell _ _;exact⟨⟨S3.1.me.Cw n (g+1) hn _ bB,S3.1.bk.mS f S3.1.br S3.1.bq,S3.1.br,S3.1.bq⟩,S3.2.trans (fS.mem f)⟩)
      go_wp2
      go_ret
      refine⟨0,g,_,_,rfl, .inr ⟨HN.v,kk,HK.1, .inr ⟨rfl,rfl,?_⟩⟩,S4.1,S4.2⟩;rcases HK.2 with⟨c,_⟩|⟨_,c,_⟩
      .exact aZ rfl c
      .rw[HF.2.2,nJ,aP,c]
    .rw[bH e0];have HE:=hJ e0;go_wp2
     go_ret
     refine⟨E,g,_,_,by rw[bH HE.v];rfl, .inr ⟨HN.v,kk,HK.1, .inl ⟨HE.v,rfl,?_⟩⟩,HM.1,HM.2⟩;rcases HK.2 with⟨_,c⟩|⟨c,_⟩
     .exact c
     .exact aZ c HE.v
theorem Gk(b r q n:Nat)(wr:Bool)(m:Me)(k:Bk)(w:bD)(h:UB w b r q m k)(G:qY m k)(hn:n<16):
  Calls prog 240 #[ai (bj ⟨b,0,bu⟩),ai (bj ⟨b,1+n*2,bu⟩),ar wr] w (Hz b r q n wr m k w):=by
 by_cases c:m.fr n=0
 .exact Jv b r q n wr m k w h G hn c
 .exact Ju b r q n (m.fr n-1) wr m k w h G hn bB
theorem QD{m m':Me}{k k':Bk}{wr:Bool}(h:Mv.Nh m k (x/8) wr E g m' k')(hm:Mv.jY m x wr=bw):Mv.mH m k x wr E g m' k':=by
 unfold Mv.mH;rw[hZ];rcases h with⟨a,b,c,d,e,f⟩|⟨a,k1,t,c⟩
 .exact .inr (.inl ⟨hm,a,b,c,d,e,f⟩)
 .exact .inr (.inr ⟨hm,a,k1,t,c⟩)
theorem JS{m m':Me}{k k':Bk}{wr:Bool}(G:qY m k)(hn:n<16)(h:Mv.Nh m k n wr E g m' k'):g<64/\((E=0/\m'.fr n=g+1)\/E=4):=by
 rcases h with⟨a,b,rfl,rfl,rfl,_⟩|⟨_,k1,⟨p',t,_⟩,c⟩
 .have:=G.le n hn;exact⟨by omega, .inl ⟨rfl,bB⟩⟩
 .have g64:=yz t;refine⟨g64,?_⟩;rcases c with⟨e0,_⟩|⟨e0,rfl,_⟩
  .rcases t with⟨c,_⟩|⟨_,_,c,_⟩|⟨_,_,c,_⟩
   .omega
   .exact .inr c
   .exact aZ c e0
  .exact .inl ⟨e0,by show(if n=n then g+1 else m.fr n)=g+1;rw[aJ rfl]⟩
def Vy(b r q:Nat)(z:Int)(wr:Bool)(m:Me)(k:Bk)(w:bD)(e:Ending)(w':bD):Prop:=
 ∃(E:Int) (g:Nat) (m':Me) (k':Bk),e=bf (ao #[if E=0 then ai (bj ⟨r,1+g*9+1+z.toNat%8,bu⟩)else ai bu,bN E])/\Mv.mH m k z wr E g m' k'/\UB w' b r q m' k'/\fS b r q w w'/\g<64/\(E=0\/E=4\/E=10)
section
attribute [local go_sem] Dh Uc
theorem zE(b r q:Nat)(z:Int)(wr:Bool)(m:Me)(k:Bk)(w:bD)(h:UB w b r q m k)(G:qY m k):
  Calls prog 185 #[ai (bj ⟨b,0,bu⟩),aa az z,ar wr] w (Vy b r q z wr m k w):=by
 have HF:=hJ (aK h G);cases hm:Mv.jY m z wr
 .have HM:=hJ hm;go_in
  go_wp2_with fail
  refine sC (oR b r z wr m _ HF.1.me) ?_;rintro w1 hb;have HB:=hJ hb;rw[HM.v];go_wp2
  go_ret2
  exact⟨10,0,m,k,rfl, .inl ⟨HM.v,rfl,rfl,rfl,rfl⟩,HF.1.below HB.v,fS.below HB.v,bB, .inr (.inr rfl)⟩
 .obtain⟨x,rfl,hx⟩:=Lr hm;have HM:=hJ hm;have h8:(x:Int)/8<16:=bB
  have h80:(0:Int)<=(x:Int)/8:=bB
  have h9:(x:Int)%8<8:=bB
  have h90:(0:Int)<=(x:Int)%8:=bB
  have HX:Hid (x/8<16):=hJ bB;go_in
  go_wp2_with fail
  refine sC (oR b r x wr m _ HF.1.me) ?_;rintro w1 hb;have HB:=hJ (aK (HF.1.below hb) (fS.below (b:=b) (r:=r) (q:=q) hb));rw[HM.v];go_wp2_with fail
  refine(Gk b r q (x/8) wr m k _ HB.1 HF.2 HX.v).mono ?_;rintro e w2 ⟨E,g,m',k',rfl,ht,hu,F⟩;have TE:=JS HF.2 HX.v ht;have HT:Hid (Mv.mH m k x wr E g m' k'/\UB w2 b r q m' k'/\fS b r q w w2):=hJ ⟨QD ht HM.v,hu,HB.2.trans F⟩;rcases TE with⟨g64,⟨rfl,hg⟩|rfl⟩
  .have c0:=hu.me.sW;have c1:=hu.me.wK (x/8) HX.v;rw[hg,show((g+1:Nat):Int)-1=(g:Int)by omega]at c1;have gI:(g:Int)<64:=bB
   rw[bF];go_wp2_with fail
   go_region
   go_wp2
   go_ret2
   exact⟨0,g,m',k',by rw[aJ rfl,hZ];rfl,HT.1,HT.2.1.drew,HT.2.2.drew,g64, .inl rfl⟩
  .rw[bH bE];go_wp2
   go_ret2
   exact⟨4,g,m',k',rfl,HT.1,HT.2.1,HT.2.2,g64, .inr (.inl rfl)⟩
end
theorem MJ(b r q:Nat)(z:Int)(m:Me)(k:Bk)(w:bD)(h:UB w b r q m k)(G:qY m k):
  Calls prog 108 #[ai (bj ⟨b,0,bu⟩),aa az z] w λe w'=>∃(E:Int) (g:Nat) (m':Me) (k':Bk),e=bf (ao #[aa bc (if E=0 then k'.dO g (z.toNat%8)else 0),bN E])/\Mv.mH m k z bA E g m' k'/\UB w' b r q m' k'/\fS b r q w w'/\(E=0\/E=4\/E=10):=by
 have HF:=hJ (aK h G);go_in
 go_wp2_with fail
 refine(zE b r q z bA m k _ HF.1 HF.2).mono ?_;rintro e w1 ⟨E,g,m',k',rfl,ht,hu,F,g64,hE⟩;have HT:=hJ (aK ht (aK hu F));rcases hE with rfl|rfl|rfl
 .have c2:=hu.bk.cB g (z.toNat%8) g64 bB;rw[aJ rfl,bF];go_wp2
  go_ret2
  exact⟨0,g,m',k',by rw[aJ rfl];rfl,HT.1,HT.2.1,HT.2.2, .inl rfl⟩
 .rw[aI bE,bH bE];go_wp2
  go_ret2
  exact⟨4,g,m',k',by rw[aI bE];rfl,HT.1,HT.2.1,HT.2.2, .inr (.inl rfl)⟩
 .rw[aI bE,bH bE];go_wp2
  go_ret2
  exact⟨10,g,m',k',by rw[aI bE];rfl,HT.1,HT.2.1,HT.2.2, .inr (.inr rfl)⟩
theorem JE(b r q:Nat)(z u:Int)(m:Me)(k:Bk)(w:bD)(h:UB w b r q m k)(G:qY m k):
  Calls prog 110 #[ai (bj ⟨b,0,bu⟩),aa az z,aa bc u] w λe w'=>∃(E:Int) (g:Nat) (m':Me) (k':Bk),e=bf (bN E)/\Mv.mH m k z bw E g m' k'/\UB w' b r q m' (if E=0 then Mv.Mi k' g (z.toNat%8) u else k')/\fS b r q w w'/\(E=0\/E=4\/E=10):=by
 have HF:=hJ (aK h G);go_in
 go_wp2_with fail
 refine(zE b r q z bw m k _ HF.1 HF.2).mono ?_;rintro e w1 ⟨E,g,m',k',rfl,ht,hu,F,g64,hE⟩;have HT:=hJ (aK ht (aK hu F));rcases hE with rfl|rfl|rfl
 .have c2:=hu.bk.cB g (z.toNat%8) g64 bB;have cf:=hu.bk.frozen;have S1:Hid (UB (w1.setCell ⟨r,1+g*9+1+z.toNat%8,bu⟩ (aa bc u)) b r q m' (Mv.Mi k' g (z.toNat%8) u)/\fS b r q w (w1.setCell ⟨r,1+g*9+1+z.toNat%8,bu⟩ (aa bc u))):=hJ (by
   have f:bG r w1 (w1.setCell ⟨r,1+g*9+1+z.toNat%8,bu⟩ (aa bc u)):=(bG.refl r w1).setCell _ _;exact⟨⟨hu.me.same (f.block b hu.me.lt hu.br),hu.bk.VO g (z.toNat%8) u g64 bB,hu.br,hu.bq⟩,HT.2.2.trans ⟨f.os,f.tape,f.output,f.size,λj hj _ h2 _=>f.block j hj h2⟩⟩)
  rw[aJ rfl,bF];go_wp2
  go_ret
  exact⟨0,g,m',k',rfl,HT.1,by rw[aJ rfl];exact S1.1,S1.2, .inl rfl⟩
 .rw[aI bE,bH bE];go_wp2
  go_ret
  exact⟨4,g,m',k',rfl,HT.1,by rw[aI bE];exact HT.2.1,HT.2.2, .inr (.inl rfl)⟩
 .rw[aI bE,bH bE];go_wp2
  go_ret
  exact⟨10,g,m',k',rfl,HT.1,by rw[aI bE];exact HT.2.1,HT.2.2, .inr (.inr rfl)⟩
def Hq(r:Nat):Array Value:=((List.range 33).map λo=>if o=0 then ai (bj ⟨r,0,bu⟩)else aa .i64 0).toArray
theorem Qz(r i:Nat)(h:i<33):(Hq r)[i]? =bj (if i=0 then ai (bj ⟨r,0,bu⟩)else aa .i64 0):=by simp[Hq,h]
def Mv.lR:Me:=⟨λ_=>0,λ_=>0⟩
def Mv.G3(k:Nat):Me:=⟨λ_=>0,λn=>if n<k then 0 else 1⟩
theorem Uz(h:w.heap[b]? =bj (bh (Hq r) 186 (0,0))):dj w b r (Mv.G3 0):=by
 refine⟨⟨_,h,by simp[Hq]⟩,λo ho=>?_⟩;rw[bR h,Qz r o ho];unfold lD;grind [Hq,bR,Qz,lD,Mv.G3]
theorem PF(r:Nat)(w:bD):Calls prog 167 #[ai (bj ⟨r,0,bu⟩)] w λe w'=>e=bf (ai (bj ⟨w.heap.size,0,bu⟩))/\dj w' w.heap.size r Mv.lR/\Below w.heap.size w w':=by
 have S0:Hid (∀C,C=Hq r->dj (w.alloc (bh C 186)) w.heap.size r (Mv.G3 0)/\Below w.heap.size w (w.alloc (bh C 186))):=hJ (λC hC=>by
  subst hC;exact⟨Uz (heap_alloc_new w _),(aQ _ _).alloc (aL _) _⟩)
 go_in
 go_wp2
 refine cJ (λW=>dj W w.heap.size r (Mv.G3 0)/\Below w.heap.size w W) (S0.v _ rfl) ?_;intro W1 h1;have S1:=hJ h1;obtain⟨b,hb⟩:=hU (w.heap.size);rw[hb]at S1|-;have HB:=hJ hb;go_loopw [8] (λi wr=>∃(k:Nat),i=aa az k/\k<=16/\Hid (dj wr b r (Mv.G3 k)/\Below b w wr)) (λi _=>16-(intOf i).toNat)
 case atStart=>exact⟨0,rfl,bB,S1⟩
 case round=>
  obtain⟨k,rfl,hk,S⟩:=hrel;by_cases hlt:k<16
  .have hltI:(k:Int)<16:=bB
   have c1:=S.1.wK k hlt;have cf:=S.1.frozen;have S2:Hid (dj (wr.setCell ⟨b,1+k*2+1,bu⟩ (aa az (-1))) b r (Mv.G3 (k+1))/\Below b w (wr.setCell ⟨b,1+k*2+1,bu⟩ (aa az (-1)))):=hJ ⟨(S.1.Cw k 0 hlt (-1) rfl).congr (λn _=>⟨rfl,by
    show(if n<k+1 then 0 else 1)=(if n=k then 0 else if n<k then 0 else 1);by_cases c:n=k
    .rw[aJ c,nK]
    .rw[aI c];by_cases d:n<k
     .rw[aJ d,nK]
     .rw[aI d,nJ]⟩),S.2.setCell (aL _) _⟩
   go_wp2
   go_roundw
   case rel=>exact⟨k+1,by go_num,bB,S2⟩
   case measure=>simp[intOf];omega
  .have hk16:k=16:=bB
   subst hk16;have FIN:Hid (dj wr b r Mv.lR):=hJ (S.1.congr (λn hn=>⟨rfl,by show 0=if n<16 then 0 else 1;rw[aJ hn]⟩));go_wp2
   go_ret
   rw[HB.v];exact⟨rfl,FIN.v,S.2⟩
theorem vG(b:Nat)(a n:Int)(w:bD)(k:Mv.kZ a n=bw):Calls prog 177 #[ai (bj ⟨b,0,bu⟩),aa az a,aa az n] w λe w'=>e=bf (ao #[aj bu 0 0,bN 1])/\w'=w:=by
 unfold Mv.kZ at k;rw[decide_eq_true_iff]at k;by_cases h1:n<1
 .clear k;go_in
  go_wp2
  go_ret2
  exact⟨rfl,rfl⟩
 .have d1:decide (n<1)=bA:=aT h1;by_cases h2:a<0
  .clear k h1;go_in
   go_wp2
   go_ret2
   exact⟨rfl,rfl⟩
  .have d2:decide (a<0)=bA:=aT h2;by_cases h3:16<=a
   .clear k h1 h2;go_in
    go_wp2
    go_ret2
    exact⟨rfl,rfl⟩
   .have d3:decide (16<=a)=bA:=aT h3;have h4:16-a<n:=bB
    have hw:IntKind.i64.wrap (16-a)=16-a:=aN _ ⟨by omega,bB⟩;go_in
    go_wp2
    go_ret2
    exact⟨rfl,rfl⟩
theorem xW(b x n:Nat)(w:bD)(hx:x<16)(h1:1<=n)(hn:x+n<=16):Calls prog 177 #[ai (bj ⟨b,0,bu⟩),aa az x,aa az n] w λe w'=>e=bf (ao #[aj (bj ⟨b,1+x*2,bu⟩) n (16-x),bN 0])/\w'=w:=by
 have d1:decide ((n:Int)<1)=bA:=by simp;omega
 have d3:decide (16<=(x:Int))=bA:=by simp;omega
 have hw:IntKind.i64.wrap (16-(x:Int))=16-(x:Int):=aN _ ⟨by omega,bB⟩;have d4:decide (16-(x:Int)<(n:Int))=bA:=by simp;omega
 have hw2:IntKind.i64.wrap ((x:Int)+(n:Int))=(x:Int)+(n:Int):=aN _ ⟨by omega,bB⟩;have d5:(x:Int)+(n:Int)<=16:=bB
 have d6:(x:Int)<=(x:Int)+(n:Int):=bB
 go_in
 go_wp2
 rw[show x+n-x=n by omega];go_ret2
 exact⟨rfl,rfl⟩
theorem SN(wr:Bool)(w:bD):Calls prog 237 #[ar wr] w λe w'=>e=bf (aa az ((if wr then 2 else 1:Nat):Int))/\w'=w:=by
 cases wr
 .go_in
  go_wp2
  go_ret
  exact⟨rfl,rfl⟩
 .go_in
  go_wp2
  go_ret
  exact⟨rfl,rfl⟩
theorem Ci(u:Nat)(v:Int)(w:bD):Calls prog 179 #[au #[aa az (u:Int),aa az v]] w λe w'=>e=bf (ar (decide (u≠0)))/\Below w.heap.size w w':=by
 have BL:Hid (∀o,Below w.heap.size w (w.alloc o)):=hJ (λo=>(aQ _ _).alloc (aL _) o);by_cases c:u=0
 .subst c;go_in
  go_wp2
  go_ret
  exact⟨rfl,BL.v _⟩
 .have c':((u:Int)==0)=bA:=by simp;omega
  have HE:=hJ (aO (show u≠0 from c));have HC:=hJ c';go_in
  go_wp2
  go_ret
  exact⟨cX (by rw[HE.v];first|rfl|(show(!((u:Int)==0))=bw;rw[HC.v];rfl)),BL.v _⟩
theorem zx(u:Nat)(v:Int)(w:bD):Calls prog 181 #[au #[aa az (u:Int),aa az v]] w λe w'=>e=bf (ar (decide (u=0)))/\Below w.heap.size w w':=by
 have BL:Hid (∀o,Below w.heap.size w (w.alloc o)):=hJ (λo=>(aQ _ _).alloc (aL _) o);by_cases c:u=0
 .subst c;go_in
  go_wp2
  go_ret
  exact⟨rfl,BL.v _⟩
 .have c':((u:Int)==0)=bA:=by simp;omega
  have HE:=hJ (aT c);go_in
  go_wp2
  go_ret
  exact⟨cX HE.symm,BL.v _⟩
def zR(F:Nat)(A:Nat->Bool):Prop:=∀(u:Nat) (v:Int) (w:bD),Calls prog F #[au #[aa az (u:Int),aa az v]] w λe w'=>e=bf (ar (A u))/\Below w.heap.size w w'
theorem dj.CZ{m:Me}(h:dj w b r m)(x j:Nat)(hj:x+j<16):w.cell? ⟨b,1+x*2+j*2,bu⟩=bj (aa az (m.is (x+j):Int)):=by
 have:=h.Vq (x+j) hj;grind
theorem dj.Ik{m:Me}(h:dj w b r m)(x j:Nat)(hj:x+j<16):w.cell? ⟨b,1+x*2+j*2+1,bu⟩=bj (aa az ((m.fr (x+j):Int)-1)):=by
 have:=h.wK (x+j) hj;grind
theorem Ii:zR 179 (λu=>decide (u≠0)):=Ci
theorem CM:zR 181 (λu=>decide (u=0)):=zx
theorem Cg(A:Nat->Bool)(hA:zR 179 A)(b r x n c:Nat)(m:Me)(w:bD)(h:dj w b r m)(hn:x+n<=16):
  Calls prog 236 #[aj (bj ⟨b,1+x*2,bu⟩) n c, .func (.func 179) #[] #[]] w λe w'=>∃z:Int,e=bf (aa az z)/\decide (0<=z)=(List.range n).any (λj=>A (m.is (x+j)))/\Below w.heap.size w w':=by
 have HF:=hJ h;have HA:=hJ hA;go_in
 go_wp2_with fail
 go_loopw [8] (λi wr=>∃(k:Nat),i=aa az k/\k<=n/\Hid (Below w.heap.size w wr/\∀j,j<k->A (m.is (x+j))=bA)) (λi _=>n-(intOf i).toNat)
 case atStart=>exact⟨0,rfl,bB,aQ _ _,λj hj=>bB⟩
 case round=>
  obtain⟨k,rfl,hk,S⟩:=hrel;by_cases hlt:k<n
  .have hltI:(k:Int)<(n:Int):=bB
   have c0:=(HF.below S.1).CZ x k bB;have c1:=(HF.below S.1).Ik x k bB;go_wp2_with fail
   refine sC (HA.v _ _ _) ?_;rintro w1 hb;have HB:=hJ (S.1.trans (hb.mono S.1.size));cases ha:A (m.is (x+k))
   .have N:Hid (∀j,j<k+1->A (m.is (x+j))=bA):=hJ (λj hj=>by
     by_cases e:j=k
     .rw[e];exact ha
     .exact S.2 j bB)
    go_wp2
    go_roundw
    case rel=>exact⟨k+1,by go_num,bB,HB.v,N.v⟩
    case measure=>simp[intOf];omega
   .have N:Hid (decide ((0:Int)<=(k:Int))=(List.range n).any (λj=>A (m.is (x+j)))):=hJ (by
     rw[aO bB];exact(List.any_eq_true.2 ⟨k,List.mem_range.2 hlt,ha⟩).symm)
    go_wp2
    go_ret
    exact⟨k,rfl,N.v,HB.v⟩
  .have hltI:¬(k:Int)<(n:Int):=bB
   have N:Hid (decide ((0:Int)<= -1)=(List.range n).any (λj=>A (m.is (x+j)))):=hJ (by
    rw[aT bB];symm;rw[List.any_eq_false];intro j hj;rw[S.2 j (by have:=List.mem_range.1 hj;omega)];decide)
   go_wp2
   go_ret
   exact⟨-1,rfl,N.v,S.1⟩
theorem xV(A:Nat->Bool)(hA:zR 179 A)(b r x n c:Nat)(m:Me)(w:bD)(h:dj w b r m)(hn:x+n<=16):
  Calls prog 178 #[aj (bj ⟨b,1+x*2,bu⟩) n c, .func (.func 179) #[] #[]] w λe w'=>e=bf (ar ((List.range n).any (λj=>A (m.is (x+j)))))/\Below w.heap.size w w':=by
 have HF:=hJ (aK h hA);clear h hA;go_in
 go_wp2_with fail
 refine(Cg A HF.2 b r x n c m _ HF.1 hn).mono ?_;rintro e w1 ⟨z,rfl,hz,hb⟩;have HB:=hJ (aK hz hb);clear hz hb;go_wp2
 go_ret
 exact⟨cX HB.1,HB.2⟩
theorem zw(A:Nat->Bool)(hA:zR 181 A)(b r x n c:Nat)(m:Me)(w:bD)(h:dj w b r m)(hn:x+n<=16):
  Calls prog 236 #[aj (bj ⟨b,1+x*2,bu⟩) n c, .func (.func 181) #[] #[]] w λe w'=>∃z:Int,e=bf (aa az z)/\decide (0<=z)=(List.range n).any (λj=>A (m.is (x+j)))/\Below w.heap.size w w':=by
 have HF:=hJ h;have HA:=hJ hA;go_in
 go_wp2_with fail
 go_loopw [8] (λi wr=>∃(k:Nat),i=aa az k/\k<=n/\Hid (Below w.heap.size w wr/\∀j,j<k->A (m.is (x+j))=bA)) (λi _=>n-(intOf i).toNat)
 case atStart=>exact⟨0,rfl,bB,aQ _ _,λj hj=>bB⟩
 case round=>
  obtain⟨k,rfl,hk,S⟩:=hrel;by_cases hlt:k<n
  .have hltI:(k:Int)<(n:Int):=bB
   have c0:=(HF.below S.1).CZ x k bB;have c1:=(HF.below S.1).Ik x k bB;go_wp2_with fail
   refine sC (HA.v _ _ _) ?_;rintro w1 hb;have HB:=hJ (S.1.trans (hb.mono S.1.size));cases ha:A (m.is (x+k))
   .have N:Hid (∀j,j<k+1->A (m.is (x+j))=bA):=hJ (λj hj=>by
     by_cases e:j=k
     .rw[e];exact ha
     .exact S.2 j bB)
    go_wp2
    go_roundw
    case rel=>exact⟨k+1,by go_num,bB,HB.v,N.v⟩
    case measure=>simp[intOf];omega
   .have N:Hid (decide ((0:Int)<=(k:Int))=(List.range n).any (λj=>A (m.is (x+j)))):=hJ (by
     rw[aO bB];exact(List.any_eq_true.2 ⟨k,List.mem_range.2 hlt,ha⟩).symm)
    go_wp2
    go_ret
    exact⟨k,rfl,N.v,HB.v⟩
  .have hltI:¬(k:Int)<(n:Int):=bB
   have N:Hid (decide ((0:Int)<= -1)=(List.range n).any (λj=>A (m.is (x+j)))):=hJ (by
    rw[aT bB];symm;rw[List.any_eq_false];intro j hj;rw[S.2 j (by have:=List.mem_range.1 hj;omega)];decide)
   go_wp2
   go_ret
   exact⟨-1,rfl,N.v,S.1⟩
theorem vF(A:Nat->Bool)(hA:zR 181 A)(b r x n c:Nat)(m:Me)(w:bD)(h:dj w b r m)(hn:x+n<=16):
  Calls prog 178 #[aj (bj ⟨b,1+x*2,bu⟩) n c, .func (.func 181) #[] #[]] w λe w'=>e=bf (ar ((List.range n).any (λj=>A (m.is (x+j)))))/\Below w.heap.size w w':=by
 have HF:=hJ (aK h hA);clear h hA;go_in
 go_wp2_with fail
 refine(zw A HF.2 b r x n c m _ HF.1 hn).mono ?_;rintro e w1 ⟨z,rfl,hz,hb⟩;have HB:=hJ (aK hz hb);clear hz hb;go_wp2
 go_ret
 exact⟨cX HB.1,HB.2⟩
theorem zC(b r x n c:Nat)(wt:Bool)(m:Me)(w:bD)(h:dj w b r m)(hn:x+n<=16):
  Calls prog 180 #[aj (bj ⟨b,1+x*2,bu⟩) n c,ar wt] w λe w'=>e=bf (ao #[])/\dj w' b r (Mv.qJ m x (x+n) wt)/\bG b w w':=by
 have S0:Hid (dj w b r (Mv.qJ m x (x+0) wt)/\bG b w w):=hJ ⟨h.congr (λi _=>⟨Mv.Lh m x wt i,rfl⟩),bG.refl _ _⟩;obtain⟨av,hav⟩:=hU ((if wt then 2 else 1:Nat));have HA:=hJ hav;go_in
 go_wp2_with fail
 go_loopw [7] (λi wr=>∃(k:Nat),i=aa az k/\k<=n/\Hid (dj wr b r (Mv.qJ m x (x+k) wt)/\bG b w wr)) (λi _=>n-(intOf i).toNat)
 case atStart=>exact⟨0,rfl,bB,S0⟩
 case round=>
  obtain⟨k,rfl,hk,S⟩:=hrel;by_cases hlt:k<n
  .have hltI:(k:Int)<(n:Int):=bB
   have c0:=S.1.CZ x k bB;have cf:=S.1.frozen;have S2:Hid (dj (wr.setCell ⟨b,1+x*2+k*2,bu⟩ (aa az (av:Int))) b r (Mv.qJ m x (x+(k+1)) wt)/\bG b w (wr.setCell ⟨b,1+x*2+k*2,bu⟩ (aa az (av:Int)))):=hJ ⟨by
    have a:=S.1.Qo (x+k) av bB;rw[show 1+(x+k)*2=1+x*2+k*2 by omega]at a;refine a.congr (λi _=>⟨?_,rfl⟩);rw[<-Nat.add_assoc,Mv.Li bB,HA.v];rfl,S.2.setCell _ _⟩
   go_wp2_with fail
   refine sC (SN wt _) ?_;rintro w1 hw;subst w1;rw[HA.v];go_wp2
   go_roundw
   case rel=>exact⟨k+1,by go_num,bB,S2⟩
   case measure=>simp[intOf];omega
  .have hkn:k=n:=bB
   subst hkn;go_wp2_with fail
   go_end0
   exact⟨rfl,S.1,S.2⟩
theorem Nn{m:Me}(hn:x+n<=16):(List.range n).any (λj=>decide (m.is (x+j)≠0))=Mv.anyM m x (x+n):=by
 apply Bool.eq_iff_iff.2;rw[Mv.Nl hn,List.any_eq_true];constructor
 .grind
 .rintro⟨i,h1,h2,h3⟩;exact⟨i-x,List.mem_range.2 bB,by rw[show x+(i-x)=i by omega];exact aO h3⟩
theorem Nk{m:Me}(hn:x+n<=16):(List.range n).any (λj=>decide (m.is (x+j)=0))= !Mv.allM m x (x+n):=by
 cases c:Mv.allM m x (x+n)
 .rw[Bool.not_false,List.any_eq_true];apply Classical.byContradiction;intro d;have:Mv.allM m x (x+n)=bw:=(Mv.CK hn).2 (λi h1 h2 h3=>d ⟨i-x,List.mem_range.2 bB,by rw[show x+(i-x)=i by omega];exact aO h3⟩);rw[this]at c;cases c
 .rw[Bool.not_true,List.any_eq_false];intro j hj d;have:=List.mem_range.1 hj;exact(Mv.CK hn).1 c (x+j) bB bB (of_decide_eq_true d)
theorem PD(b r:Nat)(a n:Int)(wt:Bool)(m:Me)(w:bD)(h:dj w b r m):
  Calls prog 104 #[ai (bj ⟨b,0,bu⟩),aa az a,aa az n,ar wt] w λe w'=>e=bf (bN (Mv.rT m a n))/\dj w' b r (Mv.mapM m a n wt)/\bG b w w':=by
 have HF:=hJ h;cases hb:Mv.kZ a n
 .obtain⟨x,k,rfl,rfl,hx,hk1,hk⟩:=Mv.si hb;have SP:=hJ (xW b x k w hx hk1 hk);have EX:Hid (Mv.rT m x k=if Mv.anyM m x (x+k)=bw then 3 else 0):=hJ (by unfold Mv.rT;rw[aI (by rw[hb];decide),hZ,hZ]);have EM:Hid (Mv.mapM m x k wt=if Mv.rT m x k=0 then Mv.qJ m x (x+k) wt else m):=hJ (by unfold Mv.mapM;rw[hZ,hZ]);go_in
  go_wp2_with fail
  refine sC SP.v ?_;rintro w1 hw;subst w1;rw[bF];go_wp2_with fail
  refine sC (xV _ Ii b r x k (16-x) m _ HF.v hk) ?_;rintro w1 hb1;have H1:=hJ (aK (HF.below hb1) (bG.cL (b:=b) hb1));rw[Nn hk];cases ha:Mv.anyM m x (x+k)
  .have E0:Hid (Mv.rT m x k=0):=hJ (by rw[EX.v,ha];rfl);go_wp2_with fail
   refine sC (zC b r x k (16-x) wt m _ H1.1 hk) ?_;rintro w2 ⟨h2,f2⟩;have H2:=hJ (aK h2 (H1.2.trans f2));go_wp2
   go_ret
   rw[EM.v,E0.v,aJ rfl];exact⟨rfl,H2.v⟩
  .have E0:Hid (Mv.rT m x k=3):=hJ (by rw[EX.v,ha];rfl);go_wp2
   go_ret
   rw[EM.v,E0.v,aI bE];exact⟨rfl,H1.v⟩
 .have EX:Hid (Mv.rT m a n=1):=hJ (by unfold Mv.rT;rw[aJ hb]);have EM:Hid (Mv.mapM m a n wt=m):=hJ (by unfold Mv.mapM;rw[EX.v,aI bE]);have SP:=hJ (vG b a n w hb);go_in
  go_wp2_with fail
  refine sC SP.v ?_;rintro w1 hw;subst w1;rw[bH bE];go_wp2
  go_ret
  rw[EX.v,EM.v];exact⟨rfl,HF.v,bG.refl _ _⟩
theorem E9(b r:Nat)(a n:Int)(wt:Bool)(m:Me)(w:bD)(h:dj w b r m):
  Calls prog 105 #[ai (bj ⟨b,0,bu⟩),aa az a,aa az n,ar wt] w λe w'=>e=bf (bN (Mv.rV m a n))/\dj w' b r (Mv.vb m a n wt)/\bG b w w':=by
 have HF:=hJ h;cases hb:Mv.kZ a n
 .obtain⟨x,k,rfl,rfl,hx,hk1,hk⟩:=Mv.si hb;have SP:=hJ (xW b x k w hx hk1 hk);have EX:Hid (Mv.rV m x k=if Mv.allM m x (x+k)=bw then 0 else 10):=hJ (by unfold Mv.rV;rw[aI (by rw[hb];decide),hZ,hZ]);have EM:Hid (Mv.vb m x k wt=if Mv.rV m x k=0 then Mv.qJ m x (x+k) wt else m):=hJ (by unfold Mv.vb;rw[hZ,hZ]);go_in
  go_wp2_with fail
  refine sC SP.v ?_;rintro w1 hw;subst w1;rw[bF];go_wp2_with fail
  refine sC (vF _ CM b r x k (16-x) m _ HF.v hk) ?_;rintro w1 hb1;have H1:=hJ (aK (HF.below hb1) (bG.cL (b:=b) hb1));rw[Nk hk];cases ha:Mv.allM m x (x+k)
  .have E0:Hid (Mv.rV m x k=10):=hJ (by rw[EX.v,ha];rfl);rw[Bool.not_false];go_wp2
   go_ret
   rw[EM.v,E0.v,aI bE];exact⟨rfl,H1.v⟩
  .have E0:Hid (Mv.rV m x k=0):=hJ (by rw[EX.v,ha];rfl);rw[Bool.not_true];go_wp2_with fail
   refine sC (zC b r x k (16-x) wt m _ H1.1 hk) ?_;rintro w2 ⟨h2,f2⟩;have H2:=hJ (aK h2 (H1.2.trans f2));go_wp2
   go_ret
   rw[EM.v,E0.v,aJ rfl];exact⟨rfl,H2.v⟩
 .have EX:Hid (Mv.rV m a n=1):=hJ (by unfold Mv.rV;rw[aJ hb]);have EM:Hid (Mv.vb m a n wt=m):=hJ (by unfold Mv.vb;rw[EX.v,aI bE]);have SP:=hJ (vG b a n w hb);go_in
  go_wp2_with fail
  refine sC SP.v ?_;rintro w1 hw;subst w1;rw[bH bE];go_wp2
  go_ret
  rw[EX.v,EM.v];exact⟨rfl,HF.v,bG.refl _ _⟩
def UV(b r q x:Nat)(m:Me)(k:Bk)(w0:bD)(j:Nat)(w:bD):Prop:=UB w b r q (Mv.iF m x (x+j)) (Mv.iX m k x j)/\fS b r q w0 w/\Mv.ym (Mv.iF m x (x+j)) (Mv.iX m k x j)
theorem UV.start{m:Me}{k:Bk}(h:UB w b r q m k)(C:Mv.ym m k):UV b r q x m k w 0 w:=by
 have e1:∀i,(Mv.iF m x (x+0)).is i=m.is i:=λi=>nJ;have e2:∀i,(Mv.iF m x (x+0)).fr i=m.fr i:=λi=>nJ;refine⟨⟨h.me.congr (λi _=>⟨e1 i,e2 i⟩),h.bk,h.br,h.bq⟩,fS.refl _ _ _ _,C.inv,C.nb,λi hi=>by rw[e2];exact C.le i hi,λf hf=>?_⟩;rw[Mv.p9 (fr:=m.fr) (λi _=>e2 i)];exact C.cW f hf
theorem UV.below{b r q x j:Nat}{m:Me}{k:Bk}{w0 w w':bD}(h:UV b r q x m k w0 j w)(B:Below w.heap.size w w'):UV b r q x m k w0 j w':=⟨h.1.below B,h.2.1.trans (fS.below B),h.2.2⟩
theorem UV.fr{b r q x j:Nat}{m:Me}{k:Bk}{w0 w:bD}(_:UV b r q x m k w0 j w):(Mv.iF m x (x+j)).fr (x+j)=m.fr (x+j)/\(Mv.iF m x (x+j)).is (x+j)=m.is (x+j):=⟨nJ,nJ⟩
theorem UV.step{b r q x j:Nat}{m:Me}{k:Bk}{w0 w w2:bD}(h:UV b r q x m k w0 j w)(hj:x+j<16)(me:dj w2 b r (Mv.iF m x (x+j)))(bk:dN w2 r q (Mv.iX m k x (j+1)))(t:fS b r q w0 w2):
  UV b r q x m k w0 (j+1) ((w2.setCell ⟨b,1+x*2+j*2,bu⟩ (aa .i64 0)).setCell ⟨b,1+x*2+j*2+1,bu⟩ (aa az (-1))):=by
 have f:bG b w2 ((w2.setCell ⟨b,1+x*2+j*2,bu⟩ (aa .i64 0)).setCell ⟨b,1+x*2+j*2+1,bu⟩ (aa az (-1))):=((bG.refl b w2).setCell _ _).setCell _ _;have a:=(me.Qo (x+j) 0 hj).Cw (x+j) 0 hj (-1) rfl;rw[show 1+(x+j)*2=1+x*2+j*2 by omega]at a;refine⟨⟨a.congr (λi _=>?_),bk.mS f h.1.br h.1.bq,h.1.br,h.1.bq⟩,t.trans (fS.mem f),h.2.2.step hj⟩;show _=je _ _ _ i/\_=je _ _ _ i;unfold je;by_cases d:i=x+j
 .subst d;rw[aJ rfl,aJ rfl];exact Mx m x j
 .rw[aI d,aI d];exact EH d
theorem MK(b r q x n:Nat)(m:Me)(k:Bk)(w:bD)(h:UB w b r q m k)(C:Mv.ym m k)(hx:x<16)(h1:1<=n)(hn:x+n<=16):
  Calls prog 158 #[ai (bj ⟨b,0,bu⟩),aa az x,aa az n] w λe w'=>e=bf (ao #[aa az (Mv.og m x n:Int),bN 0])/\UB w' b r q (Mv.iF m x (x+n)) (Mv.iX m k x n)/\fS b r q w w':=by
 have S0:Hid (UV b r q x m k w 0 w):=hJ (UV.start h C);have SP:=hJ (xW b x n w hx h1 hn);go_in
 go_wp2_with fail
 refine sC SP.v ?_;rintro w1 hw;subst w1;rw[bF];go_wp2_with fail
 go_loopw [10,25] (λs i wr=>∃(j:Nat),i=aa az j/\s=aa az (Mv.og m x j:Int)/\j<=n/\Hid (UV b r q x m k w j wr)) (λ_ i _=>n-(intOf i).toNat)
 case atStart=>exact⟨0,rfl,rfl,bB,S0⟩
 case round=>
  obtain⟨j,rfl,rfl,hj,S⟩:=hrel;by_cases hlt:j<n
  .have hltI:(j:Int)<(n:Int):=bB
   have c0:=S.1.me.CZ x j bB;have c1:=S.1.me.Ik x j bB;have cf:=S.1.me.frozen;rw[S.fr.1]at c1;have hbs:b<wr.heap.size:=S.1.me.lt;have hbn:b≠wr.heap.size:=bB
   have lc:=Mv.UA m x j;by_cases f0:m.fr (x+j)=0
   .have LE:Hid (Mv.og m x (j+1)=Mv.og m x j):=hJ (by show Mv.og m x j+(if m.fr (x+j)=0 then 0 else 1)=_;rw[aJ f0];rfl);have KE:Hid (Mv.iX m k x (j+1)=Mv.iX m k x j):=hJ (aJ f0);rw[f0]at c1;have c1':wr.cell? ⟨b,1+x*2+j*2+1,bu⟩=bj (aa az (-1)):=c1;have NX:Hid (∀o,UV b r q x m k w (j+1) (((wr.setCell ⟨b,1+x*2+j*2,bu⟩ (aa .i64 0)).setCell ⟨b,1+x*2+j*2+1,bu⟩ (aa az (-1))).alloc o)):=hJ (λo=>
     (S.step bB S.1.me (by rw[KE.v];exact S.1.bk) S.2.1).below ((aQ _ _).alloc (aL _) o))
    go_wp2
    go_roundw
    case rel=>exact⟨j+1,by go_num,by rw[LE.v],bB,NX.v _⟩
    case measure=>simp[intOf];omega
   .obtain⟨v,hv⟩:∃v,m.fr (x+j)=v+1:=⟨m.fr (x+j)-1,bB⟩;have LE:Hid (Mv.og m x (j+1)=Mv.og m x j+1):=hJ (by show Mv.og m x j+(if m.fr (x+j)=0 then 0 else 1)=_;rw[aI f0]);have KE:Hid (Mv.iX m k x (j+1)=Mv.kF (Mv.iX m k x j) v):=hJ (by
     show(if m.fr (x+j)=0 then Mv.iX m k x j else Mv.kF (Mv.iX m k x j) (m.fr (x+j)-1))=_;rw[aI f0,hv,aP])
    rw[hv,show((v+1:Nat):Int)-1=(v:Int)by omega]at c1;have v64:v<64:=by have:=S.2.2.le (x+j) bB;rw[S.fr.1,hv]at this;omega
    have v1:((v:Int)== -1)=bA:=by simp
    have RF:Hid (1<=(Mv.iX m k x j).refs v/\(Mv.iX m k x j).refs v<2^60):=hJ (by
     have a:=S.2.2.cW v v64;have p:=Mv.Dc (fr:=(Mv.iF m x (x+j)).fr) (f:=v) (n:=16) (i:=x+j) bB (by rw[S.fr.1,hv]);omega)
    have d0:=S.1.me.sW;have SB:Hid (∀o,UV b r q x m k w j (wr.alloc o)):=hJ (λo=>S.below ((aQ _ _).alloc (aL _) o));go_wp2_with fail
    go_region_with ((go_at_call 228;refine sC (zy r q v (Mv.iX m k x j) _ (by first|exact(SB.v _).1.bk.drew|exact(SB.v _).1.bk) v64 S.2.2.inv RF.1 RF.2) ?_;rintro w4 ⟨hk4,F4⟩;have H4:Hid (dj w4 b r (Mv.iF m x (x+j))/\dN w4 r q (Mv.kF (Mv.iX m k x j) v)/\fS b r q w w4):=hJ (by first|exact⟨(SB.v _).1.me.drew.two F4 S.1.br S.1.bq,hk4,(SB.v _).2.1.drew.trans (fS.CQ F4)⟩|exact⟨(SB.v _).1.me.two F4 S.1.br S.1.bq,hk4,(SB.v _).2.1.trans (fS.CQ F4)⟩)))
    all_goals
     have e0:=H4.1.CZ x j bB;have e1:=H4.1.Ik x j bB;have ef:=H4.1.frozen;have NX:Hid (UV b r q x m k w (j+1) ((w4.setCell ⟨b,1+x*2+j*2,bu⟩ (aa .i64 0)).setCell ⟨b,1+x*2+j*2+1,bu⟩ (aa az (-1)))):=hJ (S.step bB H4.1 (by rw[KE.v];exact H4.2.1) H4.2.2);generalize Mv.og m x j=cj at*;go_wp2
     go_roundw
     case rel=>exact⟨j+1,by go_num,by rw[LE.v];go_num,bB,NX.v⟩
     case measure=>simp[intOf];omega
  .have hjn:j=n:=bB
   subst hjn;go_wp2
   go_ret2
   exact⟨rfl,S.1,S.2.1⟩
theorem JF(b r q:Nat)(a n:Int)(m:Me)(k:Bk)(w:bD)(h:UB w b r q m k)(C:Mv.ym m k):
  Calls prog 158 #[ai (bj ⟨b,0,bu⟩),aa az a,aa az n] w λe w'=>e=bf (ao #[aa az (Mv.rL m a n:Int),bN (Mv.pL a n)])/\UB w' b r q (Mv.kH m a n) (Mv.nM m k a n)/\fS b r q w w':=by
 unfold Mv.rL Mv.pL Mv.kH Mv.nM;cases hb:Mv.kZ a n
 .obtain⟨x,j,rfl,rfl,hx,hk1,hk⟩:=Mv.si hb;rw[aI bE,aI bE,aI bE,aI bE,hZ,hZ];exact MK b r q x j m k w h C hx hk1 hk
 .rw[aJ rfl,aJ rfl,aJ rfl,aJ rfl];have HF:=hJ h;have SP:=hJ (vG b a n w hb);go_in
  go_wp2_with fail
  refine sC SP.v ?_;rintro w1 hw;subst w1;rw[bH bE];go_wp2
  go_ret2
  exact⟨rfl,HF.v,fS.refl _ _ _ _⟩
def kA(r:Nat)(m:Me):Array Value:=((List.range 33).map (lD r m)).toArray
theorem G5(r:Nat)(m:Me)(i:Nat)(h:i<33):(kA r m)[i]? =bj (lD r m i):=by simp[kA,h]
theorem By(r:Nat)(m:Me):(kA r m).size=33:=by simp[kA]
theorem qK(r:Nat)(m:Me):(kA r m).toList.length=33:=by simp[kA]
theorem OQ(r:Nat)(m:Me):(kA r m).all (·.oneCell')=bw:=by
 rw[Array.all_eq_true_iff_forall_mem];intro v hv;simp only[kA,List.mem_toArray,List.mem_map]at hv;obtain⟨o,_,rfl⟩:=hv;unfold lD;split
 .rfl
 .split<;>rfl
theorem dj.all{m:Me}(h:dj w b r m):w.rangeAt b 0 (kA r m).toList:=λj v hv=>by
 have hj:j<33:=by have:=(aY.1 hv).1;rwa [qK]at this
 rw[aM,G5 r m j hj]at hv;rw[Nat.zero_add,<-hv];exact h.cell j hj
def rK:Array Value:=((List.range 33).map λo=>if o=0 then ai bu else aa .i64 0).toArray
section
variable {ops:Array Oper}{rest:List Oper}{x:Oper}{a:Act}{w:bD}{Q:Exit->Act->bD->Prop}
theorem Bb(hgd:x.guard=bu)(ho:x.op= .alloc 186)(h:wpList prog ops Q rest (a.put x.dst (ai (bj ⟨w.heap.size,0,bu⟩))) (w.alloc (bh rK 186))):wpList prog ops Q (x::rest) a w:=
 wpList_plain hgd λ_ hK=>by
  unfold Oper.wp execOp;simp only[ho];simp[go_sem];exact hK _ _ h
end
theorem Py:rK.size=33:=by simp[rK]
theorem Uy{c:Nat}{m:Me}(h:w.heap[c]? =bj (bh rK 186 (0,0))):dj (w.setCells c 0 (kA r m).toList) c r m:=by
 obtain⟨C',k1,k2⟩:=eP c (kA r m).toList 0 w rK h;refine⟨⟨C',k1,by rw[k2,Py]⟩,λo ho=>?_⟩;have:=aS c (kA r m).toList 0 w (λi hi=>by
  rw[qK]at hi;rw[bR h];simp[rK];exact hi) o (by rw[qK];exact ho)
 rw[Nat.zero_add]at this;rw[this,<-aW (by rw[qK];exact ho),aM,G5 r m o ho]
def Mv.eI(m:Me)(k:Bk)(j:Nat):Bk:={k with refs:=λf=>k.refs f+Mv.eV m.fr f j}
theorem dN.congr{k k':Bk}(h:dN w r q k)(e1:k'.dg=k.dg)(e2:∀f,f<64->k'.refs f=k.refs f)(e3:∀f j,f<64->k'.dO f j=k.dO f j):dN w r q k':=by
 refine⟨h.da,λo ho=>?_,by rw[e1];exact h.dg,h.ne⟩;rw[h.cell o ho];unfold nU;by_cases c:o=0
 .rw[aJ c,aJ c]
 .rw[aI c,aI c,e2 _ bB,e3 _ _ bB]
theorem dN.Rk{m:Me}{k:Bk}(h:dN w r q k):dN w r q (Mv.eI m k 0):=h.congr rfl (λ_ _=>rfl) (λ_ _ _=>rfl)
theorem dN.VE{m:Me}{k:Bk}(h:dN w r q (Mv.eI m k j))(c:m.fr j=0):dN w r q (Mv.eI m k (j+1)):=h.congr rfl (λf _=>by
 show k.refs f+(Mv.eV m.fr f j+if m.fr j=f+1 then 1 else 0)=k.refs f+Mv.eV m.fr f j;rw[nJ];rfl) (λ_ _ _=>rfl)
theorem dN.UK{m:Me}{k:Bk}(h:dN w r q (Mv.eI m k j))(c:m.fr j=v+1)(hv:v<64):dN (w.setCell ⟨r,1+v*9,bu⟩ (aa az (((Mv.eI m k j).refs v+1:Nat):Int))) r q (Mv.eI m k (j+1)):=(h.sG v _ hv).congr rfl (λf _=>by
 show k.refs f+(Mv.eV m.fr f j+if m.fr j=f+1 then 1 else 0)=if f=v then k.refs v+Mv.eV m.fr v j+1 else k.refs f+Mv.eV m.fr f j;by_cases e:f=v
 .subst e;rw[aJ c,aJ rfl];omega
 .rw[nJ,aI e];rfl) (λ_ _ _=>rfl)
theorem Gu(fr:Nat->Nat)(f n:Nat):Mv.eV fr f n<=n:=by
 induction n with
 |zero=>exact aL 0
 |succ n ih=>show Mv.eV fr f n+_<=n+1;split<;>omega
theorem MI(b r q:Nat)(m:Me)(k:Bk)(w:bD)(h:UB w b r q m k)(hl:∀i,i<16->m.fr i<=64)(hr:∀f,f<64->k.refs f<2^58):
  Calls prog 144 #[ai (bj ⟨b,0,bu⟩)] w λe w'=>e=bf (ai (bj ⟨w.heap.size,0,bu⟩))/\dj w' w.heap.size r m/\UB w' b r q m (Mv.eI m k 16)/\bG r w w':=by
 have HF:=hJ (aK h (aK hl hr));have HR:=hJ h.me.all;have hs1:Hid ((prog.info? 186).map (·.size)=bj (kA r m).toList.length):=hJ (by rw[qK];kernel_rfl);have hs2:Hid ((prog.info? 186).map (·.size)=bj (kA r m).size):=hJ (by rw[By];kernel_rfl);have h1c:=hJ (OQ r m);have N0:Hid ((w.alloc (bh rK 186)).heap[w.heap.size]? =bj (bh rK 186 (0,0))):=hJ (heap_alloc_new w _);have TH:Hid ((w.alloc (bh rK 186)).there w.heap.size 0 (kA r m).size):=hJ (λj hj=>by
  rw[By]at hj;refine⟨?_,cE N0.v _⟩;rw[bR N0.v];simp[rK];exact hj)
 have FIN:Hid (dj ((w.alloc (bh rK 186)).setCells w.heap.size 0 (kA r m).toList) w.heap.size r m/\UB ((w.alloc (bh rK 186)).setCells w.heap.size 0 (kA r m).toList) b r q m k/\Below w.heap.size w ((w.alloc (bh rK 186)).setCells w.heap.size 0 (kA r m).toList)):=hJ (by
  have bb:Below w.heap.size w ((w.alloc (bh rK 186)).setCells w.heap.size 0 (kA r m).toList):=(bG.setCells _ _ (bG.refl w.heap.size _)).below ((aQ _ _).alloc (aL _) _) (aL _) (by simp);exact⟨Uy N0.v,HF.1.below bb,bb⟩)
 obtain⟨A,hA⟩:=hU (kA r m);rw[hA]at HR hs1 hs2 h1c TH FIN;go_in
 go_upto_region 2 with(first|(refine wpList_load_mid rfl 186 _ rfl b 0 rfl A.toList _ HR.v Tryz.underlying186 rfl hs1.v ?_;rw[Array.toArray_toList])|(refine Bb rfl rfl ?_)|(refine wpList_store_mid rfl 186 _ _ rfl w.heap.size 0 A rfl rfl TH.v hs2.v h1c.v ?_))
 refine cJ (λW=>dj W w.heap.size r m/\UB W b r q m k/\Below w.heap.size w W) FIN.v ?_;intro W1 hW1;have S1:=hJ hW1;obtain⟨c,hc⟩:=hU (w.heap.size);have HC:Hid (w.heap.size=c/\c≠r/\c≠q/\b≠c):=hJ ⟨hc,by have:=HF.1.bk.lt;omega,by have:=HF.1.bk.DQ;omega,by have:=HF.1.me.lt;omega⟩;rw[hc]at S1|-;have hsz:=hJ (BM m);have HR:=hJ S1.1.range;go_wp2_with (refine wpList_load_mid rfl 184 _ rfl c 1 rfl (rowP m) (.array 16 183) HR.v bC rfl hsz.v ?_)
 have S2:Hid (dj W1 c r m/\UB W1 b r q m (Mv.eI m k 0)/\bG r w W1):=hJ ⟨S1.1,⟨S1.2.1.me,S1.2.1.bk.Rk,S1.2.1.br,S1.2.1.bq⟩,bG.cL (by have:=S1.2.2;rw[<-HC.1]at this;exact this)⟩;go_loopw [11] (λi wr=>∃(j:Nat),i=aa az j/\j<=16/\Hid (dj wr c r m/\UB wr b r q m (Mv.eI m k j)/\bG r w wr)) (λi _=>16-(intOf i).toNat)
 case atStart=>exact⟨0,rfl,bB,S2⟩
 case round=>
  obtain⟨j,rfl,hj,S⟩:=hrel;by_cases hlt:j<16
  .have hltI:(j:Int)<16:=bB
   have hix:=yS m j hlt;have AL:Hid (∀o,dj (wr.alloc o) c r m/\UB (wr.alloc o) b r q m (Mv.eI m k j)/\bG r w (wr.alloc o)):=hJ (λo=>by
    have bb:Below wr.heap.size wr (wr.alloc o):=(aQ _ _).alloc (aL _) o;exact⟨S.1.below bb,S.2.1.below bb,S.2.2.trans (bG.cL bb)⟩)
   generalize m.is j=u0 at*;by_cases f0:m.fr j=0
   .have NX:Hid (∀o,dj (wr.alloc o) c r m/\UB (wr.alloc o) b r q m (Mv.eI m k (j+1))/\bG r w (wr.alloc o)):=hJ (λo=>⟨(AL.v o).1,⟨(AL.v o).2.1.me,(AL.v o).2.1.bk.VE f0,(AL.v o).2.1.br,(AL.v o).2.1.bq⟩,(AL.v o).2.2⟩);rw[f0]at hix;go_wp2
    go_roundw
    case rel=>exact⟨j+1,by go_num,bB,NX.v _⟩
    case measure=>simp[intOf];omega
   .obtain⟨v,hv⟩:∃v,m.fr j=v+1:=⟨m.fr j-1,bB⟩;have v64:v<64:=by have:=HF.2.1 j hlt;omega
    rw[hv,show((v+1:Nat):Int)-1=(v:Int)by omega]at hix;have v1:((v:Int)== -1)=bA:=by simp
    have vI:(v:Int)<64:=bB
    have hcl:=Gu m.fr v j;have hrl:=HF.2.2 v v64;have rfl2:Hid ((Mv.eI m k j).refs v<2^59):=hJ (by show k.refs v+Mv.eV m.fr v j<_;omega);have NX:Hid (∀W,dj W c r m->UB W b r q m (Mv.eI m k j)->bG r w W->dj (W.setCell ⟨r,1+v*9,bu⟩ (aa az (((Mv.eI m k j).refs v+1:Nat):Int))) c r m/\UB (W.setCell ⟨r,1+v*9,bu⟩ (aa az (((Mv.eI m k j).refs v+1:Nat):Int))) b r q m (Mv.eI m k (j+1))/\bG r w (W.setCell ⟨r,1+v*9,bu⟩ (aa az (((Mv.eI m k j).refs v+1:Nat):Int)))):=hJ (λW a1 a2 a3=>
     ⟨a1.same (dE _ _ _ _ HC.2.1),⟨a2.me.same (dE _ _ _ _ a2.br),a2.bk.UK hv v64,a2.br,a2.bq⟩,a3.setCell _ _⟩)
    obtain⟨rv,hrv⟩:=hU ((Mv.eI m k j).refs v);rw[hrv]at NX rfl2;have CR:Hid (∀W,UB W b r q m (Mv.eI m k j)->W.cell? ⟨r,1+v*9,bu⟩=bj (aa az (rv:Int))):=hJ (λW hW=>by rw[<-hrv];exact hW.bk.yK v v64);have rl:=rfl2.v;have hw:IntKind.i64.wrap ((rv:Int)+1)=(rv:Int)+1:=aN _ ⟨by omega,bB⟩;go_upto_region 6 with fail
    refine cJ (λW=>(dj W c r m/\UB W b r q m (Mv.eI m k j)/\bG r w W)/\W.heap[wr.heap.size]? =bj (bh #[aa az (u0:Int),aa az (v:Int)] 183 (0,0))) ⟨AL.v _,heap_alloc_new wr _⟩ ?_;rintro W2 ⟨h2,x2⟩;have H2:=hJ h2;have d0:=h2.2.1.me.sW;have d1:=cR x2 1 _ rfl;have d2:=CR.v _ h2.2.1;have df:=h2.2.1.bk.frozen;generalize wr.heap.size=bp at*;go_region
    generalize hW:World.drew _=W3;have H3:Hid (dj W3 c r m/\UB W3 b r q m (Mv.eI m k (j+1))/\bG r w W3):=hJ (by
     rw[<-hW];have a:=NX.v W2 H2.1 H2.2.1 H2.2.2;exact⟨a.1.drew,a.2.1.drew,a.2.2.drew⟩)
    go_wp2
    go_roundw
    case rel=>exact⟨j+1,by go_num,bB,H3⟩
    case measure=>simp[intOf];omega
  .have hj16:j=16:=bB
   subst hj16;go_wp2
   go_ret
   rw[HC.1];exact⟨rfl,S.v⟩
