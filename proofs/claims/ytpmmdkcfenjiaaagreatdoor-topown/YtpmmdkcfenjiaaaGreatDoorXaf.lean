import Derived.Test.YtpmmdkcfenjiaaaGreatDoorXae
set_option maxRecDepth 100000
set_option maxHeartbeats 2000000
set_option linter.unusedVariables false
set_option linter.unusedSimpArgs false
namespace Go.Proofs.YtpmmdkcfenjiaaaGreatDoor
open Value renaming int->aa,pointer->ai,slice->aj,tuple->ao,bool->ar,agg->au
open IntKind renaming i64->bf,u8->bh
open Ending renaming returned->bw
open Obj renaming cells->bA
open Option renaming some->bB,none->bC
open Bool renaming true->bE,false->bF
open Tryz (prog)
open Go.RowKit
variable {E e:Int}{a b f g i j n q r v x:Nat}{fs:Nat->Nat}{w:bD}
namespace Mv
structure Me where
 is:Nat->Nat
 fr:Nat->Nat
def j9(a n:Int):Bool:=decide (a<0\/15<a\/n<1\/16-a<n)
def jK(m:Me)(z:Int)(wr:Bool):Bool:=if z<0\/127<z then bF else decide (m.is (z.toNat/8)=2)||(decide (m.is (z.toNat/8)=1)&& !wr)
def kR(m:Me)(z:Int):Bool:=jK m z bF&&decide (m.fr (z.toNat/8)=0)
def qD(m:Me)(a e:Nat)(wr:Bool):Me:={m with is:=λi=>if a<=i/\i<e then(if wr then 2 else 1)else m.is i}
def anyM(m:Me)(a e:Nat):Bool:=(List.range 16).any (λi=>decide (a<=i/\i<e)&&decide (m.is i≠0))
def allM(m:Me)(a e:Nat):Bool:=(List.range 16).all (λi=> !decide (a<=i/\i<e)||decide (m.is i≠0))
def rS(m:Me)(a n:Int):Int:=if j9 a n=bE then 1 else if anyM m a.toNat (a.toNat+n.toNat)=bE then 3 else 0
def mapM(m:Me)(a n:Int)(wr:Bool):Me:=if rS m a n=0 then qD m a.toNat (a.toNat+n.toNat) wr else m
def rU(m:Me)(a n:Int):Int:=if j9 a n=bE then 1 else if allM m a.toNat (a.toNat+n.toNat)=bE then 0 else 10
def ve(m:Me)(a n:Int)(wr:Bool):Me:=if rU m a n=0 then qD m a.toNat (a.toNat+n.toNat) wr else m
def cX(m:Me):Nat->Nat
 |0=>0
 |k+1=>cX m k+if m.fr k=0 then 0 else 1
theorem sd{a n:Int}(h:j9 a n=bF):∃x k:Nat,a=x/\n=k/\x<16/\1<=k/\x+k<=16:=by
 unfold j9 at h;rw[decide_eq_false_iff_not]at h;exact⟨a.toNat,n.toNat,bG,bG,bG,bG,bG⟩
theorem KO{m:Me}{wr:Bool}(hi:a<=i)(x:Nat):(qD m a (i+1) wr).is x=if x=i then(if wr then 2 else 1)else(qD m a i wr).is x:=by
 show(if a<=x/\x<i+1 then(if wr then 2 else 1)else m.is x)=if x=i then(if wr then 2 else 1)else(if a<=x/\x<i then(if wr then 2 else 1)else m.is x);by_cases c:x=i
 .rw[nK,aJ c]
 .rw[aI c];by_cases d:a<=x/\x<i
  .rw[nK,aJ d]
  .rw[nJ,aI d]
theorem KN(m:Me)(a:Nat)(wr:Bool)(x:Nat):(qD m a a wr).is x=m.is x:=by
 show(if a<=x/\x<a then _ else m.is x)=m.is x;rw[nJ]
theorem Mz{m:Me}{e:Nat}(he:e<=16):anyM m a e=bE↔∃i,a<=i/\i<e/\m.is i≠0:=by
 unfold anyM;rw[List.any_eq_true];constructor
 .rintro⟨i,_,h⟩;simp only[Bool.and_eq_true,decide_eq_true_eq]at h;exact⟨i,h.1.1,h.1.2,h.2⟩
 .rintro⟨i,h1,h2,h3⟩;exact⟨i,by simp;omega,by simp only[Bool.and_eq_true,decide_eq_true_eq];exact⟨⟨h1,h2⟩,h3⟩⟩
theorem Cw{m:Me}{e:Nat}(he:e<=16):allM m a e=bE↔∀i,a<=i->i<e->m.is i≠0:=by
 unfold allM;rw[List.all_eq_true];constructor
 .intro h i h1 h2;have:=h i (by simp;omega);simp only[Bool.or_eq_true,Bool.not_eq_true',decide_eq_false_iff_not,decide_eq_true_eq]at this;rcases this with c|c
  .exact aZ ⟨h1,h2⟩ c
  .exact c
 .intro h i _;simp only[Bool.or_eq_true,Bool.not_eq_true',decide_eq_false_iff_not,decide_eq_true_eq];by_cases c:a<=i/\i<e
  .exact .inr (h i c.1 c.2)
  .exact .inl c
end Mv
open Mv (Me)
section
variable {w w':bD}{b r:Nat}{m m':Me}{own own':Nat->Bool}
def iJ(f:Nat->Nat)(i v:Nat):Nat->Nat:=λj=>if j=i then v else f j
end
theorem C7(x:Nat):((x:Int)/8).toNat=x/8:=bG
section
attribute [local go_sem] C7
end
theorem qb(m:Me)(k:Nat):Mv.cX m k<=k:=by
 induction k with
 |zero=>exact aL 0
 |succ k ih=>show Mv.cX m k+_<=k+1;split<;>omega
open Bd (P)
namespace Mv
structure Bk where
 dn:P
 dc:Nat->Nat->Int
 refs:Nat->Nat
def Gb(k:Bk)(p:P)(f:Nat):Bk:=⟨p,λg j=>if g=f then 0 else k.dc g j,λg=>if g=f then 1 else k.refs g⟩
def uq(k:Bk)(e:Int)(f:Nat)(k':Bk):Prop:=∃p',Bd.qg k.dn 0 e f p'/\k'=if e=0 then Gb k p' f else{k with dn:=p'}
def ko(k:Bk)(f:Nat):Bk:={k with refs:=λg=>if g=f then k.refs f-1 else k.refs g,dn:=if k.refs f=1 then Bd.lu k.dn f else k.dn}
end Mv
open Mv (Bk)
section
variable {w w':bD}{r q:Nat}{k k':Bk}
def Pb(g:Nat->Int):Array Value:=#[aa bh (g 0),aa bh (g 1),aa bh (g 2),aa bh (g 3),aa bh (g 4),aa bh (g 5),aa bh (g 6),aa bh (g 7)]
theorem pg(g:Nat->Int)(j:Nat)(hj:j<8):(Pb g)[j]? =bB (aa bh (g j)):=by
 match j,hj with
 |0,_=>rfl
 |1,_=>rfl
 |2,_=>rfl
 |3,_=>rfl
 |4,_=>rfl
 |5,_=>rfl
 |6,_=>rfl
 |7,_=>rfl
end
theorem yp{p p':P}(h:Bd.qg p 0 e f p'):f<64:=by
 rcases h with⟨_,_,rfl,_⟩|⟨_,_,_,rfl,_⟩|⟨_,h,_,_⟩
 .decide
 .decide
 .exact h.lt
def Mv.Cz:Bk:=⟨Bd.b0,λ_ _=>0,λ_=>0⟩
open Mv (Me Bk)
namespace Mv
def AZ(k:Bk)(f g:Nat):Bk:={k with dc:=λa i=>if a=g then k.dc f i else k.dc a i}
def kG(m:Me)(k:Bk)(z:Int)(wr:Bool)(E:Int)(g:Nat)(m':Me)(k':Bk):Prop:=
 (jK m z wr=bF/\E=10/\g=0/\m'=m/\k'=k)\/
 (jK m z wr=bE/\m.fr (z.toNat/8)≠0/\(wr=bF\/k.refs (m.fr (z.toNat/8)-1)=1)/\E=0/\g=m.fr (z.toNat/8)-1/\m'=m/\k'=k)\/
 (jK m z wr=bE/\¬(m.fr (z.toNat/8)≠0/\(wr=bF\/k.refs (m.fr (z.toNat/8)-1)=1))/\∃k1,uq k E g k1/\
  ((E≠0/\m'=m/\k'=k1)\/(E=0/\m'={m with fr:=iJ m.fr (z.toNat/8) (g+1)}/\k'=if m.fr (z.toNat/8)=0 then k1 else ko (AZ k1 (m.fr (z.toNat/8)-1) g) (m.fr (z.toNat/8)-1))))
end Mv
structure fX (b r q:Nat)(w w':bD):Prop where
 os:w'.os=w.os
 tape:w'.tape=w.tape
 output:w'.output=w.output
 size:w.heap.size<=w'.heap.size
 block:∀k,k<w.heap.size->k≠b->k≠r->k≠q->w'.heap[k]? =w.heap[k]?
section
variable {b r q:Nat}{u v w:bD}
theorem fX.refl(b r q:Nat)(w:bD):fX b r q w w:=⟨rfl,rfl,rfl,aL _,λ_ _ _ _ _=>rfl⟩
theorem fX.trans(h:fX b r q u v)(k:fX b r q v w):fX b r q u w:=⟨k.os.trans h.os,k.tape.trans h.tape,k.output.trans h.output,aH h.size k.size,λj hj h1 h2 h3=>(k.block j (aD hj h.size) h1 h2 h3).trans (h.block j hj h1 h2 h3)⟩
theorem fX.mem(h:bO b u v):fX b r q u v:=⟨h.os,h.tape,h.output,h.size,λk hk h1 _ _=>h.block k hk h1⟩
theorem fX.Cy(h:jm r q u v):fX b r q u v:=⟨h.os,h.tape,h.output,h.size,λk hk _ h1 h2=>h.block k hk h1 h2⟩
end
section
attribute [local go_sem] C7
end
section
attribute [local go_sem] C7
theorem uT{m:Me}{z:Int}{wr:Bool}(h:Mv.jK m z wr=bE):∃x:Nat,z=x/\x<128:=by
 have hz:¬(z<0\/127<z):=λc=>by unfold Mv.jK at h;rw[aJ c]at h;cases h
 exact⟨z.toNat,bG,bG⟩
end
def Mv.GU(k:Bk)(g j:Nat)(v:Int):Bk:={k with dc:=λa i=>if a=g/\i=j then v else k.dc a i}
theorem Tl(x:Nat):((x:Int)%8).toNat=x%8:=bG
section
attribute [local go_sem] Tl
end
namespace Mv
def eH(fr:Nat->Nat)(f:Nat):Nat->Nat
 |0=>0
 |i+1=>eH fr f i+if fr i=f+1 then 1 else 0
theorem pV{fr:Nat->Nat}(h:∀i,i<n->fs i=fr i):eH fs f n=eH fr f n:=by
 induction n with
 |zero=>rfl
 |succ n ih=>show eH fs f n+_=eH fr f n+_;rw[ih (λi hi=>h i bG),h n bG]
theorem MU{fr:Nat->Nat}(hi:i<n)(e:fr i=f+1)(h0:fs i=0)(h:∀j,j≠i->fs j=fr j):eH fs f n+1=eH fr f n:=by
 induction n with
 |zero=>omega
 |succ n ih=>
  show eH fs f n+(if fs n=f+1 then 1 else 0)+1=eH fr f n+if fr n=f+1 then 1 else 0;by_cases c:i=n
  .subst c;rw[pV (λj hj=>h j bG),h0,e,nJ,aJ rfl]
  .rw[h n (λd=>c d.symm)];have:=ih bG;omega
theorem Hv{fr:Nat->Nat}(e:fr i≠f+1)(h0:fs i=0)(h:∀j,j≠i->fs j=fr j):eH fs f n=eH fr f n:=by
 induction n with
 |zero=>rfl
 |succ n ih=>
  show eH fs f n+_=eH fr f n+_;rw[ih];by_cases c:i=n
  .subst c;rw[h0,nJ,aI e]
  .rw[h n (λd=>c d.symm)]
theorem qp{fr:Nat->Nat}(hi:i<n)(e:fr i=f+1):1<=eH fr f n:=by
 induction n with
 |zero=>omega
 |succ n ih=>
  show 1<=eH fr f n+if fr n=f+1 then 1 else 0;by_cases c:i=n
  .subst c;rw[aJ e];omega
  .have:=ih bG;omega
structure ye (m:Me)(k:Bk):Prop where
 inv:Bd.Inv k.dn
 nb:Bd.NB k.dn 64
 le:∀i,i<16->m.fr i<=64
 cY:∀f,f<64->eH m.fr f 16<=k.refs f/\k.refs f<2^59
def gV(m:Me)(a i:Nat):Me:=⟨λx=>if a<=x/\x<i then 0 else m.is x,λx=>if a<=x/\x<i then 0 else m.fr x⟩
def gU(m:Me)(k:Bk)(a:Nat):Nat->Bk
 |0=>k
 |j+1=>if m.fr (a+j)=0 then gU m k a j else ko (gU m k a j) (m.fr (a+j)-1)
def n7(m:Me)(a:Nat):Nat->Nat
 |0=>0
 |j+1=>n7 m a j+if m.fr (a+j)=0 then 0 else 1
theorem T6(m:Me)(a j:Nat):n7 m a j<=j:=by
 induction j with
 |zero=>exact aL 0
 |succ j ih=>show n7 m a j+_<=j+1;split<;>omega
theorem Ig(a j:Nat){α}(x y:α):(if a<=a+j/\a+j<a+(j+1)then x else y)=x:=nK
theorem Ae(h:x≠a+j){α}(u v:α):(if a<=x/\x<a+(j+1)then u else v)=if a<=x/\x<a+j then u else v:=by
 by_cases c:a<=x/\x<a+j
 .rw[aJ c,nK]
 .rw[aI c,nJ]
theorem ye.step{m:Me}{k:Bk}(h:ye (gV m a (a+j)) (gU m k a j))(hj:a+j<16):ye (gV m a (a+(j+1))) (gU m k a (j+1)):=by
 have e0:(gV m a (a+j)).fr (a+j)=m.fr (a+j):=nJ;have e1:(gV m a (a+(j+1))).fr (a+j)=0:=Ig a j _ _;have e2:∀x,x≠a+j->(gV m a (a+(j+1))).fr x=(gV m a (a+j)).fr x:=λx hx=>Ae hx _ _;have le:∀i,i<16->(gV m a (a+(j+1))).fr i<=64:=λi hi=>by
  by_cases c:i=a+j
  .subst c;rw[e1];omega
  .rw[e2 i c];exact h.le i hi
 by_cases c:m.fr (a+j)=0
 .have eK:gU m k a (j+1)=gU m k a j:=aJ c;rw[eK];refine⟨h.inv,h.nb,le,λf hf=>?_⟩;rw[pV (fr:=(gV m a (a+j)).fr) (λx _=>by
   by_cases d:x=a+j
   .subst d;rw[e1,e0,c]
   .exact e2 x d)]
  exact h.cY f hf
 .have eK:gU m k a (j+1)=ko (gU m k a j) (m.fr (a+j)-1):=aI c;rw[eK];have l:=h.le (a+j) hj;rw[e0]at l;have ip:Bd.Inv (ko (gU m k a j) (m.fr (a+j)-1)).dn/\Bd.NB (ko (gU m k a j) (m.fr (a+j)-1)).dn 64:=by
   show Bd.Inv (if _ then _ else _)/\Bd.NB (if _ then _ else _) 64;split
   .exact h.inv.Su h.nb _
   .exact⟨h.inv,h.nb⟩
  refine⟨ip.1,ip.2,le,λf hf=>?_⟩;have hc:=h.cY f hf;show _<=(if f=m.fr (a+j)-1 then(gU m k a j).refs (m.fr (a+j)-1)-1 else(gU m k a j).refs f)/\(if f=m.fr (a+j)-1 then(gU m k a j).refs (m.fr (a+j)-1)-1 else(gU m k a j).refs f)<2^59;by_cases d:f=m.fr (a+j)-1
  .have:=MU (f:=f) hj (by rw[e0];omega) e1 e2;rw[aJ d,<-d];omega
  .rw[aI d,Hv (fr:=(gV m a (a+j)).fr) (by rw[e0];omega) e1 e2];exact hc
end Mv
theorem Es{m:Me}(h:x≠a+j):(Mv.gV m a (a+(j+1))).is x=(Mv.gV m a (a+j)).is x/\(Mv.gV m a (a+(j+1))).fr x=(Mv.gV m a (a+j)).fr x:=⟨Mv.Ae h _ _,Mv.Ae h _ _⟩
theorem LZ(m:Me)(a j:Nat):(Mv.gV m a (a+(j+1))).is (a+j)=0/\(Mv.gV m a (a+(j+1))).fr (a+j)=0:=⟨Mv.Ig a j _ _,Mv.Ig a j _ _⟩
def Mv.kF(a n:Int):Int:=if j9 a n=bE then 1 else 0
def Mv.qN(m:Me)(a n:Int):Nat:=if j9 a n=bE then 0 else n7 m a.toNat n.toNat
def Mv.j7(m:Me)(a n:Int):Me:=if j9 a n=bE then m else gV m a.toNat (a.toNat+n.toNat)
def Mv.lD(m:Me)(k:Bk)(a n:Int):Bk:=if j9 a n=bE then k else gU m k a.toNat n.toNat
def nN(q:Nat)(k:Bk)(o:Nat):Value:=if o=0 then ai (bB ⟨q,0,bC⟩)else if(o-1)%9=0 then aa bf (k.refs ((o-1)/9):Int)else aa bh (k.dc ((o-1)/9) ((o-1)%9-1))
structure dN (w:bD)(r q:Nat)(k:Bk):Prop where
 dk:∃C,w.heap[r]? =bB (bA C 219 (0,0))/\C.size=577
 cell:∀o,o<577->w.cell? ⟨r,o,bC⟩=bB (nN q k o)
 dn:eE w q k.dn
 ne:q≠r
section
variable {w w':bD}{r q:Nat}{k k':Bk}
theorem dN.drew(h:dN w r q k):dN w.drew r q k:=⟨h.dk,h.cell,h.dn.drew,h.ne⟩
theorem dN.frozen(h:dN w r q k)(o:Nat):w.frozen? ⟨r,o,bC⟩=bF:=by obtain⟨C,h1,_⟩:=h.dk;exact cL h1 o
theorem dN.lt(h:dN w r q k):r<w.heap.size:=by obtain⟨C,h1,_⟩:=h.dk;exact(aX.1 h1).1
theorem dN.DB(h:dN w r q k):q<w.heap.size:=h.dn.lt
theorem dN.same(h:dN w r q k)(e:w'.heap[r]? =w.heap[r]?)(e2:w'.heap[q]? =w.heap[q]?):dN w' r q k:=⟨by rw[e];exact h.dk,λo ho=>(aV e).trans (h.cell o ho),h.dn.same e2,h.ne⟩
theorem dN.below(h:dN w r q k)(b:Below w.heap.size w w'):dN w' r q k:=h.same (b.block r h.lt) (b.block q h.DB)
theorem dN.EJ(h:dN w r q k){p:P}(f:bO q w w')(kp:eE w' q p):dN w' r q {k with dn:=p}:=by
 have e:=f.block r h.lt (bQ h.ne);exact⟨by rw[e];exact h.dk,λo ho=>(aV e).trans (h.cell o ho),kp,h.ne⟩
theorem dN.cP(h:dN w r q k):w.cell? ⟨r,0,bC⟩=bB (ai (bB ⟨q,0,bC⟩)):=h.cell 0 bG
theorem dN.cB(h:dN w r q k)(f j:Nat)(hf:f<64)(hj:j<8):w.cell? ⟨r,1+f*9+1+j,bC⟩=bB (aa bh (k.dc f j)):=by
 rw[h.cell _ bG,nN,nJ,nJ,show(1+f*9+1+j-1)/9=f by omega,show(1+f*9+1+j-1)%9-1=j by omega]
theorem dN.yB(h:dN w r q k)(f:Nat)(hf:f<64):w.cell? ⟨r,1+f*9,bC⟩=bB (aa bf (k.refs f:Int)):=by
 rw[h.cell _ bG,nN,nJ,nK,show(1+f*9-1)/9=f by omega]
theorem eE.Gi{p:P}(h:eE w q p)(hne:q≠r)(o:Nat)(v:Value):eE (w.setCell ⟨r,o,bC⟩ v) q p:=h.same (dS _ _ _ _ hne)
theorem dN.set(h:dN w r q k)(o:Nat)(ho:o<577)(v:Value)(hp:k'.dn=k.dn)(hv:∀i,i<577->nN q k' i=if i=o then v else nN q k i):dN (w.setCell ⟨r,o,bC⟩ v) r q k':=by
 obtain⟨C,h1,h2⟩:=h.dk;refine⟨⟨_,cT h1 _ v,by simpa using h2⟩,λi hi=>?_,by rw[hp];exact h.dn.Gi h.ne o v,h.ne⟩;rw[hv i hi];by_cases e:i=o
 .subst e;rw[dH h1 _ v bG,aJ rfl]
 .rw[dw h1 _ _ v (bQ e),aI e];exact h.cell i hi
theorem dN.sE(h:dN w r q k)(f v:Nat)(hf:f<64):dN (w.setCell ⟨r,1+f*9,bC⟩ (aa bf (v:Int))) r q {k with refs:=λg=>if g=f then v else k.refs g}:=by
 refine h.set (1+f*9) bG _ rfl (λx hx=>?_);unfold nN;by_cases c0:x=0
 .rw[aJ c0,aJ c0,nJ]
 .rw[aI c0,aI c0];by_cases c:(x-1)%9=0
  .rw[aJ c,aJ c];by_cases e:x=1+f*9
   .rw[aJ e];simp[show(x-1)/9=f by omega]
   .rw[aI e];simp[show(x-1)/9≠f by omega]
  .rw[aI c,aI c,nJ]
theorem dN.Vc(h:dN w r q k)(f j:Nat)(v:Int)(hf:f<64)(hj:j<8):dN (w.setCell ⟨r,1+f*9+1+j,bC⟩ (aa bh v)) r q (Mv.GU k f j v):=by
 refine h.set (1+f*9+1+j) bG _ rfl (λx hx=>?_);unfold nN Mv.GU;by_cases c0:x=0
 .rw[aJ c0,aJ c0,nJ]
 .rw[aI c0,aI c0];by_cases c:(x-1)%9=0
  .rw[aJ c,aJ c,nJ]
  .rw[aI c,aI c];by_cases e:x=1+f*9+1+j
   .rw[aJ e];simp[show(x-1)/9=f by omega,show(x-1)%9-1=j by omega]
   .rw[aI e];simp[show¬((x-1)/9=f/\(x-1)%9-1=j)by omega]
def yJ(n:Int)(g:Nat->Int):Array Value:=#[aa bf n,aa bh (g 0),aa bh (g 1),aa bh (g 2),aa bh (g 3),aa bh (g 4),aa bh (g 5),aa bh (g 6),aa bh (g 7)]
theorem mJ(n:Int)(g:Nat->Int)(j:Nat)(hj:j<9):(yJ n g)[j]? =bB (if j=0 then aa bf n else aa bh (g (j-1))):=by
 match j,hj with
 |0,_=>rfl
 |1,_=>rfl
 |2,_=>rfl
 |3,_=>rfl
 |4,_=>rfl
 |5,_=>rfl
 |6,_=>rfl
 |7,_=>rfl
 |8,_=>rfl
def Mv.xH(k:Bk)(f n:Nat)(g:Nat->Int):Bk:={k with dc:=λa i=>if a=f then g i else k.dc a i,refs:=λa=>if a=f then n else k.refs a}
theorem dN.OJ(h:dN w r q k)(f n:Nat)(hf:f<64)(g:Nat->Int):dN (w.setCells r (1+f*9) (yJ (n:Int) g).toList) r q (Mv.xH k f n g):=by
 obtain⟨C,h1,h2⟩:=h.dk;have ht:∀j,j<9->(w.cell? ⟨r,1+f*9+j,bC⟩).isSome=bE:=λj hj=>by rw[h.cell _ bG];rfl
 have hs:(yJ (n:Int) g).toList.length=9:=rfl;obtain⟨C',k1,k2⟩:=ed r (yJ (n:Int) g).toList (1+f*9) w C h1;refine⟨⟨C',k1,bG⟩,λx hx=>?_,h.dn.same (mT r _ _ _ _ h.ne),h.ne⟩;by_cases c:1+f*9<=x/\x<1+f*9+9
 .obtain⟨j,rfl,hj⟩:∃j,x=1+f*9+j/\j<9:=⟨x-(1+f*9),bG,bG⟩;rw[aS r (yJ (n:Int) g).toList (1+f*9) w (λi hi=>ht i bG) j bG,<-aW bG,aM,mJ _ g j hj];unfold nN Mv.xH;rw[aI (show¬1+f*9+j=0 by omega),show(1+f*9+j-1)/9=f by omega,show(1+f*9+j-1)%9=j by omega];simp
 .rw[aA r _ (1+f*9) w ⟨r,x,bC⟩ (λ_ _=>by rw[hs];show x<_\/_<=x;omega),h.cell x hx];unfold nN Mv.xH;by_cases c0:x=0
  .rw[aJ c0,aJ c0]
  .rw[aI c0,aI c0];simp[show(x-1)/9≠f by omega]
end
def lr(r:Nat)(m:Me)(o:Nat):Value:=if o=0 then ai (bB ⟨r,0,bC⟩)else if(o-1)%2=0 then aa bf (m.is ((o-1)/2):Int)else aa bf ((m.fr ((o-1)/2):Int)-1)
structure du (w:bD)(b r:Nat)(m:Me):Prop where
 dk:∃C,w.heap[b]? =bB (bA C 186 (0,0))/\C.size=33
 cell:∀o,o<33->w.cell? ⟨b,o,bC⟩=bB (lr r m o)
section
variable {w w':bD}{b r:Nat}{m m':Me}
theorem du.drew(h:du w b r m):du w.drew b r m:=⟨h.dk,h.cell⟩
theorem du.frozen(h:du w b r m)(o:Nat):w.frozen? ⟨b,o,bC⟩=bF:=by obtain⟨C,h1,_⟩:=h.dk;exact cL h1 o
theorem du.lt(h:du w b r m):b<w.heap.size:=by obtain⟨C,h1,_⟩:=h.dk;exact(aX.1 h1).1
theorem du.same(h:du w b r m)(e:w'.heap[b]? =w.heap[b]?):du w' b r m:=⟨by rw[e];exact h.dk,λo ho=>(aV e).trans (h.cell o ho)⟩
theorem du.below(h:du w b r m)(k:Below w.heap.size w w'):du w' b r m:=h.same (k.block b h.lt)
theorem du.congr(h:du w b r m)(e:∀n,n<16->m'.is n=m.is n/\m'.fr n=m.fr n):du w b r m':=⟨h.dk,λo ho=>by
 rw[h.cell o ho];unfold lr;by_cases c:o=0
 .rw[aJ c,aJ c]
 .rw[aI c,aI c,(e _ bG).1,(e _ bG).2]⟩
theorem du.sW(h:du w b r m):w.cell? ⟨b,0,bC⟩=bB (ai (bB ⟨r,0,bC⟩)):=h.cell 0 bG
theorem du.UL(h:du w b r m)(i:Nat)(hi:i<16):w.cell? ⟨b,1+i*2,bC⟩=bB (aa bf (m.is i:Int)):=by
 rw[h.cell _ bG,lr,nJ,nK,show(1+i*2-1)/2=i by omega]
theorem du.wJ(h:du w b r m)(i:Nat)(hi:i<16):w.cell? ⟨b,1+i*2+1,bC⟩=bB (aa bf ((m.fr i:Int)-1)):=by
 rw[h.cell _ bG,lr,nJ,nJ,show(1+i*2+1-1)/2=i by omega]
theorem du.set(h:du w b r m)(o:Nat)(ho:o<33)(v:Value)(hv:∀i,i<33->lr r m' i=if i=o then v else lr r m i):du (w.setCell ⟨b,o,bC⟩ v) b r m':=by
 obtain⟨C,h1,h2⟩:=h.dk;refine⟨⟨_,cT h1 _ v,by simpa using h2⟩,λi hi=>?_⟩;rw[hv i hi];by_cases e:i=o
 .subst e;rw[dH h1 _ v bG,aJ rfl]
 .rw[dw h1 _ _ v (bQ e),aI e];exact h.cell i hi
theorem du.PK(h:du w b r m)(i v:Nat)(hi:i<16):du (w.setCell ⟨b,1+i*2,bC⟩ (aa bf (v:Int))) b r {m with is:=iJ m.is i v}:=by
 refine h.set (1+i*2) bG _ (λx hx=>?_);unfold lr iJ;by_cases c0:x=0
 .rw[aJ c0,aJ c0,nJ]
 .rw[aI c0,aI c0];by_cases c:(x-1)%2=0
  .rw[aJ c,aJ c];by_cases e:x=1+i*2
   .rw[aJ e];simp[show(x-1)/2=i by omega]
   .rw[aI e];simp[show(x-1)/2≠i by omega]
  .rw[aI c,aI c,nJ]
theorem du.Cn(h:du w b r m)(i v:Nat)(hi:i<16)(u:Int)(hu:u=(v:Int)-1):du (w.setCell ⟨b,1+i*2+1,bC⟩ (aa bf u)) b r {m with fr:=iJ m.fr i v}:=by
 subst hu;refine h.set (1+i*2+1) bG _ (λx hx=>?_);unfold lr iJ;by_cases c0:x=0
 .rw[aJ c0,aJ c0,nJ]
 .rw[aI c0,aI c0];by_cases c:(x-1)%2=0
  .rw[aJ c,aJ c,nJ]
  .rw[aI c,aI c];by_cases e:x=1+i*2+1
   .rw[aJ e];simp[show(x-1)/2=i by omega]
   .rw[aI e];simp[show(x-1)/2≠i by omega]
end
structure UB (w:bD)(b r q:Nat)(m:Me)(k:Bk):Prop where
 me:du w b r m
 bk:dN w r q k
 br:b≠r
 bq:b≠q
section
variable {b r q:Nat}{u v w:bD}
theorem dN.mK{k:Bk}(h:dN u r q k)(f:bO b u v)(h1:b≠r)(h2:b≠q):dN v r q k:=h.same (f.block r h.lt (bQ h1)) (f.block q h.DB (bQ h2))
theorem du.two{m:Me}(h:du u b r m)(f:jm r q u v)(h1:b≠r)(h2:b≠q):du v b r m:=h.same (f.block b h.lt h1 h2)
theorem UB.below{m:Me}{k:Bk}(h:UB u b r q m k)(f:Below u.heap.size u v):UB v b r q m k:=⟨h.me.below f,h.bk.below f,h.br,h.bq⟩
theorem UB.drew{m:Me}{k:Bk}(h:UB u b r q m k):UB u.drew b r q m k:=⟨h.me.drew,h.bk.drew,h.br,h.bq⟩
theorem fX.drew(h:fX b r q u v):fX b r q u v.drew:=⟨h.os,h.tape,h.output,h.size,h.block⟩
theorem fX.below(h:Below u.heap.size u v):fX b r q u v:=⟨h.os,h.tape,h.output,h.size,λk hk _ _ _=>h.block k hk⟩
end
def Ey:Array Value:=((List.range 577).map λi=>if i=0 then ai bC else if(i-1)%9=0 then aa bf 0 else aa .u8 0).toArray
theorem UG:Tryz.zeroCells219=Ey:=by kernel_rfl
theorem UF(i:Nat)(h:i<577):Ey[i]? =bB (if i=0 then ai bC else if(i-1)%9=0 then aa bf 0 else aa .u8 0):=by simp[Ey,h]
theorem UE(h:w.heap[r]? =bB (bA (Ey.setIfInBounds 0 (ai (bB ⟨q,0,bC⟩))) 219 (0,0)))(hp:eE w q Bd.b0)(hne:q≠r):dN w r q Mv.Cz:=by
 refine⟨⟨_,h,by simp[Ey]⟩,λo ho=>?_,hp,hne⟩;rw[cA h];unfold nN;by_cases c:o=0
 .subst c;rw[aE (by simp[Ey]),aJ rfl]
 .rw[aU bG,UF o ho,aI c,aI c];split<;>rfl
theorem Ew(w:bD):Calls prog 86 #[] w λe w'=>∃r,e=bw (ai (bB ⟨r,0,bC⟩))/\dN w' r w.heap.size Mv.Cz/\Below w.heap.size w w'/\w.heap.size<r:=by
 go_in
 go_wp2_with fail
 refine sC (MS _) ?_;rintro w1 ⟨hk,hb,hs⟩;have FIN:Hid (dN (w1.alloc (bA (Tryz.zeroCells219.setIfInBounds 0 (ai (bB ⟨w.heap.size,0,bC⟩))) 219)) w1.heap.size w.heap.size Mv.Cz/\Below w.heap.size w (w1.alloc (bA (Tryz.zeroCells219.setIfInBounds 0 (ai (bB ⟨w.heap.size,0,bC⟩))) 219))/\w.heap.size<w1.heap.size):=hJ (by
  rw[UG];have bb:Below w1.heap.size w1 (w1.alloc (bA (Ey.setIfInBounds 0 (ai (bB ⟨w.heap.size,0,bC⟩))) 219)):=(aQ _ _).alloc (aL _) _;exact⟨UE (heap_alloc_new w1 _) (hk.same (bb.block _ hs)) bG,hb.alloc bG _,hs⟩)
 go_wp2
 go_ret
 exact⟨_,rfl,FIN.v⟩
theorem zs(r q f:Nat)(k:Bk)(w:bD)(h:dN w r q k)(hf:f<64)(hI:Bd.Inv k.dn)(h1:1<=k.refs f)(h2:k.refs f<2^60):
  Calls prog 228 #[ai (bB ⟨r,0,bC⟩),aa bf f] w λe w'=>e=bw (ao #[])/\dN w' r q (Mv.ko k f)/\jm r q w w':=by
 have HI:=hJ hI;have c1:=h.yB f hf;have cf:=h.frozen;have fI:(f:Int)<64:=bG
 obtain⟨n,hn⟩:∃n,k.refs f=n+1:=⟨k.refs f-1,bG⟩;have S1:Hid (dN ((w.setCell ⟨r,1+f*9,bC⟩ (aa bf (n:Int))).drew) r q {k with refs:=λg=>if g=f then n else k.refs g}/\jm r q w ((w.setCell ⟨r,1+f*9,bC⟩ (aa bf (n:Int))).drew)):=hJ ⟨(h.sE f n hf).drew,((jm.refl r q w).left ((bO.refl r w).setCell _ _)).drew⟩;have HD:Hid (Mv.ko k f={k with refs:=λg=>if g=f then n else k.refs g,dn:=if n=0 then Bd.lu k.dn f else k.dn}):=hJ (by
  unfold Mv.ko;rw[hn,show n+1-1=n from rfl];cases n<;>rfl)
 rw[hn]at c1 h2;have hw:IntKind.i64.wrap (((n+1:Nat):Int)-1)=(n:Int):=by rw[aN _ ⟨by omega,bG⟩];omega
 go_in
 go_wp2_with fail
 go_region
 generalize hW1:World.drew _=W1;have S2:Hid (dN W1 r q {k with refs:=λg=>if g=f then n else k.refs g}/\jm r q w W1):=hJ (by rw[<-hW1];exact S1.v);have d1:W1.cell? ⟨r,1+f*9,bC⟩=bB (aa bf (n:Int)):=by
  have:=S2.1.yB f hf;rw[this];show bB (aa bf (((if f=f then n else k.refs f):Nat):Int))=_;rw[aJ rfl]
 have d0:=S2.1.cP;by_cases e0:n=0
 .subst e0;have d1':W1.cell? ⟨r,1+f*9,bC⟩=bB (aa .i64 0):=d1;go_wp2_with fail
  refine sC (JH q f k.dn _ S2.1.dn HI.v) ?_;rintro w2 ⟨kp,F⟩;have S3:Hid (dN w2 r q (Mv.ko k f)/\jm r q w w2):=hJ ⟨by rw[HD.v];exact S2.1.EJ F kp,S2.2.right F⟩;go_wp2_with fail
  go_end0
  exact⟨rfl,S3.v⟩
 .have e0':((n:Int)==0)=bF:=by simp;omega
  have S3:Hid (dN W1 r q (Mv.ko k f)/\jm r q w W1):=hJ ⟨by rw[HD.v,aI e0];exact S2.1,S2.2⟩;go_wp2_with fail
  go_end0
  exact⟨rfl,S3.v⟩
def Mv.Hh(k:Bk)(g:Nat->Int)(e:Int)(f:Nat)(k':Bk):Prop:=∃p',Bd.qg k.dn 0 e f p'/\k'=if e=0 then Mv.xH {k with dn:=p'} f 1 g else{k with dn:=p'}
theorem BC(r q:Nat)(g:Nat->Int)(k:Bk)(w:bD)(h:dN w r q k)(hI:Bd.Inv k.dn)(hN:Bd.NB k.dn 64):
  Calls prog 273 #[ai (bB ⟨r,0,bC⟩),au (Pb g)] w λe w'=>∃(f:Nat) (E:Int) (k':Bk),e=bw (ao #[aa bf f,bS E])/\Mv.Hh k g E f k'/\dN w' r q k'/\jm r q w w':=by
 have HI:=hJ (aK hI hN);have HF:Hid (∀C,dN (w.alloc (bA C 214)) r q k/\Below w.heap.size w (w.alloc (bA C 214))):=hJ (λC=>⟨h.below ((aQ _ _).alloc (aL _) _),(aQ _ _).alloc (aL _) _⟩);have HL:=hJ (aK h.lt h.DB);go_in
 go_upto_region 1 with fail
 refine cR (λW=>dN W r q k/\Below w.heap.size w W/\W.heap[w.heap.size]? =bB (bA (Pb g) 214 (0,0))) ⟨(HF.v _).1,(HF.v _).2,heap_alloc_new w _⟩ ?_;rintro W1 ⟨h1,b1,x1⟩;have NE:Hid (w.heap.size≠r/\w.heap.size≠q):=hJ (by have:=HL.v;omega);have H1:=hJ (aK h1 (aK b1 x1));obtain⟨bx,hbx⟩:=hU (w.heap.size);have HS:=hJ hbx;rw[hbx]at H1 NE;rw[hbx];have c0:=h1.cP;go_wp2_with fail
 refine(JT q 0 k.dn _ H1.1.dn HI.1 HI.2).mono ?_;rintro e w1 ⟨f,E,p',rfl,ht,kp,F⟩;have hf:=yp ht;have h1:Hid (dN w1 r q {k with dn:=p'}):=hJ (H1.1.EJ F kp);have HB:Hid (jm r q w w1):=hJ ⟨F.os.trans H1.2.1.os,F.tape.trans H1.2.1.tape,F.output.trans H1.2.1.output,aH H1.2.1.size F.size,λj hj _ h3=>(F.block j (aD hj H1.2.1.size) h3).trans (H1.2.1.block j (by have:=HS.v;omega))⟩;have HT:=hJ ht;have x2:w1.heap[bx]? =bB (bA (Pb g) 214 (0,0)):=(F.block bx (aX.1 H1.2.2).1 NE.2).trans H1.2.2;by_cases e0:E=0
 .subst e0;have fI:(f:Int)<64:=bG
  have l0:w1.cell? ⟨bx,0,bC⟩=bB (aa bh (g 0)):=cU x2 0 _ (pg g 0 bG);have l1:=cU x2 1 _ (pg g 1 bG);have l2:=cU x2 2 _ (pg g 2 bG);have l3:=cU x2 3 _ (pg g 3 bG);have l4:=cU x2 4 _ (pg g 4 bG);have l5:=cU x2 5 _ (pg g 5 bG);have l6:=cU x2 6 _ (pg g 6 bG);have l7:=cU x2 7 _ (pg g 7 bG);have s0:=h1.yB f hf;have s1:w1.cell? ⟨r,1+f*9+1,bC⟩=bB (aa bh (k.dc f 0)):=h1.cB f 0 hf bG;have s2:w1.cell? ⟨r,1+f*9+2,bC⟩=bB (aa bh (k.dc f 1)):=h1.cB f 1 hf bG;have s3:w1.cell? ⟨r,1+f*9+3,bC⟩=bB (aa bh (k.dc f 2)):=h1.cB f 2 hf bG;have s4:w1.cell? ⟨r,1+f*9+4,bC⟩=bB (aa bh (k.dc f 3)):=h1.cB f 3 hf bG;have s5:w1.cell? ⟨r,1+f*9+5,bC⟩=bB (aa bh (k.dc f 4)):=h1.cB f 4 hf bG;have s6:w1.cell? ⟨r,1+f*9+6,bC⟩=bB (aa bh (k.dc f 5)):=h1.cB f 5 hf bG;have s7:w1.cell? ⟨r,1+f*9+7,bC⟩=bB (aa bh (k.dc f 6)):=h1.cB f 6 hf bG;have s8:w1.cell? ⟨r,1+f*9+8,bC⟩=bB (aa bh (k.dc f 7)):=h1.cB f 7 hf bG;have fz:=h1.frozen;rw[bN];go_wp2_with fail
  go_region
  generalize hW:World.drew _=W2;have S2:Hid (dN W2 r q (Mv.xH {k with dn:=p'} f 1 g)/\bO r w1 W2):=hJ (by
   rw[<-hW];have a:dN (w1.setCells r (1+f*9) (yJ ((1:Nat):Int) g).toList).drew r q (Mv.xH {k with dn:=p'} f 1 g):=(h1.OJ f 1 hf g).drew;have b:bO r w1 (w1.setCells r (1+f*9) (yJ ((1:Nat):Int) g).toList).drew:=(bO.setCells _ _ (bO.refl r w1)).drew;exact⟨a,b⟩)
  go_wp2
  go_ret2
  exact⟨f,0,_,rfl,⟨p',HT.v,by rw[aJ rfl]⟩,S2.1,HB.left S2.2⟩
 .rw[bP e0];have r0:f=0:=by
   rcases ht with⟨_,_,c,_⟩|⟨_,_,_,c,_⟩|⟨_,_,c,_⟩
   .exact c
   .exact c
   .exact aZ c e0
  have HE:=hJ e0;subst r0;go_wp2
  go_ret2
  exact⟨0,E,_,by rw[bP HE.v];rfl,⟨p',HT.v,by rw[aI HE.v]⟩,h1.v,HB.v⟩
section
attribute [local go_sem] C7
theorem oP(b r:Nat)(z:Int)(wr:Bool)(m:Me)(w:bD)(h:du w b r m):
  Calls prog 182 #[ai (bB ⟨b,0,bC⟩),aa bf z,ar wr] w λe w'=>e=bw (ar (Mv.jK m z wr))/\Below w.heap.size w w':=by
 have BL:Hid (∀o,Below w.heap.size w (w.alloc o)):=hJ (λo=>(aQ _ _).alloc (aL _) o);by_cases k:z<0\/127<z
 .have HE:Hid (Mv.jK m z wr=bF):=hJ (aJ k);by_cases h0:z<0
  .clear k h;go_in
   go_wp2
   go_ret
   exact⟨da HE.symm,aQ _ _⟩
  .have h1:decide (z<0)=bF:=aT h0;have h2:128<=z:=bG
   go_in
   go_wp2
   go_ret
   exact⟨da HE.symm,aQ _ _⟩
 .obtain⟨x,rfl⟩:=aG (show 0<=z by omega);have h2:decide (128<=(x:Int))=bF:=by simp;omega
  have c1:=h.UL (x/8) bG;have c2:=h.wJ (x/8) bG;have h8:(x:Int)/8<16:=bG
  have h80:(0:Int)<=(x:Int)/8:=bG
  have HE:Hid (Mv.jK m x wr=(decide (m.is (x/8)=2)||(decide (m.is (x/8)=1)&& !wr))):=hJ (by unfold Mv.jK;rw[aI k,hZ]);obtain⟨u,hu⟩:=hU (m.is (x/8));rw[hu]at c1 HE;by_cases e2:u=2
  .subst e2;go_in
   go_wp2
   go_ret
   exact⟨da (by rw[HE.v];rfl),BL.v _⟩
  .have e2':((u:Int)==2)=bF:=by simp;omega
   by_cases e1:u=1
   .subst e1;cases wr
    .go_in
     go_wp2
     go_ret
     exact⟨da (by rw[HE.v];rfl),BL.v _⟩
    .go_in
     go_wp2
     go_ret
     exact⟨da (by rw[HE.v];rfl),BL.v _⟩
   .have e1':((u:Int)==1)=bF:=by simp;omega
    go_in
    go_wp2
    go_ret
    exact⟨da (by rw[HE.v,aT e2,aT e1];rfl),BL.v _⟩
theorem zv(b r:Nat)(z:Int)(m:Me)(w:bD)(h:du w b r m):
  Calls prog 183 #[ai (bB ⟨b,0,bC⟩),aa bf z] w λe w'=>e=bw (ar (Mv.kR m z))/\Below w.heap.size w w':=by
 have HF:=hJ h;cases hm:Mv.jK m z bF
 .have HE:Hid (Mv.kR m z=bF/\Mv.jK m z bF=bF):=hJ ⟨by unfold Mv.kR;rw[hm];rfl,hm⟩;go_in
  go_wp2_with fail
  refine sC (oP b r z bF m _ HF.v) ?_;rintro w1 hb;have HB:=hJ hb;rw[HE.2];go_wp2
  go_ret
  exact⟨da HE.1.symm,HB.v⟩
 .have hz:¬(z<0\/127<z):=λc=>by unfold Mv.jK at hm;rw[aJ c]at hm;cases hm
  obtain⟨x,rfl⟩:=aG (show 0<=z by omega);have h8:(x:Int)/8<16:=bG
  have h80:(0:Int)<=(x:Int)/8:=bG
  have HX:Hid (x/8<16):=hJ bG;have HE:Hid (Mv.kR m x=decide (m.fr (x/8)=0)/\Mv.jK m x bF=bE):=hJ ⟨by unfold Mv.kR;rw[hm,hZ];rfl,hm⟩;go_in
  go_wp2_with fail
  refine sC (oP b r x bF m _ HF.v) ?_;rintro w1 hb;have c1:=(HF.below hb).wJ (x/8) HX.v;have HB:=hJ hb;rw[HE.2];obtain⟨u,hu⟩:=hU (m.fr (x/8));rw[hu]at c1 HE;by_cases e0:u=0
  .subst e0;have c1':w1.cell? ⟨b,1+x/8*2+1,bC⟩=bB (aa bf (-1)):=c1;go_wp2
   go_ret
   exact⟨da (by rw[HE.1];rfl),HB.v⟩
  .have e0':((u:Int)-1== -1)=bF:=by simp;omega
   go_wp2
   go_ret
   exact⟨da (by rw[HE.1,aT e0]),HB.v⟩
end
def rowP(m:Me):List Value:=(List.range 32).map λo=>if o%2=0 then aa bf (m.is (o/2):Int)else aa bf ((m.fr (o/2):Int)-1)
theorem D1(m:Me):(rowP m).length=32:=by simp[rowP]
theorem du.range{m:Me}(h:du w b r m):w.rangeAt b 1 (rowP m):=λj v hv=>by
 have hj:j<32:=by have:=(aY.1 hv).1;rwa [D1]at this
 simp[rowP,hj]at hv;rw[h.cell _ bG,<-hv];unfold lr;rw[nJ,show 1+j-1=j by omega]
theorem Ro(m:Me)(x:Nat)(h:x<16):(rowP m).toArray.extract (x*2) (x*2+2)=#[aa bf (m.is x:Int),aa bf ((m.fr x:Int)-1)]:=by
 have hs:(rowP m).toArray.size=32:=by simp[rowP]
 apply bL;intro i;rw[Array.getElem?_extract];by_cases hi:i<2
 .rw[aJ (by rw[hs];omega)];have e:(rowP m).toArray[x*2+i]? =bB (if(x*2+i)%2=0 then aa bf (m.is ((x*2+i)/2):Int)else aa bf ((m.fr ((x*2+i)/2):Int)-1)):=by
   simp[rowP,show x*2+i<32 by omega]
  rw[e,show(x*2+i)/2=x by omega]
  match i,hi with
  |0,_=>rw[nK];rfl
  |1,_=>rw[nJ];rfl
 .rw[aI (by rw[hs];omega),aR (by simp;omega)]
theorem yK(m:Me)(x:Nat)(h:x<16)(w:bD):Sem.run prog (Instr.index 184 (au (rowP m).toArray) (aa bf x)) w= .ok (au #[aa bf (m.is x:Int),aa bf ((m.fr x:Int)-1)]) w:=by
 have hu:prog.underlying 184=bB (.array 16 183):=by kernel_rfl
 have hx:=Ro m x h;have h1:(x:Int)<16:=bG
 obtain⟨A,hA⟩:=hU ((rowP m).toArray);rw[hA]at hx|-;simp[Instr.index,Sem.run_bind,run_underlying hu,go_sem,hx];intro c;omega
theorem Bu(m:Me):(prog.info? 184).map (·.size)=bB (rowP m).length:=by rw[D1];kernel_rfl
theorem pN(b r:Nat)(m:Me)(w:bD)(h:du w b r m):
  Calls prog 64 #[ai (bB ⟨b,0,bC⟩)] w λe w'=>e=bw (aa bf (Mv.cX m 16:Int))/\Below w.heap.size w w':=by
 have hsz:=hJ (Bu m);have HR:=hJ h.range;go_in
 go_wp2_with (refine wpList_load_mid rfl 184 _ rfl b 1 rfl (rowP m) (.array 16 183) HR.v bH rfl hsz.v ?_)
 go_loopw [3,10] (λs i wr=>∃(k:Nat),i=aa bf k/\s=aa bf (Mv.cX m k:Int)/\k<=16/\Hid (Below w.heap.size w wr)) (λ_ i _=>16-(intOf i).toNat)
 case atStart=>exact⟨0,rfl,rfl,bG,aQ _ _⟩
 case round=>
  obtain⟨k,rfl,rfl,hk,T⟩:=hrel;by_cases hlt:k<16
  .have hltI:(k:Int)<16:=bG
   have hix:=yK m k hlt;have LS:Hid (Mv.cX m (k+1)=Mv.cX m k+if m.fr k=0 then 0 else 1):=hJ rfl;have BL:Hid (∀o,Below w.heap.size w (wr.alloc o)):=hJ (λo=>T.alloc T.size o);have lb:=qb m k;generalize m.is k=u0 at*;generalize m.fr k=u at*;by_cases e1:u=0
   .have LE:Hid (Mv.cX m (k+1)=Mv.cX m k):=hJ (by rw[LS.v,aJ e1];rfl);subst e1;go_wp2
    go_roundw
    case rel=>exact⟨k+1,by go_num,by rw[LE.v],bG,BL.v _⟩
    case measure=>simp[intOf];omega
   .have LE:Hid (Mv.cX m (k+1)=Mv.cX m k+1):=hJ (by rw[LS.v,aI e1]);have e1':((u:Int)-1== -1)=bF:=by simp;omega
    generalize Mv.cX m k=lk at*;go_wp2
    go_roundw
    case rel=>exact⟨k+1,by go_num,by rw[LE.v];go_num,bG,BL.v _⟩
    case measure=>simp[intOf];omega
  .have hk64:k=16:=bG
   subst hk64;go_wp2
   go_ret
   exact⟨rfl,T.v⟩
structure qW (m:Me)(k:Bk):Prop where
 inv:Bd.Inv k.dn
 nb:Bd.NB k.dn 64
 le:∀i,i<16->m.fr i<=64
 held:∀i,i<16->m.fr i≠0->1<=k.refs (m.fr i-1)/\k.refs (m.fr i-1)<2^59
 hold:∀f,f<64->1<=k.refs f->k.dn.tk f=bE
def Mv.Mu(m:Me)(k:Bk)(n:Nat)(wr:Bool)(E:Int)(g:Nat)(m':Me)(k':Bk):Prop:=
 (m.fr n≠0/\(wr=bF\/k.refs (m.fr n-1)=1)/\E=0/\g=m.fr n-1/\m'=m/\k'=k)\/
 (¬(m.fr n≠0/\(wr=bF\/k.refs (m.fr n-1)=1))/\∃k1,Mv.uq k E g k1/\
  ((E≠0/\m'=m/\k'=k1)\/(E=0/\m'={m with fr:=iJ m.fr n (g+1)}/\k'=if m.fr n=0 then k1 else Mv.ko (Mv.AZ k1 (m.fr n-1) g) (m.fr n-1))))
theorem Ju{k k':Bk}(h:Mv.Hh k (λ_=>0) e f k'):Mv.uq k e f k':=by
 obtain⟨p',h1,h2⟩:=h;refine⟨p',h1,?_⟩;rw[h2];rfl
theorem Ms{k k':Bk}(h:Mv.Hh k (k.dc v) e f k')(hv:k.dn.tk v=bE):∃k1,Mv.uq k e f k1/\((e≠0/\k'=k1)\/(e=0/\k'=Mv.AZ k1 v f/\v≠f)):=by
 obtain⟨p',h1,h2⟩:=h;by_cases e0:e=0
 .rw[aJ e0]at h2;have ne:v≠f:=λc=>by
   rcases h1 with⟨_,c1,_⟩|⟨_,_,c1,_⟩|⟨_,hB,_,_⟩
   .omega
   .omega
   .rw[c,hB.tk]at hv;cases hv
  refine⟨Mv.Gb k p' f,⟨p',h1,by rw[aJ e0]⟩, .inr ⟨e0,?_,ne⟩⟩;rw[h2];unfold Mv.AZ Mv.Gb Mv.xH;congr 1;funext a i;by_cases c:a=f
  .simp[c,ne]
  .simp[c]
 .rw[aI e0]at h2;exact⟨k',⟨p',h1,by rw[aI e0];exact h2⟩, .inl ⟨e0,rfl⟩⟩
def Hf(b r q n:Nat)(wr:Bool)(m:Me)(k:Bk)(w:bD)(e:Ending)(w':bD):Prop:=
 ∃(E:Int) (g:Nat) (m':Me) (k':Bk),e=bw (bS E)/\Mv.Mu m k n wr E g m' k'/\UB w' b r q m' k'/\fX b r q w w'
theorem Jb(b r q n:Nat)(wr:Bool)(m:Me)(k:Bk)(w:bD)(h:UB w b r q m k)(G:qW m k)(hn:n<16)(hv:m.fr n=0):
  Calls prog 240 #[ai (bB ⟨b,0,bC⟩),ai (bB ⟨b,1+n*2,bC⟩),ar wr] w (Hf b r q n wr m k w):=by
 have HF:=hJ (aK h (aK G hv));have c0:=h.me.sW;have c1:=h.me.wJ n hn;rw[hv]at c1;have c1':w.cell? ⟨b,1+n*2+1,bC⟩=bB (aa bf (-1)):=c1;have HN:Hid (¬(m.fr n≠0/\(wr=bF\/k.refs (m.fr n-1)=1))):=hJ (λc=>c.1 hv);go_in
 go_wp2_with fail
 refine(BC r q (λ_=>0) k _ HF.1.bk HF.2.1.inv HF.2.1.nb).mono ?_;rintro e w1 ⟨g,E,k1,rfl,ht,hk,F⟩;have HM:Hid (UB w1 b r q m k1/\fX b r q w w1):=hJ ⟨⟨HF.1.me.two F HF.1.br HF.1.bq,hk,HF.1.br,HF.1.bq⟩,fX.Cy F⟩;have HT:=hJ (Ju ht);by_cases e0:E=0
 .subst e0;rw[bN];have d1:=HM.1.me.wJ n hn;have df:=HM.1.me.frozen;have S2:Hid (UB (w1.setCell ⟨b,1+n*2+1,bC⟩ (aa bf (g:Int))) b r q {m with fr:=iJ m.fr n (g+1)} k1/\fX b r q w (w1.setCell ⟨b,1+n*2+1,bC⟩ (aa bf (g:Int)))):=hJ (by
   have f:bO b w1 (w1.setCell ⟨b,1+n*2+1,bC⟩ (aa bf (g:Int))):=(bO.refl b w1).setCell _ _;exact⟨⟨HM.1.me.Cn n (g+1) hn _ bG,HM.1.bk.mK f HM.1.br HM.1.bq,HM.1.br,HM.1.bq⟩,HM.2.trans (fX.mem f)⟩)
  go_wp2
  go_ret
  exact⟨0,g,_,_,rfl, .inr ⟨HN.v,k1,HT.v, .inr ⟨rfl,rfl,by rw[aJ HF.2.2]⟩⟩,S2.1,S2.2⟩
 .rw[bP e0];have HE:=hJ e0;go_wp2
  go_ret
  exact⟨E,g,_,_,by rw[bP HE.v];rfl, .inr ⟨HN.v,k1,HT.v, .inl ⟨HE.v,rfl,rfl⟩⟩,HM.1,HM.2⟩
theorem Ja(b r q n v:Nat)(wr:Bool)(m:Me)(k:Bk)(w:bD)(h:UB w b r q m k)(G:qW m k)(hn:n<16)(hv:m.fr n=v+1):
  Calls prog 240 #[ai (bB ⟨b,0,bC⟩),ai (bB ⟨b,1+n*2,bC⟩),ar wr] w (Hf b r q n wr m k w):=by
 have HF:=hJ (aK h (aK G hv));have c0:=h.me.sW;have c1:=h.me.wJ n hn;rw[hv,show((v+1:Nat):Int)-1=(v:Int)by omega]at c1;have v64:v<64:=by have:=G.le n hn;omega
 have vI:(v:Int)<64:=bG
 have v1:((v:Int)== -1)=bF:=by simp
 have l0:=h.bk.yB v v64;have l1:w.cell? ⟨r,1+v*9+1,bC⟩=bB (aa bh (k.dc v 0)):=h.bk.cB v 0 v64 bG;have l2:w.cell? ⟨r,1+v*9+2,bC⟩=bB (aa bh (k.dc v 1)):=h.bk.cB v 1 v64 bG;have l3:w.cell? ⟨r,1+v*9+3,bC⟩=bB (aa bh (k.dc v 2)):=h.bk.cB v 2 v64 bG;have l4:w.cell? ⟨r,1+v*9+4,bC⟩=bB (aa bh (k.dc v 3)):=h.bk.cB v 3 v64 bG;have l5:w.cell? ⟨r,1+v*9+5,bC⟩=bB (aa bh (k.dc v 4)):=h.bk.cB v 4 v64 bG;have l6:w.cell? ⟨r,1+v*9+6,bC⟩=bB (aa bh (k.dc v 5)):=h.bk.cB v 5 v64 bG;have l7:w.cell? ⟨r,1+v*9+7,bC⟩=bB (aa bh (k.dc v 6)):=h.bk.cB v 6 v64 bG;have l8:w.cell? ⟨r,1+v*9+8,bC⟩=bB (aa bh (k.dc v 7)):=h.bk.cB v 7 v64 bG;have hbs:b<w.heap.size:=h.me.lt;have hrs:r<w.heap.size:=h.bk.lt;have hbn:b≠w.heap.size:=bG
 have hrn:r≠w.heap.size:=bG
 go_in
 go_wp2_with fail
 go_region
 generalize hW:World.drew _=W2;have S2:Hid (UB W2 b r q m k/\fX b r q w W2/\W2.heap[w.heap.size]? =bB (bA (yJ (k.refs v:Int) (k.dc v)) 216 (0,0))/\w.heap.size≠q):=hJ (by
  rw[<-hW];have bb:Below w.heap.size w (w.alloc (bA (yJ (k.refs v:Int) (k.dc v)) 216)):=(aQ _ _).alloc (aL _) _;exact⟨(HF.1.below bb).drew,(fX.below bb).drew,heap_alloc_new w _,by have:=HF.1.bk.DB;omega⟩)
 obtain⟨bo,hbo⟩:=hU (w.heap.size);rw[hbo]at S2 hbn hrn|-;have HBO:=hJ (aK hbo (aK hbn hrn));have o0:W2.cell? ⟨bo,0,bC⟩=bB (aa bf (k.refs v:Int)):=cU S2.2.2.1 0 _ (mJ _ _ 0 bG);have KEEP:Hid ((wr=bF\/k.refs v=1)->Hf b r q n wr m k w (bw (bS 0)) W2):=hJ (λc=>⟨0,v,m,k,rfl, .inl ⟨by rw[HF.2.2];omega,by rw[HF.2.2,aP];exact c,rfl,by rw[HF.2.2,aP],rfl,rfl⟩,S2.1,S2.2.1⟩);cases wr
 .have KP:=hJ (KEEP.v (.inl rfl));go_wp2
  go_ret
  exact KP.v
 .by_cases r1:k.refs v=1
  .rw[r1]at o0;have o0':W2.cell? ⟨bo,0,bC⟩=bB (aa .i64 1):=o0;have KP:=hJ (KEEP.v (.inr r1));go_wp2
   go_ret
   exact KP.v
  .have r1':((k.refs v:Int)==1)=bF:=by simp;omega
   have HN:Hid (¬(m.fr n≠0/\(bE=bF\/k.refs (m.fr n-1)=1))):=hJ (by
    rw[HF.2.2,aP];rintro⟨_,c|c⟩
    .cases c
    .exact r1 c)
   have d0:=S2.1.me.sW;have o1:W2.cell? ⟨bo,1,bC⟩=bB (aa bh (k.dc v 0)):=cU S2.2.2.1 1 _ (mJ _ _ 1 bG);have o2:W2.cell? ⟨bo,2,bC⟩=bB (aa bh (k.dc v 1)):=cU S2.2.2.1 2 _ (mJ _ _ 2 bG);have o3:W2.cell? ⟨bo,3,bC⟩=bB (aa bh (k.dc v 2)):=cU S2.2.2.1 3 _ (mJ _ _ 3 bG);have o4:W2.cell? ⟨bo,4,bC⟩=bB (aa bh (k.dc v 3)):=cU S2.2.2.1 4 _ (mJ _ _ 4 bG);have o5:W2.cell? ⟨bo,5,bC⟩=bB (aa bh (k.dc v 4)):=cU S2.2.2.1 5 _ (mJ _ _ 5 bG);have o6:W2.cell? ⟨bo,6,bC⟩=bB (aa bh (k.dc v 5)):=cU S2.2.2.1 6 _ (mJ _ _ 6 bG);have o7:W2.cell? ⟨bo,7,bC⟩=bB (aa bh (k.dc v 6)):=cU S2.2.2.1 7 _ (mJ _ _ 7 bG);have o8:W2.cell? ⟨bo,8,bC⟩=bB (aa bh (k.dc v 7)):=cU S2.2.2.1 8 _ (mJ _ _ 8 bG);have TK:=hJ (λW (hW:dN W r q k)=>BC r q (k.dc v) k W hW HF.2.1.inv HF.2.1.nb);generalize k.refs v=rv at o0 r1';go_wp2_with fail
   go_region_with ((go_at_call 273;refine(TK.v _ (by first|exact S2.1.bk.drew|exact S2.1.bk)).mono ?_;rintro e w3 ⟨g,E,k1,rfl,ht,hk,F⟩;have H3:Hid (Mv.Hh k (k.dc v) E g k1/\dN w3 r q k1/\jm r q W2 w3):=hJ ⟨ht,hk,(by first|exact F|exact((jm.refl r q W2).drew).trans F)⟩))
   all_goals
    have HM:Hid (UB w3 b r q m k1/\fX b r q w w3):=hJ ⟨⟨S2.1.me.two H3.2.2 S2.1.br S2.1.bq,H3.2.1,S2.1.br,S2.1.bq⟩,S2.2.1.trans (fX.Cy H3.2.2)⟩;have c0:=HM.1.me.sW;have c1:=HM.1.me.wJ n hn;rw[HF.2.2,show((v+1:Nat):Int)-1=(v:Int)by omega]at c1;have tkv:k.dn.tk v=bE:=HF.2.1.hold v v64 (by have:=HF.2.1.held n hn (by rw[HF.2.2];omega);rw[HF.2.2,aP]at this;exact this.1);obtain⟨kk,hkk,hc⟩:=Ms H3.1 tkv;have HK:=hJ (aK hkk hc);by_cases e0:E=0
    .subst e0;have LV:Hid (Bd.Inv k1.dn/\1<=k1.refs v/\k1.refs v<2^60):=hJ (by
      obtain⟨p',h1,h2⟩:=H3.1;have hi:=HF.2.1.inv.take HF.2.1.nb h1;have hh:=HF.2.1.held n hn (by rw[HF.2.2];omega);rw[HF.2.2,aP]at hh;rw[aJ rfl]at h2;subst h2;refine⟨hi.1,?_⟩;show 1<=(if v=g then 1 else k.refs v)/\(if v=g then 1 else k.refs v)<2^60;split<;>omega)
     rw[bN];go_wp2_with fail
     go_region_with ((go_at_call 228;refine(zs r q v k1 _ (by first|exact HM.1.bk.drew|exact HM.1.bk) v64 LV.1 LV.2.1 LV.2.2).mono ?_;rintro e w4 ⟨rfl,hk4,F4⟩;have H4:Hid (dN w4 r q (Mv.ko k1 v)/\jm r q w3 w4):=hJ ⟨hk4,(by first|exact F4|exact((jm.refl r q w3).drew).trans F4)⟩))
     all_goals
      have S3:Hid (UB w4 b r q m (Mv.ko k1 v)/\fX b r q w w4):=hJ ⟨⟨HM.1.me.two H4.2 S2.1.br S2.1.bq,H4.1,S2.1.br,S2.1.bq⟩,HM.2.trans (fX.Cy H4.2)⟩;have d1:=S3.1.me.wJ n hn;have df:=S3.1.me.frozen;have S4:Hid (UB (w4.setCell ⟨b,1+n*2+1,bC⟩ (aa bf (g:Int))) b r q {m with fr:=iJ m.fr n (g+1)} (Mv.ko k1 v)/\fX b r q w (w4.setCell ⟨b,1+n*2+1,bC⟩ (aa bf (g:Int)))):=hJ (by
       have f:bO b w4 (w4.setCell ⟨b,1+n*2+1,bC⟩ (aa bf (g:Int))):=(bO.refl b w4).setCell _ _;exact⟨⟨S3.1.me.Cn n (g+1) hn _ bG,S3.1.bk.mK f S3.1.br S3.1.bq,S3.1.br,S3.1.bq⟩,S3.2.trans (fX.mem f)⟩)
      go_wp2
      go_ret
      refine⟨0,g,_,_,rfl, .inr ⟨HN.v,kk,HK.1, .inr ⟨rfl,rfl,?_⟩⟩,S4.1,S4.2⟩;rcases HK.2 with⟨c,_⟩|⟨_,c,_⟩
      .exact aZ rfl c
      .rw[HF.2.2,nJ,aP,c]
    .rw[bP e0];have HE:=hJ e0;go_wp2
     go_ret
     refine⟨E,g,_,_,by rw[bP HE.v];rfl, .inr ⟨HN.v,kk,HK.1, .inl ⟨HE.v,rfl,?_⟩⟩,HM.1,HM.2⟩;rcases HK.2 with⟨_,c⟩|⟨c,_⟩
     .exact c
     .exact aZ c HE.v
theorem FL(b r q n:Nat)(wr:Bool)(m:Me)(k:Bk)(w:bD)(h:UB w b r q m k)(G:qW m k)(hn:n<16):
  Calls prog 240 #[ai (bB ⟨b,0,bC⟩),ai (bB ⟨b,1+n*2,bC⟩),ar wr] w (Hf b r q n wr m k w):=by
 by_cases c:m.fr n=0
 .exact Jb b r q n wr m k w h G hn c
 .exact Ja b r q n (m.fr n-1) wr m k w h G hn bG
theorem P8{m m':Me}{k k':Bk}{wr:Bool}(h:Mv.Mu m k (x/8) wr E g m' k')(hm:Mv.jK m x wr=bE):Mv.kG m k x wr E g m' k':=by
 unfold Mv.kG;rw[hZ];rcases h with⟨a,b,c,d,e,f⟩|⟨a,k1,t,c⟩
 .exact .inr (.inl ⟨hm,a,b,c,d,e,f⟩)
 .exact .inr (.inr ⟨hm,a,k1,t,c⟩)
theorem Jv{m m':Me}{k k':Bk}{wr:Bool}(G:qW m k)(hn:n<16)(h:Mv.Mu m k n wr E g m' k'):g<64/\((E=0/\m'.fr n=g+1)\/E=4):=by
 rcases h with⟨a,b,rfl,rfl,rfl,_⟩|⟨_,k1,⟨p',t,_⟩,c⟩
 .have:=G.le n hn;exact⟨by omega, .inl ⟨rfl,bG⟩⟩
 .have g64:=yp t;refine⟨g64,?_⟩;rcases c with⟨e0,_⟩|⟨e0,rfl,_⟩
  .rcases t with⟨c,_⟩|⟨_,_,c,_⟩|⟨_,_,c,_⟩
   .omega
   .exact .inr c
   .exact aZ c e0
  .exact .inl ⟨e0,by show(if n=n then g+1 else m.fr n)=g+1;rw[aJ rfl]⟩
def UY(b r q:Nat)(z:Int)(wr:Bool)(m:Me)(k:Bk)(w:bD)(e:Ending)(w':bD):Prop:=
 ∃(E:Int) (g:Nat) (m':Me) (k':Bk),e=bw (ao #[if E=0 then ai (bB ⟨r,1+g*9+1+z.toNat%8,bC⟩)else ai bC,bS E])/\Mv.kG m k z wr E g m' k'/\UB w' b r q m' k'/\fX b r q w w'/\g<64/\(E=0\/E=4\/E=10)
section
attribute [local go_sem] C7 Tl
theorem zu(b r q:Nat)(z:Int)(wr:Bool)(m:Me)(k:Bk)(w:bD)(h:UB w b r q m k)(G:qW m k):
  Calls prog 185 #[ai (bB ⟨b,0,bC⟩),aa bf z,ar wr] w (UY b r q z wr m k w):=by
 have HF:=hJ (aK h G);cases hm:Mv.jK m z wr
 .have HM:=hJ hm;go_in
  go_wp2_with fail
  refine sC (oP b r z wr m _ HF.1.me) ?_;rintro w1 hb;have HB:=hJ hb;rw[HM.v];go_wp2
  go_ret2
  exact⟨10,0,m,k,rfl, .inl ⟨HM.v,rfl,rfl,rfl,rfl⟩,HF.1.below HB.v,fX.below HB.v,bG, .inr (.inr rfl)⟩
 .obtain⟨x,rfl,hx⟩:=uT hm;have HM:=hJ hm;have h8:(x:Int)/8<16:=bG
  have h80:(0:Int)<=(x:Int)/8:=bG
  have h9:(x:Int)%8<8:=bG
  have h90:(0:Int)<=(x:Int)%8:=bG
  have HX:Hid (x/8<16):=hJ bG;go_in
  go_wp2_with fail
  refine sC (oP b r x wr m _ HF.1.me) ?_;rintro w1 hb;have HB:=hJ (aK (HF.1.below hb) (fX.below (b:=b) (r:=r) (q:=q) hb));rw[HM.v];go_wp2_with fail
  refine(FL b r q (x/8) wr m k _ HB.1 HF.2 HX.v).mono ?_;rintro e w2 ⟨E,g,m',k',rfl,ht,hu,F⟩;have TE:=Jv HF.2 HX.v ht;have HT:Hid (Mv.kG m k x wr E g m' k'/\UB w2 b r q m' k'/\fX b r q w w2):=hJ ⟨P8 ht HM.v,hu,HB.2.trans F⟩;rcases TE with⟨g64,⟨rfl,hg⟩|rfl⟩
  .have c0:=hu.me.sW;have c1:=hu.me.wJ (x/8) HX.v;rw[hg,show((g+1:Nat):Int)-1=(g:Int)by omega]at c1;have gI:(g:Int)<64:=bG
   rw[bN];go_wp2_with fail
   go_region
   go_wp2
   go_ret2
   exact⟨0,g,m',k',by rw[aJ rfl,hZ];rfl,HT.1,HT.2.1.drew,HT.2.2.drew,g64, .inl rfl⟩
  .rw[bP bM];go_wp2
   go_ret2
   exact⟨4,g,m',k',rfl,HT.1,HT.2.1,HT.2.2,g64, .inr (.inl rfl)⟩
end
theorem Mb(b r q:Nat)(z:Int)(m:Me)(k:Bk)(w:bD)(h:UB w b r q m k)(G:qW m k):
  Calls prog 108 #[ai (bB ⟨b,0,bC⟩),aa bf z] w λe w'=>∃(E:Int) (g:Nat) (m':Me) (k':Bk),e=bw (ao #[aa bh (if E=0 then k'.dc g (z.toNat%8)else 0),bS E])/\Mv.kG m k z bF E g m' k'/\UB w' b r q m' k'/\fX b r q w w'/\(E=0\/E=4\/E=10):=by
 have HF:=hJ (aK h G);go_in
 go_wp2_with fail
 refine(zu b r q z bF m k _ HF.1 HF.2).mono ?_;rintro e w1 ⟨E,g,m',k',rfl,ht,hu,F,g64,hE⟩;have HT:=hJ (aK ht (aK hu F));rcases hE with rfl|rfl|rfl
 .have c2:=hu.bk.cB g (z.toNat%8) g64 bG;rw[aJ rfl,bN];go_wp2
  go_ret2
  exact⟨0,g,m',k',by rw[aJ rfl];rfl,HT.1,HT.2.1,HT.2.2, .inl rfl⟩
 .rw[aI bM,bP bM];go_wp2
  go_ret2
  exact⟨4,g,m',k',by rw[aI bM];rfl,HT.1,HT.2.1,HT.2.2, .inr (.inl rfl)⟩
 .rw[aI bM,bP bM];go_wp2
  go_ret2
  exact⟨10,g,m',k',by rw[aI bM];rfl,HT.1,HT.2.1,HT.2.2, .inr (.inr rfl)⟩
theorem Jj(b r q:Nat)(z u:Int)(m:Me)(k:Bk)(w:bD)(h:UB w b r q m k)(G:qW m k):
  Calls prog 110 #[ai (bB ⟨b,0,bC⟩),aa bf z,aa bh u] w λe w'=>∃(E:Int) (g:Nat) (m':Me) (k':Bk),e=bw (bS E)/\Mv.kG m k z bE E g m' k'/\UB w' b r q m' (if E=0 then Mv.GU k' g (z.toNat%8) u else k')/\fX b r q w w'/\(E=0\/E=4\/E=10):=by
 have HF:=hJ (aK h G);go_in
 go_wp2_with fail
 refine(zu b r q z bE m k _ HF.1 HF.2).mono ?_;rintro e w1 ⟨E,g,m',k',rfl,ht,hu,F,g64,hE⟩;have HT:=hJ (aK ht (aK hu F));rcases hE with rfl|rfl|rfl
 .have c2:=hu.bk.cB g (z.toNat%8) g64 bG;have cf:=hu.bk.frozen;have S1:Hid (UB (w1.setCell ⟨r,1+g*9+1+z.toNat%8,bC⟩ (aa bh u)) b r q m' (Mv.GU k' g (z.toNat%8) u)/\fX b r q w (w1.setCell ⟨r,1+g*9+1+z.toNat%8,bC⟩ (aa bh u))):=hJ (by
   have f:bO r w1 (w1.setCell ⟨r,1+g*9+1+z.toNat%8,bC⟩ (aa bh u)):=(bO.refl r w1).setCell _ _;exact⟨⟨hu.me.same (f.block b hu.me.lt hu.br),hu.bk.Vc g (z.toNat%8) u g64 bG,hu.br,hu.bq⟩,HT.2.2.trans ⟨f.os,f.tape,f.output,f.size,λj hj _ h2 _=>f.block j hj h2⟩⟩)
  rw[aJ rfl,bN];go_wp2
  go_ret
  exact⟨0,g,m',k',rfl,HT.1,by rw[aJ rfl];exact S1.1,S1.2, .inl rfl⟩
 .rw[aI bM,bP bM];go_wp2
  go_ret
  exact⟨4,g,m',k',rfl,HT.1,by rw[aI bM];exact HT.2.1,HT.2.2, .inr (.inl rfl)⟩
 .rw[aI bM,bP bM];go_wp2
  go_ret
  exact⟨10,g,m',k',rfl,HT.1,by rw[aI bM];exact HT.2.1,HT.2.2, .inr (.inr rfl)⟩
def G7(r:Nat):Array Value:=((List.range 33).map λo=>if o=0 then ai (bB ⟨r,0,bC⟩)else aa .i64 0).toArray
theorem PZ(r i:Nat)(h:i<33):(G7 r)[i]? =bB (if i=0 then ai (bB ⟨r,0,bC⟩)else aa .i64 0):=by simp[G7,h]
def Mv.j5:Me:=⟨λ_=>0,λ_=>0⟩
def Mv.GA(k:Nat):Me:=⟨λ_=>0,λn=>if n<k then 0 else 1⟩
theorem T5(h:w.heap[b]? =bB (bA (G7 r) 186 (0,0))):du w b r (Mv.GA 0):=by
 refine⟨⟨_,h,by simp[G7]⟩,λo ho=>?_⟩;rw[cA h,PZ r o ho];unfold lr;grind [G7,cA,PZ,lr,Mv.GA]
theorem O3(r:Nat)(w:bD):Calls prog 167 #[ai (bB ⟨r,0,bC⟩)] w λe w'=>e=bw (ai (bB ⟨w.heap.size,0,bC⟩))/\du w' w.heap.size r Mv.j5/\Below w.heap.size w w':=by
 have S0:Hid (∀C,C=G7 r->du (w.alloc (bA C 186)) w.heap.size r (Mv.GA 0)/\Below w.heap.size w (w.alloc (bA C 186))):=hJ (λC hC=>by
  subst hC;exact⟨T5 (heap_alloc_new w _),(aQ _ _).alloc (aL _) _⟩)
 go_in
 go_wp2
 refine cR (λW=>du W w.heap.size r (Mv.GA 0)/\Below w.heap.size w W) (S0.v _ rfl) ?_;intro W1 h1;have S1:=hJ h1;obtain⟨b,hb⟩:=hU (w.heap.size);rw[hb]at S1|-;have HB:=hJ hb;go_loopw [8] (λi wr=>∃(k:Nat),i=aa bf k/\k<=16/\Hid (du wr b r (Mv.GA k)/\Below b w wr)) (λi _=>16-(intOf i).toNat)
 case atStart=>exact⟨0,rfl,bG,S1⟩
 case round=>
  obtain⟨k,rfl,hk,S⟩:=hrel;by_cases hlt:k<16
  .have hltI:(k:Int)<16:=bG
   have c1:=S.1.wJ k hlt;have cf:=S.1.frozen;have S2:Hid (du (wr.setCell ⟨b,1+k*2+1,bC⟩ (aa bf (-1))) b r (Mv.GA (k+1))/\Below b w (wr.setCell ⟨b,1+k*2+1,bC⟩ (aa bf (-1)))):=hJ ⟨(S.1.Cn k 0 hlt (-1) rfl).congr (λn _=>⟨rfl,by
    show(if n<k+1 then 0 else 1)=(if n=k then 0 else if n<k then 0 else 1);by_cases c:n=k
    .rw[aJ c,nK]
    .rw[aI c];by_cases d:n<k
     .rw[aJ d,nK]
     .rw[aI d,nJ]⟩),S.2.setCell (aL _) _⟩
   go_wp2
   go_roundw
   case rel=>exact⟨k+1,by go_num,bG,S2⟩
   case measure=>simp[intOf];omega
  .have hk16:k=16:=bG
   subst hk16;have FIN:Hid (du wr b r Mv.j5):=hJ (S.1.congr (λn hn=>⟨rfl,by show 0=if n<16 then 0 else 1;rw[aJ hn]⟩));go_wp2
   go_ret
   rw[HB.v];exact⟨rfl,FIN.v,S.2⟩
theorem vD(b:Nat)(a n:Int)(w:bD)(k:Mv.j9 a n=bE):Calls prog 177 #[ai (bB ⟨b,0,bC⟩),aa bf a,aa bf n] w λe w'=>e=bw (ao #[aj bC 0 0,bS 1])/\w'=w:=by
 unfold Mv.j9 at k;rw[decide_eq_true_iff]at k;by_cases h1:n<1
 .clear k;go_in
  go_wp2
  go_ret2
  exact⟨rfl,rfl⟩
 .have d1:decide (n<1)=bF:=aT h1;by_cases h2:a<0
  .clear k h1;go_in
   go_wp2
   go_ret2
   exact⟨rfl,rfl⟩
  .have d2:decide (a<0)=bF:=aT h2;by_cases h3:16<=a
   .clear k h1 h2;go_in
    go_wp2
    go_ret2
    exact⟨rfl,rfl⟩
   .have d3:decide (16<=a)=bF:=aT h3;have h4:16-a<n:=bG
    have hw:IntKind.i64.wrap (16-a)=16-a:=aN _ ⟨by omega,bG⟩;go_in
    go_wp2
    go_ret2
    exact⟨rfl,rfl⟩
theorem xQ(b x n:Nat)(w:bD)(hx:x<16)(h1:1<=n)(hn:x+n<=16):Calls prog 177 #[ai (bB ⟨b,0,bC⟩),aa bf x,aa bf n] w λe w'=>e=bw (ao #[aj (bB ⟨b,1+x*2,bC⟩) n (16-x),bS 0])/\w'=w:=by
 have d1:decide ((n:Int)<1)=bF:=by simp;omega
 have d3:decide (16<=(x:Int))=bF:=by simp;omega
 have hw:IntKind.i64.wrap (16-(x:Int))=16-(x:Int):=aN _ ⟨by omega,bG⟩;have d4:decide (16-(x:Int)<(n:Int))=bF:=by simp;omega
 have hw2:IntKind.i64.wrap ((x:Int)+(n:Int))=(x:Int)+(n:Int):=aN _ ⟨by omega,bG⟩;have d5:(x:Int)+(n:Int)<=16:=bG
 have d6:(x:Int)<=(x:Int)+(n:Int):=bG
 go_in
 go_wp2
 rw[show x+n-x=n by omega];go_ret2
 exact⟨rfl,rfl⟩
theorem RW(wr:Bool)(w:bD):Calls prog 237 #[ar wr] w λe w'=>e=bw (aa bf ((if wr then 2 else 1:Nat):Int))/\w'=w:=by
 cases wr
 .go_in
  go_wp2
  go_ret
  exact⟨rfl,rfl⟩
 .go_in
  go_wp2
  go_ret
  exact⟨rfl,rfl⟩
theorem BW(u:Nat)(v:Int)(w:bD):Calls prog 179 #[au #[aa bf (u:Int),aa bf v]] w λe w'=>e=bw (ar (decide (u≠0)))/\Below w.heap.size w w':=by
 have BL:Hid (∀o,Below w.heap.size w (w.alloc o)):=hJ (λo=>(aQ _ _).alloc (aL _) o);by_cases c:u=0
 .subst c;go_in
  go_wp2
  go_ret
  exact⟨rfl,BL.v _⟩
 .have c':((u:Int)==0)=bF:=by simp;omega
  have HE:=hJ (aO (show u≠0 from c));have HC:=hJ c';go_in
  go_wp2
  go_ret
  exact⟨da (by rw[HE.v];first|rfl|(show(!((u:Int)==0))=bE;rw[HC.v];rfl)),BL.v _⟩
theorem zr(u:Nat)(v:Int)(w:bD):Calls prog 181 #[au #[aa bf (u:Int),aa bf v]] w λe w'=>e=bw (ar (decide (u=0)))/\Below w.heap.size w w':=by
 have BL:Hid (∀o,Below w.heap.size w (w.alloc o)):=hJ (λo=>(aQ _ _).alloc (aL _) o);by_cases c:u=0
 .subst c;go_in
  go_wp2
  go_ret
  exact⟨rfl,BL.v _⟩
 .have c':((u:Int)==0)=bF:=by simp;omega
  have HE:=hJ (aT c);go_in
  go_wp2
  go_ret
  exact⟨da HE.symm,BL.v _⟩
def zL(F:Nat)(A:Nat->Bool):Prop:=∀(u:Nat) (v:Int) (w:bD),Calls prog F #[au #[aa bf (u:Int),aa bf v]] w λe w'=>e=bw (ar (A u))/\Below w.heap.size w w'
theorem du.CI{m:Me}(h:du w b r m)(x j:Nat)(hj:x+j<16):w.cell? ⟨b,1+x*2+j*2,bC⟩=bB (aa bf (m.is (x+j):Int)):=by
 have:=h.UL (x+j) hj;grind
theorem du.Hp{m:Me}(h:du w b r m)(x j:Nat)(hj:x+j<16):w.cell? ⟨b,1+x*2+j*2+1,bC⟩=bB (aa bf ((m.fr (x+j):Int)-1)):=by
 have:=h.wJ (x+j) hj;grind
theorem Hn:zL 179 (λu=>decide (u≠0)):=BW
theorem Cx:zL 181 (λu=>decide (u=0)):=zr
theorem BR(A:Nat->Bool)(hA:zL 179 A)(b r x n c:Nat)(m:Me)(w:bD)(h:du w b r m)(hn:x+n<=16):
  Calls prog 236 #[aj (bB ⟨b,1+x*2,bC⟩) n c, .func (.func 179) #[] #[]] w λe w'=>∃z:Int,e=bw (aa bf z)/\decide (0<=z)=(List.range n).any (λj=>A (m.is (x+j)))/\Below w.heap.size w w':=by
 have HF:=hJ h;have HA:=hJ hA;go_in
 go_wp2_with fail
 go_loopw [8] (λi wr=>∃(k:Nat),i=aa bf k/\k<=n/\Hid (Below w.heap.size w wr/\∀j,j<k->A (m.is (x+j))=bF)) (λi _=>n-(intOf i).toNat)
 case atStart=>exact⟨0,rfl,bG,aQ _ _,λj hj=>bG⟩
 case round=>
  obtain⟨k,rfl,hk,S⟩:=hrel;by_cases hlt:k<n
  .have hltI:(k:Int)<(n:Int):=bG
   have c0:=(HF.below S.1).CI x k bG;have c1:=(HF.below S.1).Hp x k bG;go_wp2_with fail
   refine sC (HA.v _ _ _) ?_;rintro w1 hb;have HB:=hJ (S.1.trans (hb.mono S.1.size));cases ha:A (m.is (x+k))
   .have N:Hid (∀j,j<k+1->A (m.is (x+j))=bF):=hJ (λj hj=>by
     by_cases e:j=k
     .rw[e];exact ha
     .exact S.2 j bG)
    go_wp2
    go_roundw
    case rel=>exact⟨k+1,by go_num,bG,HB.v,N.v⟩
    case measure=>simp[intOf];omega
   .have N:Hid (decide ((0:Int)<=(k:Int))=(List.range n).any (λj=>A (m.is (x+j)))):=hJ (by
     rw[aO bG];exact(List.any_eq_true.2 ⟨k,List.mem_range.2 hlt,ha⟩).symm)
    go_wp2
    go_ret
    exact⟨k,rfl,N.v,HB.v⟩
  .have hltI:¬(k:Int)<(n:Int):=bG
   have N:Hid (decide ((0:Int)<= -1)=(List.range n).any (λj=>A (m.is (x+j)))):=hJ (by
    rw[aT bG];symm;rw[List.any_eq_false];intro j hj;rw[S.2 j (by have:=List.mem_range.1 hj;omega)];decide)
   go_wp2
   go_ret
   exact⟨-1,rfl,N.v,S.1⟩
theorem xP(A:Nat->Bool)(hA:zL 179 A)(b r x n c:Nat)(m:Me)(w:bD)(h:du w b r m)(hn:x+n<=16):
  Calls prog 178 #[aj (bB ⟨b,1+x*2,bC⟩) n c, .func (.func 179) #[] #[]] w λe w'=>e=bw (ar ((List.range n).any (λj=>A (m.is (x+j)))))/\Below w.heap.size w w':=by
 have HF:=hJ (aK h hA);clear h hA;go_in
 go_wp2_with fail
 refine(BR A HF.2 b r x n c m _ HF.1 hn).mono ?_;rintro e w1 ⟨z,rfl,hz,hb⟩;have HB:=hJ (aK hz hb);clear hz hb;go_wp2
 go_ret
 exact⟨da HB.1,HB.2⟩
theorem zq(A:Nat->Bool)(hA:zL 181 A)(b r x n c:Nat)(m:Me)(w:bD)(h:du w b r m)(hn:x+n<=16):
  Calls prog 236 #[aj (bB ⟨b,1+x*2,bC⟩) n c, .func (.func 181) #[] #[]] w λe w'=>∃z:Int,e=bw (aa bf z)/\decide (0<=z)=(List.range n).any (λj=>A (m.is (x+j)))/\Below w.heap.size w w':=by
 have HF:=hJ h;have HA:=hJ hA;go_in
 go_wp2_with fail
 go_loopw [8] (λi wr=>∃(k:Nat),i=aa bf k/\k<=n/\Hid (Below w.heap.size w wr/\∀j,j<k->A (m.is (x+j))=bF)) (λi _=>n-(intOf i).toNat)
 case atStart=>exact⟨0,rfl,bG,aQ _ _,λj hj=>bG⟩
 case round=>
  obtain⟨k,rfl,hk,S⟩:=hrel;by_cases hlt:k<n
  .have hltI:(k:Int)<(n:Int):=bG
   have c0:=(HF.below S.1).CI x k bG;have c1:=(HF.below S.1).Hp x k bG;go_wp2_with fail
   refine sC (HA.v _ _ _) ?_;rintro w1 hb;have HB:=hJ (S.1.trans (hb.mono S.1.size));cases ha:A (m.is (x+k))
   .have N:Hid (∀j,j<k+1->A (m.is (x+j))=bF):=hJ (λj hj=>by
     by_cases e:j=k
     .rw[e];exact ha
     .exact S.2 j bG)
    go_wp2
    go_roundw
    case rel=>exact⟨k+1,by go_num,bG,HB.v,N.v⟩
    case measure=>simp[intOf];omega
   .have N:Hid (decide ((0:Int)<=(k:Int))=(List.range n).any (λj=>A (m.is (x+j)))):=hJ (by
     rw[aO bG];exact(List.any_eq_true.2 ⟨k,List.mem_range.2 hlt,ha⟩).symm)
    go_wp2
    go_ret
    exact⟨k,rfl,N.v,HB.v⟩
  .have hltI:¬(k:Int)<(n:Int):=bG
   have N:Hid (decide ((0:Int)<= -1)=(List.range n).any (λj=>A (m.is (x+j)))):=hJ (by
    rw[aT bG];symm;rw[List.any_eq_false];intro j hj;rw[S.2 j (by have:=List.mem_range.1 hj;omega)];decide)
   go_wp2
   go_ret
   exact⟨-1,rfl,N.v,S.1⟩
theorem vC(A:Nat->Bool)(hA:zL 181 A)(b r x n c:Nat)(m:Me)(w:bD)(h:du w b r m)(hn:x+n<=16):
  Calls prog 178 #[aj (bB ⟨b,1+x*2,bC⟩) n c, .func (.func 181) #[] #[]] w λe w'=>e=bw (ar ((List.range n).any (λj=>A (m.is (x+j)))))/\Below w.heap.size w w':=by
 have HF:=hJ (aK h hA);clear h hA;go_in
 go_wp2_with fail
 refine(zq A HF.2 b r x n c m _ HF.1 hn).mono ?_;rintro e w1 ⟨z,rfl,hz,hb⟩;have HB:=hJ (aK hz hb);clear hz hb;go_wp2
 go_ret
 exact⟨da HB.1,HB.2⟩
theorem zt(b r x n c:Nat)(wt:Bool)(m:Me)(w:bD)(h:du w b r m)(hn:x+n<=16):
  Calls prog 180 #[aj (bB ⟨b,1+x*2,bC⟩) n c,ar wt] w λe w'=>e=bw (ao #[])/\du w' b r (Mv.qD m x (x+n) wt)/\bO b w w':=by
 have S0:Hid (du w b r (Mv.qD m x (x+0) wt)/\bO b w w):=hJ ⟨h.congr (λi _=>⟨Mv.KN m x wt i,rfl⟩),bO.refl _ _⟩;obtain⟨av,hav⟩:=hU ((if wt then 2 else 1:Nat));have HA:=hJ hav;go_in
 go_wp2_with fail
 go_loopw [7] (λi wr=>∃(k:Nat),i=aa bf k/\k<=n/\Hid (du wr b r (Mv.qD m x (x+k) wt)/\bO b w wr)) (λi _=>n-(intOf i).toNat)
 case atStart=>exact⟨0,rfl,bG,S0⟩
 case round=>
  obtain⟨k,rfl,hk,S⟩:=hrel;by_cases hlt:k<n
  .have hltI:(k:Int)<(n:Int):=bG
   have c0:=S.1.CI x k bG;have cf:=S.1.frozen;have S2:Hid (du (wr.setCell ⟨b,1+x*2+k*2,bC⟩ (aa bf (av:Int))) b r (Mv.qD m x (x+(k+1)) wt)/\bO b w (wr.setCell ⟨b,1+x*2+k*2,bC⟩ (aa bf (av:Int)))):=hJ ⟨by
    have a:=S.1.PK (x+k) av bG;rw[show 1+(x+k)*2=1+x*2+k*2 by omega]at a;refine a.congr (λi _=>⟨?_,rfl⟩);rw[<-Nat.add_assoc,Mv.KO bG,HA.v];rfl,S.2.setCell _ _⟩
   go_wp2_with fail
   refine sC (RW wt _) ?_;rintro w1 hw;subst w1;rw[HA.v];go_wp2
   go_roundw
   case rel=>exact⟨k+1,by go_num,bG,S2⟩
   case measure=>simp[intOf];omega
  .have hkn:k=n:=bG
   subst hkn;go_wp2_with fail
   go_end0
   exact⟨rfl,S.1,S.2⟩
theorem MC{m:Me}(hn:x+n<=16):(List.range n).any (λj=>decide (m.is (x+j)≠0))=Mv.anyM m x (x+n):=by
 apply Bool.eq_iff_iff.2;rw[Mv.Mz hn,List.any_eq_true];constructor
 .grind
 .rintro⟨i,h1,h2,h3⟩;exact⟨i-x,List.mem_range.2 bG,by rw[show x+(i-x)=i by omega];exact aO h3⟩
theorem My{m:Me}(hn:x+n<=16):(List.range n).any (λj=>decide (m.is (x+j)=0))= !Mv.allM m x (x+n):=by
 cases c:Mv.allM m x (x+n)
 .rw[Bool.not_false,List.any_eq_true];apply Classical.byContradiction;intro d;have:Mv.allM m x (x+n)=bE:=(Mv.Cw hn).2 (λi h1 h2 h3=>d ⟨i-x,List.mem_range.2 bG,by rw[show x+(i-x)=i by omega];exact aO h3⟩);rw[this]at c;cases c
 .rw[Bool.not_true,List.any_eq_false];intro j hj d;have:=List.mem_range.1 hj;exact(Mv.Cw hn).1 c (x+j) bG bG (of_decide_eq_true d)
theorem O1(b r:Nat)(a n:Int)(wt:Bool)(m:Me)(w:bD)(h:du w b r m):
  Calls prog 104 #[ai (bB ⟨b,0,bC⟩),aa bf a,aa bf n,ar wt] w λe w'=>e=bw (bS (Mv.rS m a n))/\du w' b r (Mv.mapM m a n wt)/\bO b w w':=by
 have HF:=hJ h;cases hb:Mv.j9 a n
 .obtain⟨x,k,rfl,rfl,hx,hk1,hk⟩:=Mv.sd hb;have SP:=hJ (xQ b x k w hx hk1 hk);have EX:Hid (Mv.rS m x k=if Mv.anyM m x (x+k)=bE then 3 else 0):=hJ (by unfold Mv.rS;rw[aI (by rw[hb];decide),hZ,hZ]);have EM:Hid (Mv.mapM m x k wt=if Mv.rS m x k=0 then Mv.qD m x (x+k) wt else m):=hJ (by unfold Mv.mapM;rw[hZ,hZ]);go_in
  go_wp2_with fail
  refine sC SP.v ?_;rintro w1 hw;subst w1;rw[bN];go_wp2_with fail
  refine sC (xP _ Hn b r x k (16-x) m _ HF.v hk) ?_;rintro w1 hb1;have H1:=hJ (aK (HF.below hb1) (bO.cO (b:=b) hb1));rw[MC hk];cases ha:Mv.anyM m x (x+k)
  .have E0:Hid (Mv.rS m x k=0):=hJ (by rw[EX.v,ha];rfl);go_wp2_with fail
   refine sC (zt b r x k (16-x) wt m _ H1.1 hk) ?_;rintro w2 ⟨h2,f2⟩;have H2:=hJ (aK h2 (H1.2.trans f2));go_wp2
   go_ret
   rw[EM.v,E0.v,aJ rfl];exact⟨rfl,H2.v⟩
  .have E0:Hid (Mv.rS m x k=3):=hJ (by rw[EX.v,ha];rfl);go_wp2
   go_ret
   rw[EM.v,E0.v,aI bM];exact⟨rfl,H1.v⟩
 .have EX:Hid (Mv.rS m a n=1):=hJ (by unfold Mv.rS;rw[aJ hb]);have EM:Hid (Mv.mapM m a n wt=m):=hJ (by unfold Mv.mapM;rw[EX.v,aI bM]);have SP:=hJ (vD b a n w hb);go_in
  go_wp2_with fail
  refine sC SP.v ?_;rintro w1 hw;subst w1;rw[bP bM];go_wp2
  go_ret
  rw[EX.v,EM.v];exact⟨rfl,HF.v,bO.refl _ _⟩
theorem Ex(b r:Nat)(a n:Int)(wt:Bool)(m:Me)(w:bD)(h:du w b r m):
  Calls prog 105 #[ai (bB ⟨b,0,bC⟩),aa bf a,aa bf n,ar wt] w λe w'=>e=bw (bS (Mv.rU m a n))/\du w' b r (Mv.ve m a n wt)/\bO b w w':=by
 have HF:=hJ h;cases hb:Mv.j9 a n
 .obtain⟨x,k,rfl,rfl,hx,hk1,hk⟩:=Mv.sd hb;have SP:=hJ (xQ b x k w hx hk1 hk);have EX:Hid (Mv.rU m x k=if Mv.allM m x (x+k)=bE then 0 else 10):=hJ (by unfold Mv.rU;rw[aI (by rw[hb];decide),hZ,hZ]);have EM:Hid (Mv.ve m x k wt=if Mv.rU m x k=0 then Mv.qD m x (x+k) wt else m):=hJ (by unfold Mv.ve;rw[hZ,hZ]);go_in
  go_wp2_with fail
  refine sC SP.v ?_;rintro w1 hw;subst w1;rw[bN];go_wp2_with fail
  refine sC (vC _ Cx b r x k (16-x) m _ HF.v hk) ?_;rintro w1 hb1;have H1:=hJ (aK (HF.below hb1) (bO.cO (b:=b) hb1));rw[My hk];cases ha:Mv.allM m x (x+k)
  .have E0:Hid (Mv.rU m x k=10):=hJ (by rw[EX.v,ha];rfl);rw[Bool.not_false];go_wp2
   go_ret
   rw[EM.v,E0.v,aI bM];exact⟨rfl,H1.v⟩
  .have E0:Hid (Mv.rU m x k=0):=hJ (by rw[EX.v,ha];rfl);rw[Bool.not_true];go_wp2_with fail
   refine sC (zt b r x k (16-x) wt m _ H1.1 hk) ?_;rintro w2 ⟨h2,f2⟩;have H2:=hJ (aK h2 (H1.2.trans f2));go_wp2
   go_ret
   rw[EM.v,E0.v,aJ rfl];exact⟨rfl,H2.v⟩
 .have EX:Hid (Mv.rU m a n=1):=hJ (by unfold Mv.rU;rw[aJ hb]);have EM:Hid (Mv.ve m a n wt=m):=hJ (by unfold Mv.ve;rw[EX.v,aI bM]);have SP:=hJ (vD b a n w hb);go_in
  go_wp2_with fail
  refine sC SP.v ?_;rintro w1 hw;subst w1;rw[bP bM];go_wp2
  go_ret
  rw[EX.v,EM.v];exact⟨rfl,HF.v,bO.refl _ _⟩
def UV(b r q x:Nat)(m:Me)(k:Bk)(w0:bD)(j:Nat)(w:bD):Prop:=UB w b r q (Mv.gV m x (x+j)) (Mv.gU m k x j)/\fX b r q w0 w/\Mv.ye (Mv.gV m x (x+j)) (Mv.gU m k x j)
theorem UV.start{m:Me}{k:Bk}(h:UB w b r q m k)(C:Mv.ye m k):UV b r q x m k w 0 w:=by
 have e1:∀i,(Mv.gV m x (x+0)).is i=m.is i:=λi=>nJ;have e2:∀i,(Mv.gV m x (x+0)).fr i=m.fr i:=λi=>nJ;refine⟨⟨h.me.congr (λi _=>⟨e1 i,e2 i⟩),h.bk,h.br,h.bq⟩,fX.refl _ _ _ _,C.inv,C.nb,λi hi=>by rw[e2];exact C.le i hi,λf hf=>?_⟩;rw[Mv.pV (fr:=m.fr) (λi _=>e2 i)];exact C.cY f hf
theorem UV.below{b r q x j:Nat}{m:Me}{k:Bk}{w0 w w':bD}(h:UV b r q x m k w0 j w)(B:Below w.heap.size w w'):UV b r q x m k w0 j w':=⟨h.1.below B,h.2.1.trans (fX.below B),h.2.2⟩
theorem UV.fr{b r q x j:Nat}{m:Me}{k:Bk}{w0 w:bD}(_:UV b r q x m k w0 j w):(Mv.gV m x (x+j)).fr (x+j)=m.fr (x+j)/\(Mv.gV m x (x+j)).is (x+j)=m.is (x+j):=⟨nJ,nJ⟩
theorem UV.step{b r q x j:Nat}{m:Me}{k:Bk}{w0 w w2:bD}(h:UV b r q x m k w0 j w)(hj:x+j<16)(me:du w2 b r (Mv.gV m x (x+j)))(bk:dN w2 r q (Mv.gU m k x (j+1)))(t:fX b r q w0 w2):
  UV b r q x m k w0 (j+1) ((w2.setCell ⟨b,1+x*2+j*2,bC⟩ (aa .i64 0)).setCell ⟨b,1+x*2+j*2+1,bC⟩ (aa bf (-1))):=by
 have f:bO b w2 ((w2.setCell ⟨b,1+x*2+j*2,bC⟩ (aa .i64 0)).setCell ⟨b,1+x*2+j*2+1,bC⟩ (aa bf (-1))):=((bO.refl b w2).setCell _ _).setCell _ _;have a:=(me.PK (x+j) 0 hj).Cn (x+j) 0 hj (-1) rfl;rw[show 1+(x+j)*2=1+x*2+j*2 by omega]at a;refine⟨⟨a.congr (λi _=>?_),bk.mK f h.1.br h.1.bq,h.1.br,h.1.bq⟩,t.trans (fX.mem f),h.2.2.step hj⟩;show _=iJ _ _ _ i/\_=iJ _ _ _ i;unfold iJ;by_cases d:i=x+j
 .subst d;rw[aJ rfl,aJ rfl];exact LZ m x j
 .rw[aI d,aI d];exact Es d
theorem Mc(b r q x n:Nat)(m:Me)(k:Bk)(w:bD)(h:UB w b r q m k)(C:Mv.ye m k)(hx:x<16)(h1:1<=n)(hn:x+n<=16):
  Calls prog 158 #[ai (bB ⟨b,0,bC⟩),aa bf x,aa bf n] w λe w'=>e=bw (ao #[aa bf (Mv.n7 m x n:Int),bS 0])/\UB w' b r q (Mv.gV m x (x+n)) (Mv.gU m k x n)/\fX b r q w w':=by
 have S0:Hid (UV b r q x m k w 0 w):=hJ (UV.start h C);have SP:=hJ (xQ b x n w hx h1 hn);go_in
 go_wp2_with fail
 refine sC SP.v ?_;rintro w1 hw;subst w1;rw[bN];go_wp2_with fail
 go_loopw [10,25] (λs i wr=>∃(j:Nat),i=aa bf j/\s=aa bf (Mv.n7 m x j:Int)/\j<=n/\Hid (UV b r q x m k w j wr)) (λ_ i _=>n-(intOf i).toNat)
 case atStart=>exact⟨0,rfl,rfl,bG,S0⟩
 case round=>
  obtain⟨j,rfl,rfl,hj,S⟩:=hrel;by_cases hlt:j<n
  .have hltI:(j:Int)<(n:Int):=bG
   have c0:=S.1.me.CI x j bG;have c1:=S.1.me.Hp x j bG;have cf:=S.1.me.frozen;rw[S.fr.1]at c1;have hbs:b<wr.heap.size:=S.1.me.lt;have hbn:b≠wr.heap.size:=bG
   have lc:=Mv.T6 m x j;by_cases f0:m.fr (x+j)=0
   .have LE:Hid (Mv.n7 m x (j+1)=Mv.n7 m x j):=hJ (by show Mv.n7 m x j+(if m.fr (x+j)=0 then 0 else 1)=_;rw[aJ f0];rfl);have KE:Hid (Mv.gU m k x (j+1)=Mv.gU m k x j):=hJ (aJ f0);rw[f0]at c1;have c1':wr.cell? ⟨b,1+x*2+j*2+1,bC⟩=bB (aa bf (-1)):=c1;have NX:Hid (∀o,UV b r q x m k w (j+1) (((wr.setCell ⟨b,1+x*2+j*2,bC⟩ (aa .i64 0)).setCell ⟨b,1+x*2+j*2+1,bC⟩ (aa bf (-1))).alloc o)):=hJ (λo=>
     (S.step bG S.1.me (by rw[KE.v];exact S.1.bk) S.2.1).below ((aQ _ _).alloc (aL _) o))
    go_wp2
    go_roundw
    case rel=>exact⟨j+1,by go_num,by rw[LE.v],bG,NX.v _⟩
    case measure=>simp[intOf];omega
   .obtain⟨v,hv⟩:∃v,m.fr (x+j)=v+1:=⟨m.fr (x+j)-1,bG⟩;have LE:Hid (Mv.n7 m x (j+1)=Mv.n7 m x j+1):=hJ (by show Mv.n7 m x j+(if m.fr (x+j)=0 then 0 else 1)=_;rw[aI f0]);have KE:Hid (Mv.gU m k x (j+1)=Mv.ko (Mv.gU m k x j) v):=hJ (by
     show(if m.fr (x+j)=0 then Mv.gU m k x j else Mv.ko (Mv.gU m k x j) (m.fr (x+j)-1))=_;rw[aI f0,hv,aP])
    rw[hv,show((v+1:Nat):Int)-1=(v:Int)by omega]at c1;have v64:v<64:=by have:=S.2.2.le (x+j) bG;rw[S.fr.1,hv]at this;omega
    have v1:((v:Int)== -1)=bF:=by simp
    have RF:Hid (1<=(Mv.gU m k x j).refs v/\(Mv.gU m k x j).refs v<2^60):=hJ (by
     have a:=S.2.2.cY v v64;have p:=Mv.qp (fr:=(Mv.gV m x (x+j)).fr) (f:=v) (n:=16) (i:=x+j) bG (by rw[S.fr.1,hv]);omega)
    have d0:=S.1.me.sW;have SB:Hid (∀o,UV b r q x m k w j (wr.alloc o)):=hJ (λo=>S.below ((aQ _ _).alloc (aL _) o));go_wp2_with fail
    go_region_with ((go_at_call 228;refine sC (zs r q v (Mv.gU m k x j) _ (by first|exact(SB.v _).1.bk.drew|exact(SB.v _).1.bk) v64 S.2.2.inv RF.1 RF.2) ?_;rintro w4 ⟨hk4,F4⟩;have H4:Hid (du w4 b r (Mv.gV m x (x+j))/\dN w4 r q (Mv.ko (Mv.gU m k x j) v)/\fX b r q w w4):=hJ (by first|exact⟨(SB.v _).1.me.drew.two F4 S.1.br S.1.bq,hk4,(SB.v _).2.1.drew.trans (fX.Cy F4)⟩|exact⟨(SB.v _).1.me.two F4 S.1.br S.1.bq,hk4,(SB.v _).2.1.trans (fX.Cy F4)⟩)))
    all_goals
     have e0:=H4.1.CI x j bG;have e1:=H4.1.Hp x j bG;have ef:=H4.1.frozen;have NX:Hid (UV b r q x m k w (j+1) ((w4.setCell ⟨b,1+x*2+j*2,bC⟩ (aa .i64 0)).setCell ⟨b,1+x*2+j*2+1,bC⟩ (aa bf (-1)))):=hJ (S.step bG H4.1 (by rw[KE.v];exact H4.2.1) H4.2.2);generalize Mv.n7 m x j=cj at*;go_wp2
     go_roundw
     case rel=>exact⟨j+1,by go_num,by rw[LE.v];go_num,bG,NX.v⟩
     case measure=>simp[intOf];omega
  .have hjn:j=n:=bG
   subst hjn;go_wp2
   go_ret2
   exact⟨rfl,S.1,S.2.1⟩
theorem Jk(b r q:Nat)(a n:Int)(m:Me)(k:Bk)(w:bD)(h:UB w b r q m k)(C:Mv.ye m k):
  Calls prog 158 #[ai (bB ⟨b,0,bC⟩),aa bf a,aa bf n] w λe w'=>e=bw (ao #[aa bf (Mv.qN m a n:Int),bS (Mv.kF a n)])/\UB w' b r q (Mv.j7 m a n) (Mv.lD m k a n)/\fX b r q w w':=by
 unfold Mv.qN Mv.kF Mv.j7 Mv.lD;cases hb:Mv.j9 a n
 .obtain⟨x,j,rfl,rfl,hx,hk1,hk⟩:=Mv.sd hb;rw[aI bM,aI bM,aI bM,aI bM,hZ,hZ];exact Mc b r q x j m k w h C hx hk1 hk
 .rw[aJ rfl,aJ rfl,aJ rfl,aJ rfl];have HF:=hJ h;have SP:=hJ (vD b a n w hb);go_in
  go_wp2_with fail
  refine sC SP.v ?_;rintro w1 hw;subst w1;rw[bP bM];go_wp2
  go_ret2
  exact⟨rfl,HF.v,fX.refl _ _ _ _⟩
def ks(r:Nat)(m:Me):Array Value:=((List.range 33).map (lr r m)).toArray
theorem GC(r:Nat)(m:Me)(i:Nat)(h:i<33):(ks r m)[i]? =bB (lr r m i):=by simp[ks,h]
theorem Bm(r:Nat)(m:Me):(ks r m).size=33:=by simp[ks]
theorem qE(r:Nat)(m:Me):(ks r m).toList.length=33:=by simp[ks]
theorem Og(r:Nat)(m:Me):(ks r m).all (·.oneCell')=bE:=by
 rw[Array.all_eq_true_iff_forall_mem];intro v hv;simp only[ks,List.mem_toArray,List.mem_map]at hv;obtain⟨o,_,rfl⟩:=hv;unfold lr;split
 .rfl
 .split<;>rfl
theorem du.all{m:Me}(h:du w b r m):w.rangeAt b 0 (ks r m).toList:=λj v hv=>by
 have hj:j<33:=by have:=(aY.1 hv).1;rwa [qE]at this
 rw[aM,GC r m j hj]at hv;rw[Nat.zero_add,<-hv];exact h.cell j hj
def rJ:Array Value:=((List.range 33).map λo=>if o=0 then ai bC else aa .i64 0).toArray
section
variable {ops:Array Oper}{rest:List Oper}{x:Oper}{a:Act}{w:bD}{Q:Exit->Act->bD->Prop}
theorem AP(hgd:x.guard=bC)(ho:x.op= .alloc 186)(h:wpList prog ops Q rest (a.put x.dst (ai (bB ⟨w.heap.size,0,bC⟩))) (w.alloc (bA rJ 186))):wpList prog ops Q (x::rest) a w:=
 wpList_plain hgd λ_ hK=>by
  unfold Oper.wp execOp;simp only[ho];simp[go_sem];exact hK _ _ h
end
theorem OZ:rJ.size=33:=by simp[rJ]
theorem T0{c:Nat}{m:Me}(h:w.heap[c]? =bB (bA rJ 186 (0,0))):du (w.setCells c 0 (ks r m).toList) c r m:=by
 obtain⟨C',k1,k2⟩:=ed c (ks r m).toList 0 w rJ h;refine⟨⟨C',k1,by rw[k2,OZ]⟩,λo ho=>?_⟩;have:=aS c (ks r m).toList 0 w (λi hi=>by
  rw[qE]at hi;rw[cA h];simp[rJ];exact hi) o (by rw[qE];exact ho)
 rw[Nat.zero_add]at this;rw[this,<-aW (by rw[qE];exact ho),aM,GC r m o ho]
def Mv.eJ(m:Me)(k:Bk)(j:Nat):Bk:={k with refs:=λf=>k.refs f+Mv.eH m.fr f j}
theorem dN.congr{k k':Bk}(h:dN w r q k)(e1:k'.dn=k.dn)(e2:∀f,f<64->k'.refs f=k.refs f)(e3:∀f j,f<64->k'.dc f j=k.dc f j):dN w r q k':=by
 refine⟨h.dk,λo ho=>?_,by rw[e1];exact h.dn,h.ne⟩;rw[h.cell o ho];unfold nN;by_cases c:o=0
 .rw[aJ c,aJ c]
 .rw[aI c,aI c,e2 _ bG,e3 _ _ bG]
theorem dN.QH{m:Me}{k:Bk}(h:dN w r q k):dN w r q (Mv.eJ m k 0):=h.congr rfl (λ_ _=>rfl) (λ_ _ _=>rfl)
theorem dN.U3{m:Me}{k:Bk}(h:dN w r q (Mv.eJ m k j))(c:m.fr j=0):dN w r q (Mv.eJ m k (j+1)):=h.congr rfl (λf _=>by
 show k.refs f+(Mv.eH m.fr f j+if m.fr j=f+1 then 1 else 0)=k.refs f+Mv.eH m.fr f j;rw[nJ];rfl) (λ_ _ _=>rfl)
theorem dN.Ue{m:Me}{k:Bk}(h:dN w r q (Mv.eJ m k j))(c:m.fr j=v+1)(hv:v<64):dN (w.setCell ⟨r,1+v*9,bC⟩ (aa bf (((Mv.eJ m k j).refs v+1:Nat):Int))) r q (Mv.eJ m k (j+1)):=(h.sE v _ hv).congr rfl (λf _=>by
 show k.refs f+(Mv.eH m.fr f j+if m.fr j=f+1 then 1 else 0)=if f=v then k.refs v+Mv.eH m.fr v j+1 else k.refs f+Mv.eH m.fr f j;by_cases e:f=v
 .subst e;rw[aJ c,aJ rfl];omega
 .rw[nJ,aI e];rfl) (λ_ _ _=>rfl)
theorem Gc(fr:Nat->Nat)(f n:Nat):Mv.eH fr f n<=n:=by
 induction n with
 |zero=>exact aL 0
 |succ n ih=>show Mv.eH fr f n+_<=n+1;split<;>omega
theorem Ma(b r q:Nat)(m:Me)(k:Bk)(w:bD)(h:UB w b r q m k)(hl:∀i,i<16->m.fr i<=64)(hr:∀f,f<64->k.refs f<2^58):
  Calls prog 144 #[ai (bB ⟨b,0,bC⟩)] w λe w'=>e=bw (ai (bB ⟨w.heap.size,0,bC⟩))/\du w' w.heap.size r m/\UB w' b r q m (Mv.eJ m k 16)/\bO r w w':=by
 have HF:=hJ (aK h (aK hl hr));have HR:=hJ h.me.all;have hs1:Hid ((prog.info? 186).map (·.size)=bB (ks r m).toList.length):=hJ (by rw[qE];kernel_rfl);have hs2:Hid ((prog.info? 186).map (·.size)=bB (ks r m).size):=hJ (by rw[Bm];kernel_rfl);have h1c:=hJ (Og r m);have N0:Hid ((w.alloc (bA rJ 186)).heap[w.heap.size]? =bB (bA rJ 186 (0,0))):=hJ (heap_alloc_new w _);have TH:Hid ((w.alloc (bA rJ 186)).there w.heap.size 0 (ks r m).size):=hJ (λj hj=>by
  rw[Bm]at hj;refine⟨?_,cL N0.v _⟩;rw[cA N0.v];simp[rJ];exact hj)
 have FIN:Hid (du ((w.alloc (bA rJ 186)).setCells w.heap.size 0 (ks r m).toList) w.heap.size r m/\UB ((w.alloc (bA rJ 186)).setCells w.heap.size 0 (ks r m).toList) b r q m k/\Below w.heap.size w ((w.alloc (bA rJ 186)).setCells w.heap.size 0 (ks r m).toList)):=hJ (by
  have bb:Below w.heap.size w ((w.alloc (bA rJ 186)).setCells w.heap.size 0 (ks r m).toList):=(bO.setCells _ _ (bO.refl w.heap.size _)).below ((aQ _ _).alloc (aL _) _) (aL _) (by simp);exact⟨T0 N0.v,HF.1.below bb,bb⟩)
 obtain⟨A,hA⟩:=hU (ks r m);rw[hA]at HR hs1 hs2 h1c TH FIN;go_in
 go_upto_region 2 with(first|(refine wpList_load_mid rfl 186 _ rfl b 0 rfl A.toList _ HR.v Tryz.underlying186 rfl hs1.v ?_;rw[Array.toArray_toList])|(refine AP rfl rfl ?_)|(refine wpList_store_mid rfl 186 _ _ rfl w.heap.size 0 A rfl rfl TH.v hs2.v h1c.v ?_))
 refine cR (λW=>du W w.heap.size r m/\UB W b r q m k/\Below w.heap.size w W) FIN.v ?_;intro W1 hW1;have S1:=hJ hW1;obtain⟨c,hc⟩:=hU (w.heap.size);have HC:Hid (w.heap.size=c/\c≠r/\c≠q/\b≠c):=hJ ⟨hc,by have:=HF.1.bk.lt;omega,by have:=HF.1.bk.DB;omega,by have:=HF.1.me.lt;omega⟩;rw[hc]at S1|-;have hsz:=hJ (Bu m);have HR:=hJ S1.1.range;go_wp2_with (refine wpList_load_mid rfl 184 _ rfl c 1 rfl (rowP m) (.array 16 183) HR.v bH rfl hsz.v ?_)
 have S2:Hid (du W1 c r m/\UB W1 b r q m (Mv.eJ m k 0)/\bO r w W1):=hJ ⟨S1.1,⟨S1.2.1.me,S1.2.1.bk.QH,S1.2.1.br,S1.2.1.bq⟩,bO.cO (by have:=S1.2.2;rw[<-HC.1]at this;exact this)⟩;go_loopw [11] (λi wr=>∃(j:Nat),i=aa bf j/\j<=16/\Hid (du wr c r m/\UB wr b r q m (Mv.eJ m k j)/\bO r w wr)) (λi _=>16-(intOf i).toNat)
 case atStart=>exact⟨0,rfl,bG,S2⟩
 case round=>
  obtain⟨j,rfl,hj,S⟩:=hrel;by_cases hlt:j<16
  .have hltI:(j:Int)<16:=bG
   have hix:=yK m j hlt;have AL:Hid (∀o,du (wr.alloc o) c r m/\UB (wr.alloc o) b r q m (Mv.eJ m k j)/\bO r w (wr.alloc o)):=hJ (λo=>by
    have bb:Below wr.heap.size wr (wr.alloc o):=(aQ _ _).alloc (aL _) o;exact⟨S.1.below bb,S.2.1.below bb,S.2.2.trans (bO.cO bb)⟩)
   generalize m.is j=u0 at*;by_cases f0:m.fr j=0
   .have NX:Hid (∀o,du (wr.alloc o) c r m/\UB (wr.alloc o) b r q m (Mv.eJ m k (j+1))/\bO r w (wr.alloc o)):=hJ (λo=>⟨(AL.v o).1,⟨(AL.v o).2.1.me,(AL.v o).2.1.bk.U3 f0,(AL.v o).2.1.br,(AL.v o).2.1.bq⟩,(AL.v o).2.2⟩);rw[f0]at hix;go_wp2
    go_roundw
    case rel=>exact⟨j+1,by go_num,bG,NX.v _⟩
    case measure=>simp[intOf];omega
   .obtain⟨v,hv⟩:∃v,m.fr j=v+1:=⟨m.fr j-1,bG⟩;have v64:v<64:=by have:=HF.2.1 j hlt;omega
    rw[hv,show((v+1:Nat):Int)-1=(v:Int)by omega]at hix;have v1:((v:Int)== -1)=bF:=by simp
    have vI:(v:Int)<64:=bG
    have hcl:=Gc m.fr v j;have hrl:=HF.2.2 v v64;have rfl2:Hid ((Mv.eJ m k j).refs v<2^59):=hJ (by show k.refs v+Mv.eH m.fr v j<_;omega);have NX:Hid (∀W,du W c r m->UB W b r q m (Mv.eJ m k j)->bO r w W->du (W.setCell ⟨r,1+v*9,bC⟩ (aa bf (((Mv.eJ m k j).refs v+1:Nat):Int))) c r m/\UB (W.setCell ⟨r,1+v*9,bC⟩ (aa bf (((Mv.eJ m k j).refs v+1:Nat):Int))) b r q m (Mv.eJ m k (j+1))/\bO r w (W.setCell ⟨r,1+v*9,bC⟩ (aa bf (((Mv.eJ m k j).refs v+1:Nat):Int)))):=hJ (λW a1 a2 a3=>
     ⟨a1.same (dS _ _ _ _ HC.2.1),⟨a2.me.same (dS _ _ _ _ a2.br),a2.bk.Ue hv v64,a2.br,a2.bq⟩,a3.setCell _ _⟩)
    obtain⟨rv,hrv⟩:=hU ((Mv.eJ m k j).refs v);rw[hrv]at NX rfl2;have CR:Hid (∀W,UB W b r q m (Mv.eJ m k j)->W.cell? ⟨r,1+v*9,bC⟩=bB (aa bf (rv:Int))):=hJ (λW hW=>by rw[<-hrv];exact hW.bk.yB v v64);have rl:=rfl2.v;have hw:IntKind.i64.wrap ((rv:Int)+1)=(rv:Int)+1:=aN _ ⟨by omega,bG⟩;go_upto_region 6 with fail
    refine cR (λW=>(du W c r m/\UB W b r q m (Mv.eJ m k j)/\bO r w W)/\W.heap[wr.heap.size]? =bB (bA #[aa bf (u0:Int),aa bf (v:Int)] 183 (0,0))) ⟨AL.v _,heap_alloc_new wr _⟩ ?_;rintro W2 ⟨h2,x2⟩;have H2:=hJ h2;have d0:=h2.2.1.me.sW;have d1:=cU x2 1 _ rfl;have d2:=CR.v _ h2.2.1;have df:=h2.2.1.bk.frozen;generalize wr.heap.size=bp at*;go_region
    generalize hW:World.drew _=W3;have H3:Hid (du W3 c r m/\UB W3 b r q m (Mv.eJ m k (j+1))/\bO r w W3):=hJ (by
     rw[<-hW];have a:=NX.v W2 H2.1 H2.2.1 H2.2.2;exact⟨a.1.drew,a.2.1.drew,a.2.2.drew⟩)
    go_wp2
    go_roundw
    case rel=>exact⟨j+1,by go_num,bG,H3⟩
    case measure=>simp[intOf];omega
  .have hj16:j=16:=bG
   subst hj16;go_wp2
   go_ret
   rw[HC.1];exact⟨rfl,S.v⟩
