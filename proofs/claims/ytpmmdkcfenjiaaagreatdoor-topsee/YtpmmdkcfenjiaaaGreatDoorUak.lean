import Derived.Test.YtpmmdkcfenjiaaaGreatDoorUae
import Derived.Test.YtpmmdkcfenjiaaaGreatDoorUaj
set_option maxRecDepth 100000
set_option maxHeartbeats 2000000
set_option linter.unusedVariables false
set_option linter.unusedSimpArgs false
namespace Go.Proofs.YtpmmdkcfenjiaaaGreatDoor
open Value renaming int->aa,pointer->ai,slice->aj,tuple->ao,bool->ar,agg->au
open IntKind renaming i64->az,u8->bc
open Ending renaming returned->bf
open Obj renaming cells->bg
open Option renaming some->bh,none->bj
open Tryz (prog)
open Go.RowKit
namespace Mv
structure Me where
 is:Nat->Nat
 fr:Nat->Nat
def kK(a n:Int):Bool:=decide (a<0\/15<a\/n<1\/16-a<n)
def ko(m:Me)(z:Int)(wr:Bool):Bool:=if z<0\/127<z then false else decide (m.is (z.toNat/8)=2)||(decide (m.is (z.toNat/8)=1)&& !wr)
def mY(m:Me)(z:Int):Bool:=ko m z false&&decide (m.fr (z.toNat/8)=0)
def pT(m:Me)(a e:Nat)(wr:Bool):Me:={m with is:=λi=>if a<=i/\i<e then(if wr then 2 else 1)else m.is i}
def anyM(m:Me)(a e:Nat):Bool:=(List.range 16).any (λi=>decide (a<=i/\i<e)&&decide (m.is i≠0))
def allM(m:Me)(a e:Nat):Bool:=(List.range 16).all (λi=> !decide (a<=i/\i<e)||decide (m.is i≠0))
def qX(m:Me)(a n:Int):Int:=if kK a n=true then 1 else if anyM m a.toNat (a.toNat+n.toNat)=true then 3 else 0
def mapM(m:Me)(a n:Int)(wr:Bool):Me:=if qX m a n=0 then pT m a.toNat (a.toNat+n.toNat) wr else m
def qZ(m:Me)(a n:Int):Int:=if kK a n=true then 1 else if allM m a.toNat (a.toNat+n.toNat)=true then 0 else 10
def uq(m:Me)(a n:Int)(wr:Bool):Me:=if qZ m a n=0 then pT m a.toNat (a.toNat+n.toNat) wr else m
def fX(m:Me):Nat->Nat
 |0=>0
 |k+1=>fX m k+if m.fr k=0 then 0 else 1
theorem tn{a n:Int}(h:kK a n=false):∃x k:Nat,a=x/\n=k/\x<16/\1<=k/\x+k<=16:=by
 unfold kK at h;rw[decide_eq_false_iff_not]at h;exact⟨a.toNat,n.toNat,bu,bu,bu,bu,bu⟩
theorem Jt{m:Me}{a i:Nat}{wr:Bool}(hi:a<=i)(x:Nat):(pT m a (i+1) wr).is x=if x=i then(if wr then 2 else 1)else(pT m a i wr).is x:=by
 show(if a<=x/\x<i+1 then(if wr then 2 else 1)else m.is x)=if x=i then(if wr then 2 else 1)else(if a<=x/\x<i then(if wr then 2 else 1)else m.is x);by_cases c:x=i
 .rw[nK,aJ c]
 .rw[aI c];by_cases d:a<=x/\x<i
  .rw[nK,aJ d]
  .rw[nJ,aI d]
theorem Js(m:Me)(a:Nat)(wr:Bool)(x:Nat):(pT m a a wr).is x=m.is x:=by
 show(if a<=x/\x<a then _ else m.is x)=m.is x;rw[nJ]
theorem K7{m:Me}{a e:Nat}(he:e<=16):anyM m a e=true↔∃i,a<=i/\i<e/\m.is i≠0:=by
 unfold anyM;rw[List.any_eq_true];constructor
 .rintro⟨i,_,h⟩;simp only[Bool.and_eq_true,decide_eq_true_eq]at h;exact⟨i,h.1.1,h.1.2,h.2⟩
 .rintro⟨i,h1,h2,h3⟩;exact⟨i,by simp;omega,by simp only[Bool.and_eq_true,decide_eq_true_eq];exact⟨⟨h1,h2⟩,h3⟩⟩
theorem Bg{m:Me}{a e:Nat}(he:e<=16):allM m a e=true↔∀i,a<=i->i<e->m.is i≠0:=by
 unfold allM;rw[List.all_eq_true];constructor
 .intro h i h1 h2;have:=h i (by simp;omega);simp only[Bool.or_eq_true,Bool.not_eq_true',decide_eq_false_iff_not,decide_eq_true_eq]at this;rcases this with c|c
  .exact aZ ⟨h1,h2⟩ c
  .exact c
 .intro h i _;simp only[Bool.or_eq_true,Bool.not_eq_true',decide_eq_false_iff_not,decide_eq_true_eq];by_cases c:a<=i/\i<e
  .exact .inr (h i c.1 c.2)
  .exact .inl c
end Mv
open Mv (Me)
section
variable {w w':bD}{b r:Nat}{m m':Me}{own own':Nat->Bool}
def jK(f:Nat->Nat)(i v:Nat):Nat->Nat:=λj=>if j=i then v else f j
end
theorem By(x:Nat):((x:Int)/8).toNat=x/8:=bu
section
attribute [local go_sem] By
end
theorem vk(m:Me)(k:Nat):Mv.fX m k<=k:=by
 induction k with
 |zero=>exact aL 0
 |succ k ih=>show Mv.fX m k+_<=k+1;split<;>omega
open Bd (P)
namespace Mv
structure Bk where
 cW:P
 dA:Nat->Nat->Int
 refs:Nat->Nat
def Eo(k:Bk)(p:P)(f:Nat):Bk:=⟨p,λg j=>if g=f then 0 else k.dA g j,λg=>if g=f then 1 else k.refs g⟩
def tj(k:Bk)(e:Int)(f:Nat)(k':Bk):Prop:=∃p',Bd.pC k.cW 0 e f p'/\k'=if e=0 then Eo k p' f else{k with cW:=p'}
def jN(k:Bk)(f:Nat):Bk:={k with refs:=λg=>if g=f then k.refs f-1 else k.refs g,cW:=if k.refs f=1 then Bd.kE k.cW f else k.cW}
end Mv
open Mv (Bk)
section
variable {w w':bD}{r q:Nat}{k k':Bk}
def NH(g:Nat->Int):Array Value:=#[aa bc (g 0),aa bc (g 1),aa bc (g 2),aa bc (g 3),aa bc (g 4),aa bc (g 5),aa bc (g 6),aa bc (g 7)]
theorem ov(g:Nat->Int)(j:Nat)(hj:j<8):(NH g)[j]? =bh (aa bc (g j)):=by
 match j,hj with
 |0,_=>rfl
 |1,_=>rfl
 |2,_=>rfl
 |3,_=>rfl
 |4,_=>rfl
 |5,_=>rfl
 |6,_=>rfl
 |7,_=>rfl
end
theorem xq{p p':P}{e:Int}{f:Nat}(h:Bd.pC p 0 e f p'):f<64:=by
 rcases h with⟨_,_,rfl,_⟩|⟨_,_,_,rfl,_⟩|⟨_,h,_,_⟩
 .decide
 .decide
 .exact h.lt
def Mv.Bj:Bk:=⟨Bd.b0,λ_ _=>0,λ_=>0⟩
open Mv (Me Bk)
namespace Mv
def zM(k:Bk)(f g:Nat):Bk:={k with dA:=λa i=>if a=g then k.dA f i else k.dA a i}
def oM(m:Me)(k:Bk)(z:Int)(wr:Bool)(E:Int)(g:Nat)(m':Me)(k':Bk):Prop:=
 (ko m z wr=false/\E=10/\g=0/\m'=m/\k'=k)\/
 (ko m z wr=true/\m.fr (z.toNat/8)≠0/\(wr=false\/k.refs (m.fr (z.toNat/8)-1)=1)/\E=0/\g=m.fr (z.toNat/8)-1/\m'=m/\k'=k)\/
 (ko m z wr=true/\¬(m.fr (z.toNat/8)≠0/\(wr=false\/k.refs (m.fr (z.toNat/8)-1)=1))/\∃k1,tj k E g k1/\
  ((E≠0/\m'=m/\k'=k1)\/(E=0/\m'={m with fr:=jK m.fr (z.toNat/8) (g+1)}/\k'=if m.fr (z.toNat/8)=0 then k1 else jN (zM k1 (m.fr (z.toNat/8)-1) g) (m.fr (z.toNat/8)-1))))
end Mv
structure fC (b r q:Nat)(w w':bD):Prop where
 os:w'.os=w.os
 tape:w'.tape=w.tape
 output:w'.output=w.output
 size:w.heap.size<=w'.heap.size
 block:∀k,k<w.heap.size->k≠b->k≠r->k≠q->w'.heap[k]? =w.heap[k]?
section
variable {b r q:Nat}{u v w:bD}
theorem fC.refl(b r q:Nat)(w:bD):fC b r q w w:=⟨rfl,rfl,rfl,aL _,λ_ _ _ _ _=>rfl⟩
theorem fC.trans(h:fC b r q u v)(k:fC b r q v w):fC b r q u w:=⟨k.os.trans h.os,k.tape.trans h.tape,k.output.trans h.output,aH h.size k.size,λj hj h1 h2 h3=>(k.block j (aD hj h.size) h1 h2 h3).trans (h.block j hj h1 h2 h3)⟩
theorem fC.mem(h:bE b u v):fC b r q u v:=⟨h.os,h.tape,h.output,h.size,λk hk h1 _ _=>h.block k hk h1⟩
theorem fC.Bi(h:iP r q u v):fC b r q u v:=⟨h.os,h.tape,h.output,h.size,λk hk _ h1 h2=>h.block k hk h1 h2⟩
end
section
attribute [local go_sem] By
end
section
attribute [local go_sem] By
theorem JB{m:Me}{z:Int}{wr:Bool}(h:Mv.ko m z wr=true):∃x:Nat,z=x/\x<128:=by
 have hz:¬(z<0\/127<z):=λc=>by unfold Mv.ko at h;rw[aJ c]at h;cases h
 exact⟨z.toNat,bu,bu⟩
end
def Mv.J4(k:Bk)(g j:Nat)(v:Int):Bk:={k with dA:=λa i=>if a=g/\i=j then v else k.dA a i}
theorem Ru(x:Nat):((x:Int)%8).toNat=x%8:=bu
section
attribute [local go_sem] Ru
end
namespace Mv
def ec(fr:Nat->Nat)(f:Nat):Nat->Nat
 |0=>0
 |i+1=>ec fr f i+if fr i=f+1 then 1 else 0
theorem oY{fr fs:Nat->Nat}{f n:Nat}(h:∀i,i<n->fs i=fr i):ec fs f n=ec fr f n:=by
 induction n with
 |zero=>rfl
 |succ n ih=>show ec fs f n+_=ec fr f n+_;rw[ih (λi hi=>h i bu),h n bu]
theorem Lj{fr fs:Nat->Nat}{f n i:Nat}(hi:i<n)(e:fr i=f+1)(h0:fs i=0)(h:∀j,j≠i->fs j=fr j):ec fs f n+1=ec fr f n:=by
 induction n with
 |zero=>omega
 |succ n ih=>
  show ec fs f n+(if fs n=f+1 then 1 else 0)+1=ec fr f n+if fr n=f+1 then 1 else 0;by_cases c:i=n
  .subst c;rw[oY (λj hj=>h j bu),h0,e,nJ,aJ rfl]
  .rw[h n (λd=>c d.symm)];have:=ih bu;omega
theorem Gj{fr fs:Nat->Nat}{f n i:Nat}(e:fr i≠f+1)(h0:fs i=0)(h:∀j,j≠i->fs j=fr j):ec fs f n=ec fr f n:=by
 induction n with
 |zero=>rfl
 |succ n ih=>
  show ec fs f n+_=ec fr f n+_;rw[ih];by_cases c:i=n
  .subst c;rw[h0,nJ,aI e]
  .rw[h n (λd=>c d.symm)]
theorem Bt{fr:Nat->Nat}{f n i:Nat}(hi:i<n)(e:fr i=f+1):1<=ec fr f n:=by
 induction n with
 |zero=>omega
 |succ n ih=>
  show 1<=ec fr f n+if fr n=f+1 then 1 else 0;by_cases c:i=n
  .subst c;rw[aJ e];omega
  .have:=ih bu;omega
structure wZ (m:Me)(k:Bk):Prop where
 inv:Bd.Inv k.cW
 nb:Bd.NB k.cW 64
 le:∀i,i<16->m.fr i<=64
 cL:∀f,f<64->ec m.fr f 16<=k.refs f/\k.refs f<2^59
def ji(m:Me)(a i:Nat):Me:=⟨λx=>if a<=x/\x<i then 0 else m.is x,λx=>if a<=x/\x<i then 0 else m.fr x⟩
def iA(m:Me)(k:Bk)(a:Nat):Nat->Bk
 |0=>k
 |j+1=>if m.fr (a+j)=0 then iA m k a j else jN (iA m k a j) (m.fr (a+j)-1)
def rP(m:Me)(a:Nat):Nat->Nat
 |0=>0
 |j+1=>rP m a j+if m.fr (a+j)=0 then 0 else 1
theorem Sc(m:Me)(a j:Nat):rP m a j<=j:=by
 induction j with
 |zero=>exact aL 0
 |succ j ih=>show rP m a j+_<=j+1;split<;>omega
theorem Gv(a j:Nat){α}(x y:α):(if a<=a+j/\a+j<a+(j+1)then x else y)=x:=nK
theorem y9{a j x:Nat}(h:x≠a+j){α}(u v:α):(if a<=x/\x<a+(j+1)then u else v)=if a<=x/\x<a+j then u else v:=by
 by_cases c:a<=x/\x<a+j
 .rw[aJ c,nK]
 .rw[aI c,nJ]
theorem wZ.step{m:Me}{k:Bk}{a j:Nat}(h:wZ (ji m a (a+j)) (iA m k a j))(hj:a+j<16):wZ (ji m a (a+(j+1))) (iA m k a (j+1)):=by
 have e0:(ji m a (a+j)).fr (a+j)=m.fr (a+j):=nJ;have e1:(ji m a (a+(j+1))).fr (a+j)=0:=Gv a j _ _;have e2:∀x,x≠a+j->(ji m a (a+(j+1))).fr x=(ji m a (a+j)).fr x:=λx hx=>y9 hx _ _;have le:∀i,i<16->(ji m a (a+(j+1))).fr i<=64:=λi hi=>by
  by_cases c:i=a+j
  .subst c;rw[e1];omega
  .rw[e2 i c];exact h.le i hi
 by_cases c:m.fr (a+j)=0
 .have eK:iA m k a (j+1)=iA m k a j:=aJ c;rw[eK];refine⟨h.inv,h.nb,le,λf hf=>?_⟩;rw[oY (fr:=(ji m a (a+j)).fr) (λx _=>by
   by_cases d:x=a+j
   .subst d;rw[e1,e0,c]
   .exact e2 x d)]
  exact h.cL f hf
 .have eK:iA m k a (j+1)=jN (iA m k a j) (m.fr (a+j)-1):=aI c;rw[eK];have l:=h.le (a+j) hj;rw[e0]at l;have ip:Bd.Inv (jN (iA m k a j) (m.fr (a+j)-1)).cW/\Bd.NB (jN (iA m k a j) (m.fr (a+j)-1)).cW 64:=by
   show Bd.Inv (if _ then _ else _)/\Bd.NB (if _ then _ else _) 64;split
   .exact h.inv.QX h.nb _
   .exact⟨h.inv,h.nb⟩
  refine⟨ip.1,ip.2,le,λf hf=>?_⟩;have hc:=h.cL f hf;show _<=(if f=m.fr (a+j)-1 then(iA m k a j).refs (m.fr (a+j)-1)-1 else(iA m k a j).refs f)/\(if f=m.fr (a+j)-1 then(iA m k a j).refs (m.fr (a+j)-1)-1 else(iA m k a j).refs f)<2^59;by_cases d:f=m.fr (a+j)-1
  .have:=Lj (f:=f) hj (by rw[e0];omega) e1 e2;rw[aJ d,<-d];omega
  .rw[aI d,Gj (fr:=(ji m a (a+j)).fr) (by rw[e0];omega) e1 e2];exact hc
end Mv
theorem Dh{m:Me}{a j x:Nat}(h:x≠a+j):(Mv.ji m a (a+(j+1))).is x=(Mv.ji m a (a+j)).is x/\(Mv.ji m a (a+(j+1))).fr x=(Mv.ji m a (a+j)).fr x:=⟨Mv.y9 h _ _,Mv.y9 h _ _⟩
theorem Kh(m:Me)(a j:Nat):(Mv.ji m a (a+(j+1))).is (a+j)=0/\(Mv.ji m a (a+(j+1))).fr (a+j)=0:=⟨Mv.Gv a j _ _,Mv.Gv a j _ _⟩
def Mv.qP(a n:Int):Int:=if kK a n=true then 1 else 0
def Mv.yo(m:Me)(a n:Int):Nat:=if kK a n=true then 0 else rP m a.toNat n.toNat
def Mv.oV(m:Me)(a n:Int):Me:=if kK a n=true then m else ji m a.toNat (a.toNat+n.toNat)
def Mv.oU(m:Me)(k:Bk)(a n:Int):Bk:=if kK a n=true then k else iA m k a.toNat n.toNat
def mL(q:Nat)(k:Bk)(o:Nat):Value:=if o=0 then ai (bh ⟨q,0,bj⟩)else if(o-1)%9=0 then aa az (k.refs ((o-1)/9):Int)else aa bc (k.dA ((o-1)/9) ((o-1)%9-1))
structure dz (w:bD)(r q:Nat)(k:Bk):Prop where
 cU:∃C,w.heap[r]? =bh (bg C 219 (0,0))/\C.size=577
 cell:∀o,o<577->w.cell? ⟨r,o,bj⟩=bh (mL q k o)
 cW:dP w q k.cW
 ne:q≠r
section
variable {w w':bD}{r q:Nat}{k k':Bk}
theorem dz.drew(h:dz w r q k):dz w.drew r q k:=⟨h.cU,h.cell,h.cW.drew,h.ne⟩
theorem dz.frozen(h:dz w r q k)(o:Nat):w.frozen? ⟨r,o,bj⟩=false:=by obtain⟨C,h1,_⟩:=h.cU;exact cv h1 o
theorem dz.lt(h:dz w r q k):r<w.heap.size:=by obtain⟨C,h1,_⟩:=h.cU;exact(aX.1 h1).1
theorem dz.Cm(h:dz w r q k):q<w.heap.size:=h.cW.lt
theorem dz.same(h:dz w r q k)(e:w'.heap[r]? =w.heap[r]?)(e2:w'.heap[q]? =w.heap[q]?):dz w' r q k:=⟨by rw[e];exact h.cU,λo ho=>(aV e).trans (h.cell o ho),h.cW.same e2,h.ne⟩
theorem dz.below(h:dz w r q k)(b:Below w.heap.size w w'):dz w' r q k:=h.same (b.block r h.lt) (b.block q h.Cm)
theorem dz.Dv(h:dz w r q k){p:P}(f:bE q w w')(kp:dP w' q p):dz w' r q {k with cW:=p}:=by
 have e:=f.block r h.lt (bQ h.ne);exact⟨by rw[e];exact h.cU,λo ho=>(aV e).trans (h.cell o ho),kp,h.ne⟩
theorem dz.cP(h:dz w r q k):w.cell? ⟨r,0,bj⟩=bh (ai (bh ⟨q,0,bj⟩)):=h.cell 0 bu
theorem dz.cB(h:dz w r q k)(f j:Nat)(hf:f<64)(hj:j<8):w.cell? ⟨r,1+f*9+1+j,bj⟩=bh (aa bc (k.dA f j)):=by
 rw[h.cell _ bu,mL,nJ,nJ,show(1+f*9+1+j-1)/9=f by omega,show(1+f*9+1+j-1)%9-1=j by omega]
theorem dz.xC(h:dz w r q k)(f:Nat)(hf:f<64):w.cell? ⟨r,1+f*9,bj⟩=bh (aa az (k.refs f:Int)):=by
 rw[h.cell _ bu,mL,nJ,nK,show(1+f*9-1)/9=f by omega]
theorem dP.Eu{p:P}(h:dP w q p)(hne:q≠r)(o:Nat)(v:Value):dP (w.setCell ⟨r,o,bj⟩ v) q p:=h.same (dJ _ _ _ _ hne)
theorem dz.set(h:dz w r q k)(o:Nat)(ho:o<577)(v:Value)(hp:k'.cW=k.cW)(hv:∀i,i<577->mL q k' i=if i=o then v else mL q k i):dz (w.setCell ⟨r,o,bj⟩ v) r q k':=by
 obtain⟨C,h1,h2⟩:=h.cU;refine⟨⟨_,cE h1 _ v,by simpa using h2⟩,λi hi=>?_,by rw[hp];exact h.cW.Eu h.ne o v,h.ne⟩;rw[hv i hi];by_cases e:i=o
 .subst e;rw[du h1 _ v bu,aJ rfl]
 .rw[da h1 _ _ v (bQ e),aI e];exact h.cell i hi
theorem dz.rI(h:dz w r q k)(f v:Nat)(hf:f<64):dz (w.setCell ⟨r,1+f*9,bj⟩ (aa az (v:Int))) r q {k with refs:=λg=>if g=f then v else k.refs g}:=by
 refine h.set (1+f*9) bu _ rfl (λx hx=>?_);unfold mL;by_cases c0:x=0
 .rw[aJ c0,aJ c0,nJ]
 .rw[aI c0,aI c0];by_cases c:(x-1)%9=0
  .rw[aJ c,aJ c];by_cases e:x=1+f*9
   .rw[aJ e];simp[show(x-1)/9=f by omega]
   .rw[aI e];simp[show(x-1)/9≠f by omega]
  .rw[aI c,aI c,nJ]
theorem dz.T6(h:dz w r q k)(f j:Nat)(v:Int)(hf:f<64)(hj:j<8):dz (w.setCell ⟨r,1+f*9+1+j,bj⟩ (aa bc v)) r q (Mv.J4 k f j v):=by
 refine h.set (1+f*9+1+j) bu _ rfl (λx hx=>?_);unfold mL Mv.J4;by_cases c0:x=0
 .rw[aJ c0,aJ c0,nJ]
 .rw[aI c0,aI c0];by_cases c:(x-1)%9=0
  .rw[aJ c,aJ c,nJ]
  .rw[aI c,aI c];by_cases e:x=1+f*9+1+j
   .rw[aJ e];simp[show(x-1)/9=f by omega,show(x-1)%9-1=j by omega]
   .rw[aI e];simp[show¬((x-1)/9=f/\(x-1)%9-1=j)by omega]
def xK(n:Int)(g:Nat->Int):Array Value:=#[aa az n,aa bc (g 0),aa bc (g 1),aa bc (g 2),aa bc (g 3),aa bc (g 4),aa bc (g 5),aa bc (g 6),aa bc (g 7)]
theorem lM(n:Int)(g:Nat->Int)(j:Nat)(hj:j<9):(xK n g)[j]? =bh (if j=0 then aa az n else aa bc (g (j-1))):=by
 match j,hj with
 |0,_=>rfl
 |1,_=>rfl
 |2,_=>rfl
 |3,_=>rfl
 |4,_=>rfl
 |5,_=>rfl
 |6,_=>rfl
 |7,_=>rfl
 |8,_=>rfl
def Mv.wF(k:Bk)(f n:Nat)(g:Nat->Int):Bk:={k with dA:=λa i=>if a=f then g i else k.dA a i,refs:=λa=>if a=f then n else k.refs a}
theorem dz.Nc(h:dz w r q k)(f n:Nat)(hf:f<64)(g:Nat->Int):dz (w.setCells r (1+f*9) (xK (n:Int) g).toList) r q (Mv.wF k f n g):=by
 obtain⟨C,h1,h2⟩:=h.cU;have ht:∀j,j<9->(w.cell? ⟨r,1+f*9+j,bj⟩).isSome=true:=λj hj=>by rw[h.cell _ bu];rfl
 have hs:(xK (n:Int) g).toList.length=9:=rfl;obtain⟨C',k1,k2⟩:=dY r (xK (n:Int) g).toList (1+f*9) w C h1;refine⟨⟨C',k1,bu⟩,λx hx=>?_,h.cW.same (lY r _ _ _ _ h.ne),h.ne⟩;by_cases c:1+f*9<=x/\x<1+f*9+9
 .obtain⟨j,rfl,hj⟩:∃j,x=1+f*9+j/\j<9:=⟨x-(1+f*9),bu,bu⟩;rw[aS r (xK (n:Int) g).toList (1+f*9) w (λi hi=>ht i bu) j bu,<-aW bu,aM,lM _ g j hj];unfold mL Mv.wF;rw[aI (show¬1+f*9+j=0 by omega),show(1+f*9+j-1)/9=f by omega,show(1+f*9+j-1)%9=j by omega];simp
 .rw[aA r _ (1+f*9) w ⟨r,x,bj⟩ (λ_ _=>by rw[hs];show x<_\/_<=x;omega),h.cell x hx];unfold mL Mv.wF;by_cases c0:x=0
  .rw[aJ c0,aJ c0]
  .rw[aI c0,aI c0];simp[show(x-1)/9≠f by omega]
end
def kC(r:Nat)(m:Me)(o:Nat):Value:=if o=0 then ai (bh ⟨r,0,bj⟩)else if(o-1)%2=0 then aa az (m.is ((o-1)/2):Int)else aa az ((m.fr ((o-1)/2):Int)-1)
structure cY (w:bD)(b r:Nat)(m:Me):Prop where
 cU:∃C,w.heap[b]? =bh (bg C 186 (0,0))/\C.size=33
 cell:∀o,o<33->w.cell? ⟨b,o,bj⟩=bh (kC r m o)
section
variable {w w':bD}{b r:Nat}{m m':Me}
theorem cY.drew(h:cY w b r m):cY w.drew b r m:=⟨h.cU,h.cell⟩
theorem cY.frozen(h:cY w b r m)(o:Nat):w.frozen? ⟨b,o,bj⟩=false:=by obtain⟨C,h1,_⟩:=h.cU;exact cv h1 o
theorem cY.lt(h:cY w b r m):b<w.heap.size:=by obtain⟨C,h1,_⟩:=h.cU;exact(aX.1 h1).1
theorem cY.same(h:cY w b r m)(e:w'.heap[b]? =w.heap[b]?):cY w' b r m:=⟨by rw[e];exact h.cU,λo ho=>(aV e).trans (h.cell o ho)⟩
theorem cY.below(h:cY w b r m)(k:Below w.heap.size w w'):cY w' b r m:=h.same (k.block b h.lt)
theorem cY.congr(h:cY w b r m)(e:∀n,n<16->m'.is n=m.is n/\m'.fr n=m.fr n):cY w b r m':=⟨h.cU,λo ho=>by
 rw[h.cell o ho];unfold kC;by_cases c:o=0
 .rw[aJ c,aJ c]
 .rw[aI c,aI c,(e _ bu).1,(e _ bu).2]⟩
theorem cY.r9(h:cY w b r m):w.cell? ⟨b,0,bj⟩=bh (ai (bh ⟨r,0,bj⟩)):=h.cell 0 bu
theorem cY.Tp(h:cY w b r m)(i:Nat)(hi:i<16):w.cell? ⟨b,1+i*2,bj⟩=bh (aa az (m.is i:Int)):=by
 rw[h.cell _ bu,kC,nJ,nK,show(1+i*2-1)/2=i by omega]
theorem cY.vE(h:cY w b r m)(i:Nat)(hi:i<16):w.cell? ⟨b,1+i*2+1,bj⟩=bh (aa az ((m.fr i:Int)-1)):=by
 rw[h.cell _ bu,kC,nJ,nJ,show(1+i*2+1-1)/2=i by omega]
theorem cY.set(h:cY w b r m)(o:Nat)(ho:o<33)(v:Value)(hv:∀i,i<33->kC r m' i=if i=o then v else kC r m i):cY (w.setCell ⟨b,o,bj⟩ v) b r m':=by
 obtain⟨C,h1,h2⟩:=h.cU;refine⟨⟨_,cE h1 _ v,by simpa using h2⟩,λi hi=>?_⟩;rw[hv i hi];by_cases e:i=o
 .subst e;rw[du h1 _ v bu,aJ rfl]
 .rw[da h1 _ _ v (bQ e),aI e];exact h.cell i hi
theorem cY.Ot(h:cY w b r m)(i v:Nat)(hi:i<16):cY (w.setCell ⟨b,1+i*2,bj⟩ (aa az (v:Int))) b r {m with is:=jK m.is i v}:=by
 refine h.set (1+i*2) bu _ (λx hx=>?_);unfold kC jK;by_cases c0:x=0
 .rw[aJ c0,aJ c0,nJ]
 .rw[aI c0,aI c0];by_cases c:(x-1)%2=0
  .rw[aJ c,aJ c];by_cases e:x=1+i*2
   .rw[aJ e];simp[show(x-1)/2=i by omega]
   .rw[aI e];simp[show(x-1)/2≠i by omega]
  .rw[aI c,aI c,nJ]
theorem cY.AX(h:cY w b r m)(i v:Nat)(hi:i<16)(u:Int)(hu:u=(v:Int)-1):cY (w.setCell ⟨b,1+i*2+1,bj⟩ (aa az u)) b r {m with fr:=jK m.fr i v}:=by
 subst hu;refine h.set (1+i*2+1) bu _ (λx hx=>?_);unfold kC jK;by_cases c0:x=0
 .rw[aJ c0,aJ c0,nJ]
 .rw[aI c0,aI c0];by_cases c:(x-1)%2=0
  .rw[aJ c,aJ c,nJ]
  .rw[aI c,aI c];by_cases e:x=1+i*2+1
   .rw[aJ e];simp[show(x-1)/2=i by omega]
   .rw[aI e];simp[show(x-1)/2≠i by omega]
end
structure UB (w:bD)(b r q:Nat)(m:Me)(k:Bk):Prop where
 me:cY w b r m
 bk:dz w r q k
 br:b≠r
 bq:b≠q
section
variable {b r q:Nat}{u v w:bD}
theorem dz.lN{k:Bk}(h:dz u r q k)(f:bE b u v)(h1:b≠r)(h2:b≠q):dz v r q k:=h.same (f.block r h.lt (bQ h1)) (f.block q h.Cm (bQ h2))
theorem cY.two{m:Me}(h:cY u b r m)(f:iP r q u v)(h1:b≠r)(h2:b≠q):cY v b r m:=h.same (f.block b h.lt h1 h2)
theorem UB.below{m:Me}{k:Bk}(h:UB u b r q m k)(f:Below u.heap.size u v):UB v b r q m k:=⟨h.me.below f,h.bk.below f,h.br,h.bq⟩
theorem UB.drew{m:Me}{k:Bk}(h:UB u b r q m k):UB u.drew b r q m k:=⟨h.me.drew,h.bk.drew,h.br,h.bq⟩
theorem fC.drew(h:fC b r q u v):fC b r q u v.drew:=⟨h.os,h.tape,h.output,h.size,h.block⟩
theorem fC.below(h:Below u.heap.size u v):fC b r q u v:=⟨h.os,h.tape,h.output,h.size,λk hk _ _ _=>h.block k hk⟩
end
def Dn:Array Value:=((List.range 577).map λi=>if i=0 then ai bj else if(i-1)%9=0 then aa az 0 else aa .u8 0).toArray
theorem Tj:Tryz.zeroCells219=Dn:=by kernel_rfl
theorem Ti(i:Nat)(h:i<577):Dn[i]? =bh (if i=0 then ai bj else if(i-1)%9=0 then aa az 0 else aa .u8 0):=by simp[Dn,h]
theorem Th{w:bD}{r q:Nat}(h:w.heap[r]? =bh (bg (Dn.setIfInBounds 0 (ai (bh ⟨q,0,bj⟩))) 219 (0,0)))(hp:dP w q Bd.b0)(hne:q≠r):dz w r q Mv.Bj:=by
 refine⟨⟨_,h,by simp[Dn]⟩,λo ho=>?_,hp,hne⟩;rw[bO h];unfold mL;by_cases c:o=0
 .subst c;rw[aE (by simp[Dn]),aJ rfl]
 .rw[aU bu,Ti o ho,aI c,aI c];split<;>rfl
theorem Dl(w:bD):Calls prog 86 #[] w λe w'=>∃r,e=bf (ai (bh ⟨r,0,bj⟩))/\dz w' r w.heap.size Mv.Bj/\Below w.heap.size w w'/\w.heap.size<r:=by
 go_in
 go_wp2_with fail
 refine sC (Li _) ?_;rintro w1 ⟨hk,hb,hs⟩;have FIN:Hid (dz (w1.alloc (bg (Tryz.zeroCells219.setIfInBounds 0 (ai (bh ⟨w.heap.size,0,bj⟩))) 219)) w1.heap.size w.heap.size Mv.Bj/\Below w.heap.size w (w1.alloc (bg (Tryz.zeroCells219.setIfInBounds 0 (ai (bh ⟨w.heap.size,0,bj⟩))) 219))/\w.heap.size<w1.heap.size):=hJ (by
  rw[Tj];have bb:Below w1.heap.size w1 (w1.alloc (bg (Dn.setIfInBounds 0 (ai (bh ⟨w.heap.size,0,bj⟩))) 219)):=(aQ _ _).alloc (aL _) _;exact⟨Th (heap_alloc_new w1 _) (hk.same (bb.block _ hs)) bu,hb.alloc bu _,hs⟩)
 go_wp2
 go_ret
 exact⟨_,rfl,FIN.v⟩
theorem yv(r q f:Nat)(k:Bk)(w:bD)(h:dz w r q k)(hf:f<64)(hI:Bd.Inv k.cW)(h1:1<=k.refs f)(h2:k.refs f<2^60):
  Calls prog 228 #[ai (bh ⟨r,0,bj⟩),aa az f] w λe w'=>e=bf (ao #[])/\dz w' r q (Mv.jN k f)/\iP r q w w':=by
 have HI:=hJ hI;have c1:=h.xC f hf;have cf:=h.frozen;have fI:(f:Int)<64:=bu
 obtain⟨n,hn⟩:∃n,k.refs f=n+1:=⟨k.refs f-1,bu⟩;have S1:Hid (dz ((w.setCell ⟨r,1+f*9,bj⟩ (aa az (n:Int))).drew) r q {k with refs:=λg=>if g=f then n else k.refs g}/\iP r q w ((w.setCell ⟨r,1+f*9,bj⟩ (aa az (n:Int))).drew)):=hJ ⟨(h.rI f n hf).drew,((iP.refl r q w).left ((bE.refl r w).setCell _ _)).drew⟩;have HD:Hid (Mv.jN k f={k with refs:=λg=>if g=f then n else k.refs g,cW:=if n=0 then Bd.kE k.cW f else k.cW}):=hJ (by
  unfold Mv.jN;rw[hn,show n+1-1=n from rfl];cases n<;>rfl)
 rw[hn]at c1 h2;have hw:IntKind.i64.wrap (((n+1:Nat):Int)-1)=(n:Int):=by rw[aN _ ⟨by omega,bu⟩];omega
 go_in
 go_wp2_with fail
 go_region
 generalize hW1:World.drew _=W1;have S2:Hid (dz W1 r q {k with refs:=λg=>if g=f then n else k.refs g}/\iP r q w W1):=hJ (by rw[<-hW1];exact S1.v);have d1:W1.cell? ⟨r,1+f*9,bj⟩=bh (aa az (n:Int)):=by
  have:=S2.1.xC f hf;rw[this];show bh (aa az (((if f=f then n else k.refs f):Nat):Int))=_;rw[aJ rfl]
 have d0:=S2.1.cP;by_cases e0:n=0
 .subst e0;have d1':W1.cell? ⟨r,1+f*9,bj⟩=bh (aa .i64 0):=d1;go_wp2_with fail
  refine sC (IB q f k.cW _ S2.1.cW HI.v) ?_;rintro w2 ⟨kp,F⟩;have S3:Hid (dz w2 r q (Mv.jN k f)/\iP r q w w2):=hJ ⟨by rw[HD.v];exact S2.1.Dv F kp,S2.2.right F⟩;go_wp2_with fail
  go_end0
  exact⟨rfl,S3.v⟩
 .have e0':((n:Int)==0)=false:=by simp;omega
  have S3:Hid (dz W1 r q (Mv.jN k f)/\iP r q w W1):=hJ ⟨by rw[HD.v,aI e0];exact S2.1,S2.2⟩;go_wp2_with fail
  go_end0
  exact⟨rfl,S3.v⟩
def Mv.FQ(k:Bk)(g:Nat->Int)(e:Int)(f:Nat)(k':Bk):Prop:=∃p',Bd.pC k.cW 0 e f p'/\k'=if e=0 then Mv.wF {k with cW:=p'} f 1 g else{k with cW:=p'}
theorem Ao(r q:Nat)(g:Nat->Int)(k:Bk)(w:bD)(h:dz w r q k)(hI:Bd.Inv k.cW)(hN:Bd.NB k.cW 64):
  Calls prog 273 #[ai (bh ⟨r,0,bj⟩),au (NH g)] w λe w'=>∃(f:Nat) (E:Int) (k':Bk),e=bf (ao #[aa az f,bG E])/\Mv.FQ k g E f k'/\dz w' r q k'/\iP r q w w':=by
 have HI:=hJ (aK hI hN);have HF:Hid (∀C,dz (w.alloc (bg C 214)) r q k/\Below w.heap.size w (w.alloc (bg C 214))):=hJ (λC=>⟨h.below ((aQ _ _).alloc (aL _) _),(aQ _ _).alloc (aL _) _⟩);have HL:=hJ (aK h.lt h.Cm);go_in
 go_upto_region 1 with fail
 refine cG (λW=>dz W r q k/\Below w.heap.size w W/\W.heap[w.heap.size]? =bh (bg (NH g) 214 (0,0))) ⟨(HF.v _).1,(HF.v _).2,heap_alloc_new w _⟩ ?_;rintro W1 ⟨h1,b1,x1⟩;have NE:Hid (w.heap.size≠r/\w.heap.size≠q):=hJ (by have:=HL.v;omega);have H1:=hJ (aK h1 (aK b1 x1));obtain⟨bx,hbx⟩:=hU (w.heap.size);have HS:=hJ hbx;rw[hbx]at H1 NE;rw[hbx];have c0:=h1.cP;go_wp2_with fail
 refine(IN q 0 k.cW _ H1.1.cW HI.1 HI.2).mono ?_;rintro e w1 ⟨f,E,p',rfl,ht,kp,F⟩;have hf:=xq ht;have h1:Hid (dz w1 r q {k with cW:=p'}):=hJ (H1.1.Dv F kp);have HB:Hid (iP r q w w1):=hJ ⟨F.os.trans H1.2.1.os,F.tape.trans H1.2.1.tape,F.output.trans H1.2.1.output,aH H1.2.1.size F.size,λj hj _ h3=>(F.block j (aD hj H1.2.1.size) h3).trans (H1.2.1.block j (by have:=HS.v;omega))⟩;have HT:=hJ ht;have x2:w1.heap[bx]? =bh (bg (NH g) 214 (0,0)):=(F.block bx (aX.1 H1.2.2).1 NE.2).trans H1.2.2;by_cases e0:E=0
 .subst e0;have fI:(f:Int)<64:=bu
  have l0:w1.cell? ⟨bx,0,bj⟩=bh (aa bc (g 0)):=cH x2 0 _ (ov g 0 bu);have l1:=cH x2 1 _ (ov g 1 bu);have l2:=cH x2 2 _ (ov g 2 bu);have l3:=cH x2 3 _ (ov g 3 bu);have l4:=cH x2 4 _ (ov g 4 bu);have l5:=cH x2 5 _ (ov g 5 bu);have l6:=cH x2 6 _ (ov g 6 bu);have l7:=cH x2 7 _ (ov g 7 bu);have s0:=h1.xC f hf;have s1:w1.cell? ⟨r,1+f*9+1,bj⟩=bh (aa bc (k.dA f 0)):=h1.cB f 0 hf bu;have s2:w1.cell? ⟨r,1+f*9+2,bj⟩=bh (aa bc (k.dA f 1)):=h1.cB f 1 hf bu;have s3:w1.cell? ⟨r,1+f*9+3,bj⟩=bh (aa bc (k.dA f 2)):=h1.cB f 2 hf bu;have s4:w1.cell? ⟨r,1+f*9+4,bj⟩=bh (aa bc (k.dA f 3)):=h1.cB f 3 hf bu;have s5:w1.cell? ⟨r,1+f*9+5,bj⟩=bh (aa bc (k.dA f 4)):=h1.cB f 4 hf bu;have s6:w1.cell? ⟨r,1+f*9+6,bj⟩=bh (aa bc (k.dA f 5)):=h1.cB f 5 hf bu;have s7:w1.cell? ⟨r,1+f*9+7,bj⟩=bh (aa bc (k.dA f 6)):=h1.cB f 6 hf bu;have s8:w1.cell? ⟨r,1+f*9+8,bj⟩=bh (aa bc (k.dA f 7)):=h1.cB f 7 hf bu;have fz:=h1.frozen;rw[bB];go_wp2_with fail
  go_region
  generalize hW:World.drew _=W2;have S2:Hid (dz W2 r q (Mv.wF {k with cW:=p'} f 1 g)/\bE r w1 W2):=hJ (by
   rw[<-hW];have a:dz (w1.setCells r (1+f*9) (xK ((1:Nat):Int) g).toList).drew r q (Mv.wF {k with cW:=p'} f 1 g):=(h1.Nc f 1 hf g).drew;have b:bE r w1 (w1.setCells r (1+f*9) (xK ((1:Nat):Int) g).toList).drew:=(bE.setCells _ _ (bE.refl r w1)).drew;exact⟨a,b⟩)
  go_wp2
  go_ret2
  exact⟨f,0,_,rfl,⟨p',HT.v,by rw[aJ rfl]⟩,S2.1,HB.left S2.2⟩
 .rw[bC e0];have r0:f=0:=by
   rcases ht with⟨_,_,c,_⟩|⟨_,_,_,c,_⟩|⟨_,_,c,_⟩
   .exact c
   .exact c
   .exact aZ c e0
  have HE:=hJ e0;subst r0;go_wp2
  go_ret2
  exact⟨0,E,_,by rw[bC HE.v];rfl,⟨p',HT.v,by rw[aI HE.v]⟩,h1.v,HB.v⟩
section
attribute [local go_sem] By
theorem nS(b r:Nat)(z:Int)(wr:Bool)(m:Me)(w:bD)(h:cY w b r m):
  Calls prog 182 #[ai (bh ⟨b,0,bj⟩),aa az z,ar wr] w λe w'=>e=bf (ar (Mv.ko m z wr))/\Below w.heap.size w w':=by
 have BL:Hid (∀o,Below w.heap.size w (w.alloc o)):=hJ (λo=>(aQ _ _).alloc (aL _) o);by_cases k:z<0\/127<z
 .have HE:Hid (Mv.ko m z wr=false):=hJ (aJ k);by_cases h0:z<0
  .clear k h;go_in
   go_wp2
   go_ret
   exact⟨cQ HE.symm,aQ _ _⟩
  .have h1:decide (z<0)=false:=aT h0;have h2:128<=z:=bu
   go_in
   go_wp2
   go_ret
   exact⟨cQ HE.symm,aQ _ _⟩
 .obtain⟨x,rfl⟩:=aG (show 0<=z by omega);have h2:decide (128<=(x:Int))=false:=by simp;omega
  have c1:=h.Tp (x/8) bu;have c2:=h.vE (x/8) bu;have h8:(x:Int)/8<16:=bu
  have h80:(0:Int)<=(x:Int)/8:=bu
  have HE:Hid (Mv.ko m x wr=(decide (m.is (x/8)=2)||(decide (m.is (x/8)=1)&& !wr))):=hJ (by unfold Mv.ko;rw[aI k,hZ]);obtain⟨u,hu⟩:=hU (m.is (x/8));rw[hu]at c1 HE;by_cases e2:u=2
  .subst e2;go_in
   go_wp2
   go_ret
   exact⟨cQ (by rw[HE.v];rfl),BL.v _⟩
  .have e2':((u:Int)==2)=false:=by simp;omega
   by_cases e1:u=1
   .subst e1;cases wr
    .go_in
     go_wp2
     go_ret
     exact⟨cQ (by rw[HE.v];rfl),BL.v _⟩
    .go_in
     go_wp2
     go_ret
     exact⟨cQ (by rw[HE.v];rfl),BL.v _⟩
   .have e1':((u:Int)==1)=false:=by simp;omega
    go_in
    go_wp2
    go_ret
    exact⟨cQ (by rw[HE.v,aT e2,aT e1];rfl),BL.v _⟩
theorem yz(b r:Nat)(z:Int)(m:Me)(w:bD)(h:cY w b r m):
  Calls prog 183 #[ai (bh ⟨b,0,bj⟩),aa az z] w λe w'=>e=bf (ar (Mv.mY m z))/\Below w.heap.size w w':=by
 have HF:=hJ h;cases hm:Mv.ko m z false
 .have HE:Hid (Mv.mY m z=false/\Mv.ko m z false=false):=hJ ⟨by unfold Mv.mY;rw[hm];rfl,hm⟩;go_in
  go_wp2_with fail
  refine sC (nS b r z false m _ HF.v) ?_;rintro w1 hb;have HB:=hJ hb;rw[HE.2];go_wp2
  go_ret
  exact⟨cQ HE.1.symm,HB.v⟩
 .have hz:¬(z<0\/127<z):=λc=>by unfold Mv.ko at hm;rw[aJ c]at hm;cases hm
  obtain⟨x,rfl⟩:=aG (show 0<=z by omega);have h8:(x:Int)/8<16:=bu
  have h80:(0:Int)<=(x:Int)/8:=bu
  have HX:Hid (x/8<16):=hJ bu;have HE:Hid (Mv.mY m x=decide (m.fr (x/8)=0)/\Mv.ko m x false=true):=hJ ⟨by unfold Mv.mY;rw[hm,hZ];rfl,hm⟩;go_in
  go_wp2_with fail
  refine sC (nS b r x false m _ HF.v) ?_;rintro w1 hb;have c1:=(HF.below hb).vE (x/8) HX.v;have HB:=hJ hb;rw[HE.2];obtain⟨u,hu⟩:=hU (m.fr (x/8));rw[hu]at c1 HE;by_cases e0:u=0
  .subst e0;have c1':w1.cell? ⟨b,1+x/8*2+1,bj⟩=bh (aa az (-1)):=c1;go_wp2
   go_ret
   exact⟨cQ (by rw[HE.1];rfl),HB.v⟩
  .have e0':((u:Int)-1== -1)=false:=by simp;omega
   go_wp2
   go_ret
   exact⟨cQ (by rw[HE.1,aT e0]),HB.v⟩
end
def rowP(m:Me):List Value:=(List.range 32).map λo=>if o%2=0 then aa az (m.is (o/2):Int)else aa az ((m.fr (o/2):Int)-1)
theorem CM(m:Me):(rowP m).length=32:=by simp[rowP]
theorem cY.range{w:bD}{b r:Nat}{m:Me}(h:cY w b r m):w.rangeAt b 1 (rowP m):=λj v hv=>by
 have hj:j<32:=by have:=(aY.1 hv).1;rwa [CM]at this
 simp[rowP,hj]at hv;rw[h.cell _ bu,<-hv];unfold kC;rw[nJ,show 1+j-1=j by omega]
theorem Qd(m:Me)(x:Nat)(h:x<16):(rowP m).toArray.extract (x*2) (x*2+2)=#[aa az (m.is x:Int),aa az ((m.fr x:Int)-1)]:=by
 have hs:(rowP m).toArray.size=32:=by simp[rowP]
 apply bL;intro i;rw[Array.getElem?_extract];by_cases hi:i<2
 .rw[aJ (by rw[hs];omega)];have e:(rowP m).toArray[x*2+i]? =bh (if(x*2+i)%2=0 then aa az (m.is ((x*2+i)/2):Int)else aa az ((m.fr ((x*2+i)/2):Int)-1)):=by
   simp[rowP,show x*2+i<32 by omega]
  rw[e,show(x*2+i)/2=x by omega]
  match i,hi with
  |0,_=>rw[nK];rfl
  |1,_=>rw[nJ];rfl
 .rw[aI (by rw[hs];omega),aR (by simp;omega)]
theorem xL(m:Me)(x:Nat)(h:x<16)(w:bD):Sem.run prog (Instr.index 184 (au (rowP m).toArray) (aa az x)) w= .ok (au #[aa az (m.is x:Int),aa az ((m.fr x:Int)-1)]) w:=by
 have hu:prog.underlying 184=bh (.array 16 183):=by kernel_rfl
 have hx:=Qd m x h;have h1:(x:Int)<16:=bu
 obtain⟨A,hA⟩:=hU ((rowP m).toArray);rw[hA]at hx|-;simp[Instr.index,Sem.run_bind,run_underlying hu,go_sem,hx];intro c;omega
theorem Ah(m:Me):(prog.info? 184).map (·.size)=bh (rowP m).length:=by rw[CM];kernel_rfl
theorem oQ(b r:Nat)(m:Me)(w:bD)(h:cY w b r m):
  Calls prog 64 #[ai (bh ⟨b,0,bj⟩)] w λe w'=>e=bf (aa az (Mv.fX m 16:Int))/\Below w.heap.size w w':=by
 have hsz:=hJ (Ah m);have HR:=hJ h.range;go_in
 go_wp2_with (refine wpList_load_mid rfl 184 _ rfl b 1 rfl (rowP m) (.array 16 183) HR.v bw rfl hsz.v ?_)
 go_loopw [3,10] (λs i wr=>∃(k:Nat),i=aa az k/\s=aa az (Mv.fX m k:Int)/\k<=16/\Hid (Below w.heap.size w wr)) (λ_ i _=>16-(intOf i).toNat)
 case atStart=>exact⟨0,rfl,rfl,bu,aQ _ _⟩
 case round=>
  obtain⟨k,rfl,rfl,hk,T⟩:=hrel;by_cases hlt:k<16
  .have hltI:(k:Int)<16:=bu
   have hix:=xL m k hlt;have LS:Hid (Mv.fX m (k+1)=Mv.fX m k+if m.fr k=0 then 0 else 1):=hJ rfl;have BL:Hid (∀o,Below w.heap.size w (wr.alloc o)):=hJ (λo=>T.alloc T.size o);have lb:=vk m k;generalize m.is k=u0 at*;generalize m.fr k=u at*;by_cases e1:u=0
   .have LE:Hid (Mv.fX m (k+1)=Mv.fX m k):=hJ (by rw[LS.v,aJ e1];rfl);subst e1;go_wp2
    go_roundw
    case rel=>exact⟨k+1,by go_num,by rw[LE.v],bu,BL.v _⟩
    case measure=>simp[intOf];omega
   .have LE:Hid (Mv.fX m (k+1)=Mv.fX m k+1):=hJ (by rw[LS.v,aI e1]);have e1':((u:Int)-1== -1)=false:=by simp;omega
    generalize Mv.fX m k=lk at*;go_wp2
    go_roundw
    case rel=>exact⟨k+1,by go_num,by rw[LE.v];go_num,bu,BL.v _⟩
    case measure=>simp[intOf];omega
  .have hk64:k=16:=bu
   subst hk64;go_wp2
   go_ret
   exact⟨rfl,T.v⟩
structure qo (m:Me)(k:Bk):Prop where
 inv:Bd.Inv k.cW
 nb:Bd.NB k.cW 64
 le:∀i,i<16->m.fr i<=64
 held:∀i,i<16->m.fr i≠0->1<=k.refs (m.fr i-1)/\k.refs (m.fr i-1)<2^59
 hold:∀f,f<64->1<=k.refs f->k.cW.tk f=true
def Mv.KX(m:Me)(k:Bk)(n:Nat)(wr:Bool)(E:Int)(g:Nat)(m':Me)(k':Bk):Prop:=
 (m.fr n≠0/\(wr=false\/k.refs (m.fr n-1)=1)/\E=0/\g=m.fr n-1/\m'=m/\k'=k)\/
 (¬(m.fr n≠0/\(wr=false\/k.refs (m.fr n-1)=1))/\∃k1,Mv.tj k E g k1/\
  ((E≠0/\m'=m/\k'=k1)\/(E=0/\m'={m with fr:=jK m.fr n (g+1)}/\k'=if m.fr n=0 then k1 else Mv.jN (Mv.zM k1 (m.fr n-1) g) (m.fr n-1))))
theorem Ip{k k':Bk}{e:Int}{f:Nat}(h:Mv.FQ k (λ_=>0) e f k'):Mv.tj k e f k':=by
 obtain⟨p',h1,h2⟩:=h;refine⟨p',h1,?_⟩;rw[h2];rfl
theorem KU{k k':Bk}{e:Int}{f v:Nat}(h:Mv.FQ k (k.dA v) e f k')(hv:k.cW.tk v=true):∃k1,Mv.tj k e f k1/\((e≠0/\k'=k1)\/(e=0/\k'=Mv.zM k1 v f/\v≠f)):=by
 obtain⟨p',h1,h2⟩:=h;by_cases e0:e=0
 .rw[aJ e0]at h2;have ne:v≠f:=λc=>by
   rcases h1 with⟨_,c1,_⟩|⟨_,_,c1,_⟩|⟨_,hB,_,_⟩
   .omega
   .omega
   .rw[c,hB.tk]at hv;cases hv
  refine⟨Mv.Eo k p' f,⟨p',h1,by rw[aJ e0]⟩, .inr ⟨e0,?_,ne⟩⟩;rw[h2];unfold Mv.zM Mv.Eo Mv.wF;congr 1;funext a i;by_cases c:a=f
  .simp[c,ne]
  .simp[c]
 .rw[aI e0]at h2;exact⟨k',⟨p',h1,by rw[aI e0];exact h2⟩, .inl ⟨e0,rfl⟩⟩
def FL(b r q n:Nat)(wr:Bool)(m:Me)(k:Bk)(w:bD)(e:Ending)(w':bD):Prop:=
 ∃(E:Int) (g:Nat) (m':Me) (k':Bk),e=bf (bG E)/\Mv.KX m k n wr E g m' k'/\UB w' b r q m' k'/\fC b r q w w'
theorem Hu(b r q n:Nat)(wr:Bool)(m:Me)(k:Bk)(w:bD)(h:UB w b r q m k)(G:qo m k)(hn:n<16)(hv:m.fr n=0):
  Calls prog 240 #[ai (bh ⟨b,0,bj⟩),ai (bh ⟨b,1+n*2,bj⟩),ar wr] w (FL b r q n wr m k w):=by
 have HF:=hJ (aK h (aK G hv));have c0:=h.me.r9;have c1:=h.me.vE n hn;rw[hv]at c1;have c1':w.cell? ⟨b,1+n*2+1,bj⟩=bh (aa az (-1)):=c1;have HN:Hid (¬(m.fr n≠0/\(wr=false\/k.refs (m.fr n-1)=1))):=hJ (λc=>c.1 hv);go_in
 go_wp2_with fail
 refine(Ao r q (λ_=>0) k _ HF.1.bk HF.2.1.inv HF.2.1.nb).mono ?_;rintro e w1 ⟨g,E,k1,rfl,ht,hk,F⟩;have HM:Hid (UB w1 b r q m k1/\fC b r q w w1):=hJ ⟨⟨HF.1.me.two F HF.1.br HF.1.bq,hk,HF.1.br,HF.1.bq⟩,fC.Bi F⟩;have HT:=hJ (Ip ht);by_cases e0:E=0
 .subst e0;rw[bB];have d1:=HM.1.me.vE n hn;have df:=HM.1.me.frozen;have S2:Hid (UB (w1.setCell ⟨b,1+n*2+1,bj⟩ (aa az (g:Int))) b r q {m with fr:=jK m.fr n (g+1)} k1/\fC b r q w (w1.setCell ⟨b,1+n*2+1,bj⟩ (aa az (g:Int)))):=hJ (by
   have f:bE b w1 (w1.setCell ⟨b,1+n*2+1,bj⟩ (aa az (g:Int))):=(bE.refl b w1).setCell _ _;exact⟨⟨HM.1.me.AX n (g+1) hn _ bu,HM.1.bk.lN f HM.1.br HM.1.bq,HM.1.br,HM.1.bq⟩,HM.2.trans (fC.mem f)⟩)
  go_wp2
  go_ret
  exact⟨0,g,_,_,rfl, .inr ⟨HN.v,k1,HT.v, .inr ⟨rfl,rfl,by rw[aJ HF.2.2]⟩⟩,S2.1,S2.2⟩
 .rw[bC e0];have HE:=hJ e0;go_wp2
  go_ret
  exact⟨E,g,_,_,by rw[bC HE.v];rfl, .inr ⟨HN.v,k1,HT.v, .inl ⟨HE.v,rfl,rfl⟩⟩,HM.1,HM.2⟩
theorem Ht(b r q n v:Nat)(wr:Bool)(m:Me)(k:Bk)(w:bD)(h:UB w b r q m k)(G:qo m k)(hn:n<16)(hv:m.fr n=v+1):
  Calls prog 240 #[ai (bh ⟨b,0,bj⟩),ai (bh ⟨b,1+n*2,bj⟩),ar wr] w (FL b r q n wr m k w):=by
 have HF:=hJ (aK h (aK G hv));have c0:=h.me.r9;have c1:=h.me.vE n hn;rw[hv,show((v+1:Nat):Int)-1=(v:Int)by omega]at c1;have v64:v<64:=by have:=G.le n hn;omega
 have vI:(v:Int)<64:=bu
 have v1:((v:Int)== -1)=false:=by simp
 have l0:=h.bk.xC v v64;have l1:w.cell? ⟨r,1+v*9+1,bj⟩=bh (aa bc (k.dA v 0)):=h.bk.cB v 0 v64 bu;have l2:w.cell? ⟨r,1+v*9+2,bj⟩=bh (aa bc (k.dA v 1)):=h.bk.cB v 1 v64 bu;have l3:w.cell? ⟨r,1+v*9+3,bj⟩=bh (aa bc (k.dA v 2)):=h.bk.cB v 2 v64 bu;have l4:w.cell? ⟨r,1+v*9+4,bj⟩=bh (aa bc (k.dA v 3)):=h.bk.cB v 3 v64 bu;have l5:w.cell? ⟨r,1+v*9+5,bj⟩=bh (aa bc (k.dA v 4)):=h.bk.cB v 4 v64 bu;have l6:w.cell? ⟨r,1+v*9+6,bj⟩=bh (aa bc (k.dA v 5)):=h.bk.cB v 5 v64 bu;have l7:w.cell? ⟨r,1+v*9+7,bj⟩=bh (aa bc (k.dA v 6)):=h.bk.cB v 6 v64 bu;have l8:w.cell? ⟨r,1+v*9+8,bj⟩=bh (aa bc (k.dA v 7)):=h.bk.cB v 7 v64 bu;have hbs:b<w.heap.size:=h.me.lt;have hrs:r<w.heap.size:=h.bk.lt;have hbn:b≠w.heap.size:=bu
 have hrn:r≠w.heap.size:=bu
 go_in
 go_wp2_with fail
 go_region
 generalize hW:World.drew _=W2;have S2:Hid (UB W2 b r q m k/\fC b r q w W2/\W2.heap[w.heap.size]? =bh (bg (xK (k.refs v:Int) (k.dA v)) 216 (0,0))/\w.heap.size≠q):=hJ (by
  rw[<-hW];have bb:Below w.heap.size w (w.alloc (bg (xK (k.refs v:Int) (k.dA v)) 216)):=(aQ _ _).alloc (aL _) _;exact⟨(HF.1.below bb).drew,(fC.below bb).drew,heap_alloc_new w _,by have:=HF.1.bk.Cm;omega⟩)
 obtain⟨bo,hbo⟩:=hU (w.heap.size);rw[hbo]at S2 hbn hrn|-;have HBO:=hJ (aK hbo (aK hbn hrn));have o0:W2.cell? ⟨bo,0,bj⟩=bh (aa az (k.refs v:Int)):=cH S2.2.2.1 0 _ (lM _ _ 0 bu);have KEEP:Hid ((wr=false\/k.refs v=1)->FL b r q n wr m k w (bf (bG 0)) W2):=hJ (λc=>⟨0,v,m,k,rfl, .inl ⟨by rw[HF.2.2];omega,by rw[HF.2.2,aP];exact c,rfl,by rw[HF.2.2,aP],rfl,rfl⟩,S2.1,S2.2.1⟩);cases wr
 .have KP:=hJ (KEEP.v (.inl rfl));go_wp2
  go_ret
  exact KP.v
 .by_cases r1:k.refs v=1
  .rw[r1]at o0;have o0':W2.cell? ⟨bo,0,bj⟩=bh (aa .i64 1):=o0;have KP:=hJ (KEEP.v (.inr r1));go_wp2
   go_ret
   exact KP.v
  .have r1':((k.refs v:Int)==1)=false:=by simp;omega
   have HN:Hid (¬(m.fr n≠0/\(true=false\/k.refs (m.fr n-1)=1))):=hJ (by
    rw[HF.2.2,aP];rintro⟨_,c|c⟩
    .cases c
    .exact r1 c)
   have d0:=S2.1.me.r9;have o1:W2.cell? ⟨bo,1,bj⟩=bh (aa bc (k.dA v 0)):=cH S2.2.2.1 1 _ (lM _ _ 1 bu);have o2:W2.cell? ⟨bo,2,bj⟩=bh (aa bc (k.dA v 1)):=cH S2.2.2.1 2 _ (lM _ _ 2 bu);have o3:W2.cell? ⟨bo,3,bj⟩=bh (aa bc (k.dA v 2)):=cH S2.2.2.1 3 _ (lM _ _ 3 bu);have o4:W2.cell? ⟨bo,4,bj⟩=bh (aa bc (k.dA v 3)):=cH S2.2.2.1 4 _ (lM _ _ 4 bu);have o5:W2.cell? ⟨bo,5,bj⟩=bh (aa bc (k.dA v 4)):=cH S2.2.2.1 5 _ (lM _ _ 5 bu);have o6:W2.cell? ⟨bo,6,bj⟩=bh (aa bc (k.dA v 5)):=cH S2.2.2.1 6 _ (lM _ _ 6 bu);have o7:W2.cell? ⟨bo,7,bj⟩=bh (aa bc (k.dA v 6)):=cH S2.2.2.1 7 _ (lM _ _ 7 bu);have o8:W2.cell? ⟨bo,8,bj⟩=bh (aa bc (k.dA v 7)):=cH S2.2.2.1 8 _ (lM _ _ 8 bu);have TK:=hJ (λW (hW:dz W r q k)=>Ao r q (k.dA v) k W hW HF.2.1.inv HF.2.1.nb);generalize k.refs v=rv at o0 r1';go_wp2_with fail
   go_region_with ((go_at_call 273;refine(TK.v _ (by first|exact S2.1.bk.drew|exact S2.1.bk)).mono ?_;rintro e w3 ⟨g,E,k1,rfl,ht,hk,F⟩;have H3:Hid (Mv.FQ k (k.dA v) E g k1/\dz w3 r q k1/\iP r q W2 w3):=hJ ⟨ht,hk,(by first|exact F|exact((iP.refl r q W2).drew).trans F)⟩))
   all_goals
    have HM:Hid (UB w3 b r q m k1/\fC b r q w w3):=hJ ⟨⟨S2.1.me.two H3.2.2 S2.1.br S2.1.bq,H3.2.1,S2.1.br,S2.1.bq⟩,S2.2.1.trans (fC.Bi H3.2.2)⟩;have c0:=HM.1.me.r9;have c1:=HM.1.me.vE n hn;rw[HF.2.2,show((v+1:Nat):Int)-1=(v:Int)by omega]at c1;have tkv:k.cW.tk v=true:=HF.2.1.hold v v64 (by have:=HF.2.1.held n hn (by rw[HF.2.2];omega);rw[HF.2.2,aP]at this;exact this.1);obtain⟨kk,hkk,hc⟩:=KU H3.1 tkv;have HK:=hJ (aK hkk hc);by_cases e0:E=0
    .subst e0;have LV:Hid (Bd.Inv k1.cW/\1<=k1.refs v/\k1.refs v<2^60):=hJ (by
      obtain⟨p',h1,h2⟩:=H3.1;have hi:=HF.2.1.inv.take HF.2.1.nb h1;have hh:=HF.2.1.held n hn (by rw[HF.2.2];omega);rw[HF.2.2,aP]at hh;rw[aJ rfl]at h2;subst h2;refine⟨hi.1,?_⟩;show 1<=(if v=g then 1 else k.refs v)/\(if v=g then 1 else k.refs v)<2^60;split<;>omega)
     rw[bB];go_wp2_with fail
     go_region_with ((go_at_call 228;refine(yv r q v k1 _ (by first|exact HM.1.bk.drew|exact HM.1.bk) v64 LV.1 LV.2.1 LV.2.2).mono ?_;rintro e w4 ⟨rfl,hk4,F4⟩;have H4:Hid (dz w4 r q (Mv.jN k1 v)/\iP r q w3 w4):=hJ ⟨hk4,(by first|exact F4|exact((iP.refl r q w3).drew).trans F4)⟩))
     all_goals
      have S3:Hid (UB w4 b r q m (Mv.jN k1 v)/\fC b r q w w4):=hJ ⟨⟨HM.1.me.two H4.2 S2.1.br S2.1.bq,H4.1,S2.1.br,S2.1.bq⟩,HM.2.trans (fC.Bi H4.2)⟩;have d1:=S3.1.me.vE n hn;have df:=S3.1.me.frozen;have S4:Hid (UB (w4.setCell ⟨b,1+n*2+1,bj⟩ (aa az (g:Int))) b r q {m with fr:=jK m.fr n (g+1)} (Mv.jN k1 v)/\fC b r q w (w4.setCell ⟨b,1+n*2+1,bj⟩ (aa az (g:Int)))):=hJ (by
       have f:bE b w4 (w4.setCell ⟨b,1+n*2+1,bj⟩ (aa az (g:Int))):=(bE.refl b w4).setCell _ _;exact⟨⟨S3.1.me.AX n (g+1) hn _ bu,S3.1.bk.lN f S3.1.br S3.1.bq,S3.1.br,S3.1.bq⟩,S3.2.trans (fC.mem f)⟩)
      go_wp2
      go_ret
      refine⟨0,g,_,_,rfl, .inr ⟨HN.v,kk,HK.1, .inr ⟨rfl,rfl,?_⟩⟩,S4.1,S4.2⟩;rcases HK.2 with⟨c,_⟩|⟨_,c,_⟩
      .exact aZ rfl c
      .rw[HF.2.2,nJ,aP,c]
    .rw[bC e0];have HE:=hJ e0;go_wp2
     go_ret
     refine⟨E,g,_,_,by rw[bC HE.v];rfl, .inr ⟨HN.v,kk,HK.1, .inl ⟨HE.v,rfl,?_⟩⟩,HM.1,HM.2⟩;rcases HK.2 with⟨_,c⟩|⟨c,_⟩
     .exact c
     .exact aZ c HE.v
theorem Eg(b r q n:Nat)(wr:Bool)(m:Me)(k:Bk)(w:bD)(h:UB w b r q m k)(G:qo m k)(hn:n<16):
  Calls prog 240 #[ai (bh ⟨b,0,bj⟩),ai (bh ⟨b,1+n*2,bj⟩),ar wr] w (FL b r q n wr m k w):=by
 by_cases c:m.fr n=0
 .exact Hu b r q n wr m k w h G hn c
 .exact Ht b r q n (m.fr n-1) wr m k w h G hn bu
theorem OI{m m':Me}{k k':Bk}{x:Nat}{wr:Bool}{E:Int}{g:Nat}(h:Mv.KX m k (x/8) wr E g m' k')(hm:Mv.ko m x wr=true):Mv.oM m k x wr E g m' k':=by
 unfold Mv.oM;rw[hZ];rcases h with⟨a,b,c,d,e,f⟩|⟨a,k1,t,c⟩
 .exact .inr (.inl ⟨hm,a,b,c,d,e,f⟩)
 .exact .inr (.inr ⟨hm,a,k1,t,c⟩)
theorem Iq{m m':Me}{k k':Bk}{n:Nat}{E:Int}{wr:Bool}{g:Nat}(G:qo m k)(hn:n<16)(h:Mv.KX m k n wr E g m' k'):g<64/\((E=0/\m'.fr n=g+1)\/E=4):=by
 rcases h with⟨a,b,rfl,rfl,rfl,_⟩|⟨_,k1,⟨p',t,_⟩,c⟩
 .have:=G.le n hn;exact⟨by omega, .inl ⟨rfl,bu⟩⟩
 .have g64:=xq t;refine⟨g64,?_⟩;rcases c with⟨e0,_⟩|⟨e0,rfl,_⟩
  .rcases t with⟨c,_⟩|⟨_,_,c,_⟩|⟨_,_,c,_⟩
   .omega
   .exact .inr c
   .exact aZ c e0
  .exact .inl ⟨e0,by show(if n=n then g+1 else m.fr n)=g+1;rw[aJ rfl]⟩
def TA(b r q:Nat)(z:Int)(wr:Bool)(m:Me)(k:Bk)(w:bD)(e:Ending)(w':bD):Prop:=
 ∃(E:Int) (g:Nat) (m':Me) (k':Bk),e=bf (ao #[if E=0 then ai (bh ⟨r,1+g*9+1+z.toNat%8,bj⟩)else ai bj,bG E])/\Mv.oM m k z wr E g m' k'/\UB w' b r q m' k'/\fC b r q w w'/\g<64/\(E=0\/E=4\/E=10)
section
attribute [local go_sem] By Ru
theorem yy(b r q:Nat)(z:Int)(wr:Bool)(m:Me)(k:Bk)(w:bD)(h:UB w b r q m k)(G:qo m k):
  Calls prog 185 #[ai (bh ⟨b,0,bj⟩),aa az z,ar wr] w (TA b r q z wr m k w):=by
 have HF:=hJ (aK h G);cases hm:Mv.ko m z wr
 .have HM:=hJ hm;go_in
  go_wp2_with fail
  refine sC (nS b r z wr m _ HF.1.me) ?_;rintro w1 hb;have HB:=hJ hb;rw[HM.v];go_wp2
  go_ret2
  exact⟨10,0,m,k,rfl, .inl ⟨HM.v,rfl,rfl,rfl,rfl⟩,HF.1.below HB.v,fC.below HB.v,bu, .inr (.inr rfl)⟩
 .obtain⟨x,rfl,hx⟩:=JB hm;have HM:=hJ hm;have h8:(x:Int)/8<16:=bu
  have h80:(0:Int)<=(x:Int)/8:=bu
  have h9:(x:Int)%8<8:=bu
  have h90:(0:Int)<=(x:Int)%8:=bu
  have HX:Hid (x/8<16):=hJ bu;go_in
  go_wp2_with fail
  refine sC (nS b r x wr m _ HF.1.me) ?_;rintro w1 hb;have HB:=hJ (aK (HF.1.below hb) (fC.below (b:=b) (r:=r) (q:=q) hb));rw[HM.v];go_wp2_with fail
  refine(Eg b r q (x/8) wr m k _ HB.1 HF.2 HX.v).mono ?_;rintro e w2 ⟨E,g,m',k',rfl,ht,hu,F⟩;have TE:=Iq HF.2 HX.v ht;have HT:Hid (Mv.oM m k x wr E g m' k'/\UB w2 b r q m' k'/\fC b r q w w2):=hJ ⟨OI ht HM.v,hu,HB.2.trans F⟩;rcases TE with⟨g64,⟨rfl,hg⟩|rfl⟩
  .have c0:=hu.me.r9;have c1:=hu.me.vE (x/8) HX.v;rw[hg,show((g+1:Nat):Int)-1=(g:Int)by omega]at c1;have gI:(g:Int)<64:=bu
   rw[bB];go_wp2_with fail
   go_region
   go_wp2
   go_ret2
   exact⟨0,g,m',k',by rw[aJ rfl,hZ];rfl,HT.1,HT.2.1.drew,HT.2.2.drew,g64, .inl rfl⟩
  .rw[bC bA];go_wp2
   go_ret2
   exact⟨4,g,m',k',rfl,HT.1,HT.2.1,HT.2.2,g64, .inr (.inl rfl)⟩
end
theorem Ks(b r q:Nat)(z:Int)(m:Me)(k:Bk)(w:bD)(h:UB w b r q m k)(G:qo m k):
  Calls prog 108 #[ai (bh ⟨b,0,bj⟩),aa az z] w λe w'=>∃(E:Int) (g:Nat) (m':Me) (k':Bk),e=bf (ao #[aa bc (if E=0 then k'.dA g (z.toNat%8)else 0),bG E])/\Mv.oM m k z false E g m' k'/\UB w' b r q m' k'/\fC b r q w w'/\(E=0\/E=4\/E=10):=by
 have HF:=hJ (aK h G);go_in
 go_wp2_with fail
 refine(yy b r q z false m k _ HF.1 HF.2).mono ?_;rintro e w1 ⟨E,g,m',k',rfl,ht,hu,F,g64,hE⟩;have HT:=hJ (aK ht (aK hu F));rcases hE with rfl|rfl|rfl
 .have c2:=hu.bk.cB g (z.toNat%8) g64 bu;rw[aJ rfl,bB];go_wp2
  go_ret2
  exact⟨0,g,m',k',by rw[aJ rfl];rfl,HT.1,HT.2.1,HT.2.2, .inl rfl⟩
 .rw[aI bA,bC bA];go_wp2
  go_ret2
  exact⟨4,g,m',k',by rw[aI bA];rfl,HT.1,HT.2.1,HT.2.2, .inr (.inl rfl)⟩
 .rw[aI bA,bC bA];go_wp2
  go_ret2
  exact⟨10,g,m',k',by rw[aI bA];rfl,HT.1,HT.2.1,HT.2.2, .inr (.inr rfl)⟩
theorem Ic(b r q:Nat)(z u:Int)(m:Me)(k:Bk)(w:bD)(h:UB w b r q m k)(G:qo m k):
  Calls prog 110 #[ai (bh ⟨b,0,bj⟩),aa az z,aa bc u] w λe w'=>∃(E:Int) (g:Nat) (m':Me) (k':Bk),e=bf (bG E)/\Mv.oM m k z true E g m' k'/\UB w' b r q m' (if E=0 then Mv.J4 k' g (z.toNat%8) u else k')/\fC b r q w w'/\(E=0\/E=4\/E=10):=by
 have HF:=hJ (aK h G);go_in
 go_wp2_with fail
 refine(yy b r q z true m k _ HF.1 HF.2).mono ?_;rintro e w1 ⟨E,g,m',k',rfl,ht,hu,F,g64,hE⟩;have HT:=hJ (aK ht (aK hu F));rcases hE with rfl|rfl|rfl
 .have c2:=hu.bk.cB g (z.toNat%8) g64 bu;have cf:=hu.bk.frozen;have S1:Hid (UB (w1.setCell ⟨r,1+g*9+1+z.toNat%8,bj⟩ (aa bc u)) b r q m' (Mv.J4 k' g (z.toNat%8) u)/\fC b r q w (w1.setCell ⟨r,1+g*9+1+z.toNat%8,bj⟩ (aa bc u))):=hJ (by
   have f:bE r w1 (w1.setCell ⟨r,1+g*9+1+z.toNat%8,bj⟩ (aa bc u)):=(bE.refl r w1).setCell _ _;exact⟨⟨hu.me.same (f.block b hu.me.lt hu.br),hu.bk.T6 g (z.toNat%8) u g64 bu,hu.br,hu.bq⟩,HT.2.2.trans ⟨f.os,f.tape,f.output,f.size,λj hj _ h2 _=>f.block j hj h2⟩⟩)
  rw[aJ rfl,bB];go_wp2
  go_ret
  exact⟨0,g,m',k',rfl,HT.1,by rw[aJ rfl];exact S1.1,S1.2, .inl rfl⟩
 .rw[aI bA,bC bA];go_wp2
  go_ret
  exact⟨4,g,m',k',rfl,HT.1,by rw[aI bA];exact HT.2.1,HT.2.2, .inr (.inl rfl)⟩
 .rw[aI bA,bC bA];go_wp2
  go_ret
  exact⟨10,g,m',k',rfl,HT.1,by rw[aI bA];exact HT.2.1,HT.2.2, .inr (.inr rfl)⟩
def Fy(r:Nat):Array Value:=((List.range 33).map λo=>if o=0 then ai (bh ⟨r,0,bj⟩)else aa .i64 0).toArray
theorem OC(r i:Nat)(h:i<33):(Fy r)[i]? =bh (if i=0 then ai (bh ⟨r,0,bj⟩)else aa .i64 0):=by simp[Fy,h]
def Mv.lQ:Me:=⟨λ_=>0,λ_=>0⟩
def Mv.E5(k:Nat):Me:=⟨λ_=>0,λn=>if n<k then 0 else 1⟩
theorem Sb{w:bD}{b r:Nat}(h:w.heap[b]? =bh (bg (Fy r) 186 (0,0))):cY w b r (Mv.E5 0):=by
 refine⟨⟨_,h,by simp[Fy]⟩,λo ho=>?_⟩;rw[bO h,OC r o ho];unfold kC;grind [Fy,bO,OC,kC,Mv.E5]
theorem Ny(r:Nat)(w:bD):Calls prog 167 #[ai (bh ⟨r,0,bj⟩)] w λe w'=>e=bf (ai (bh ⟨w.heap.size,0,bj⟩))/\cY w' w.heap.size r Mv.lQ/\Below w.heap.size w w':=by
 have S0:Hid (∀C,C=Fy r->cY (w.alloc (bg C 186)) w.heap.size r (Mv.E5 0)/\Below w.heap.size w (w.alloc (bg C 186))):=hJ (λC hC=>by
  subst hC;exact⟨Sb (heap_alloc_new w _),(aQ _ _).alloc (aL _) _⟩)
 go_in
 go_wp2
 refine cG (λW=>cY W w.heap.size r (Mv.E5 0)/\Below w.heap.size w W) (S0.v _ rfl) ?_;intro W1 h1;have S1:=hJ h1;obtain⟨b,hb⟩:=hU (w.heap.size);rw[hb]at S1|-;have HB:=hJ hb;go_loopw [8] (λi wr=>∃(k:Nat),i=aa az k/\k<=16/\Hid (cY wr b r (Mv.E5 k)/\Below b w wr)) (λi _=>16-(intOf i).toNat)
 case atStart=>exact⟨0,rfl,bu,S1⟩
 case round=>
  obtain⟨k,rfl,hk,S⟩:=hrel;by_cases hlt:k<16
  .have hltI:(k:Int)<16:=bu
   have c1:=S.1.vE k hlt;have cf:=S.1.frozen;have S2:Hid (cY (wr.setCell ⟨b,1+k*2+1,bj⟩ (aa az (-1))) b r (Mv.E5 (k+1))/\Below b w (wr.setCell ⟨b,1+k*2+1,bj⟩ (aa az (-1)))):=hJ ⟨(S.1.AX k 0 hlt (-1) rfl).congr (λn _=>⟨rfl,by
    show(if n<k+1 then 0 else 1)=(if n=k then 0 else if n<k then 0 else 1);by_cases c:n=k
    .rw[aJ c,nK]
    .rw[aI c];by_cases d:n<k
     .rw[aJ d,nK]
     .rw[aI d,nJ]⟩),S.2.setCell (aL _) _⟩
   go_wp2
   go_roundw
   case rel=>exact⟨k+1,by go_num,bu,S2⟩
   case measure=>simp[intOf];omega
  .have hk16:k=16:=bu
   subst hk16;have FIN:Hid (cY wr b r Mv.lQ):=hJ (S.1.congr (λn hn=>⟨rfl,by show 0=if n<16 then 0 else 1;rw[aJ hn]⟩));go_wp2
   go_ret
   rw[HB.v];exact⟨rfl,FIN.v,S.2⟩
theorem uK(b:Nat)(a n:Int)(w:bD)(k:Mv.kK a n=true):Calls prog 177 #[ai (bh ⟨b,0,bj⟩),aa az a,aa az n] w λe w'=>e=bf (ao #[aj bj 0 0,bG 1])/\w'=w:=by
 unfold Mv.kK at k;rw[decide_eq_true_iff]at k;by_cases h1:n<1
 .clear k;go_in
  go_wp2
  go_ret2
  exact⟨rfl,rfl⟩
 .have d1:decide (n<1)=false:=aT h1;by_cases h2:a<0
  .clear k h1;go_in
   go_wp2
   go_ret2
   exact⟨rfl,rfl⟩
  .have d2:decide (a<0)=false:=aT h2;by_cases h3:16<=a
   .clear k h1 h2;go_in
    go_wp2
    go_ret2
    exact⟨rfl,rfl⟩
   .have d3:decide (16<=a)=false:=aT h3;have h4:16-a<n:=bu
    have hw:IntKind.i64.wrap (16-a)=16-a:=aN _ ⟨by omega,bu⟩;go_in
    go_wp2
    go_ret2
    exact⟨rfl,rfl⟩
theorem wN(b x n:Nat)(w:bD)(hx:x<16)(h1:1<=n)(hn:x+n<=16):Calls prog 177 #[ai (bh ⟨b,0,bj⟩),aa az x,aa az n] w λe w'=>e=bf (ao #[aj (bh ⟨b,1+x*2,bj⟩) n (16-x),bG 0])/\w'=w:=by
 have d1:decide ((n:Int)<1)=false:=by simp;omega
 have d3:decide (16<=(x:Int))=false:=by simp;omega
 have hw:IntKind.i64.wrap (16-(x:Int))=16-(x:Int):=aN _ ⟨by omega,bu⟩;have d4:decide (16-(x:Int)<(n:Int))=false:=by simp;omega
 have hw2:IntKind.i64.wrap ((x:Int)+(n:Int))=(x:Int)+(n:Int):=aN _ ⟨by omega,bu⟩;have d5:(x:Int)+(n:Int)<=16:=bu
 have d6:(x:Int)<=(x:Int)+(n:Int):=bu
 go_in
 go_wp2
 rw[show x+n-x=n by omega];go_ret2
 exact⟨rfl,rfl⟩
theorem Qu(wr:Bool)(w:bD):Calls prog 237 #[ar wr] w λe w'=>e=bf (aa az ((if wr then 2 else 1:Nat):Int))/\w'=w:=by
 cases wr
 .go_in
  go_wp2
  go_ret
  exact⟨rfl,rfl⟩
 .go_in
  go_wp2
  go_ret
  exact⟨rfl,rfl⟩
theorem Az(u:Nat)(v:Int)(w:bD):Calls prog 179 #[au #[aa az (u:Int),aa az v]] w λe w'=>e=bf (ar (decide (u≠0)))/\Below w.heap.size w w':=by
 have BL:Hid (∀o,Below w.heap.size w (w.alloc o)):=hJ (λo=>(aQ _ _).alloc (aL _) o);by_cases c:u=0
 .subst c;go_in
  go_wp2
  go_ret
  exact⟨rfl,BL.v _⟩
 .have c':((u:Int)==0)=false:=by simp;omega
  have HE:=hJ (aO (show u≠0 from c));have HC:=hJ c';go_in
  go_wp2
  go_ret
  exact⟨cQ (by rw[HE.v];first|rfl|(show(!((u:Int)==0))=true;rw[HC.v];rfl)),BL.v _⟩
theorem yu(u:Nat)(v:Int)(w:bD):Calls prog 181 #[au #[aa az (u:Int),aa az v]] w λe w'=>e=bf (ar (decide (u=0)))/\Below w.heap.size w w':=by
 have BL:Hid (∀o,Below w.heap.size w (w.alloc o)):=hJ (λo=>(aQ _ _).alloc (aL _) o);by_cases c:u=0
 .subst c;go_in
  go_wp2
  go_ret
  exact⟨rfl,BL.v _⟩
 .have c':((u:Int)==0)=false:=by simp;omega
  have HE:=hJ (aT c);go_in
  go_wp2
  go_ret
  exact⟨cQ HE.symm,BL.v _⟩
def yK(F:Nat)(A:Nat->Bool):Prop:=∀(u:Nat) (v:Int) (w:bD),Calls prog F #[au #[aa az (u:Int),aa az v]] w λe w'=>e=bf (ar (A u))/\Below w.heap.size w w'
theorem cY.Bn{w:bD}{b r:Nat}{m:Me}(h:cY w b r m)(x j:Nat)(hj:x+j<16):w.cell? ⟨b,1+x*2+j*2,bj⟩=bh (aa az (m.is (x+j):Int)):=by
 have:=h.Tp (x+j) hj;grind
theorem cY.Gd{w:bD}{b r:Nat}{m:Me}(h:cY w b r m)(x j:Nat)(hj:x+j<16):w.cell? ⟨b,1+x*2+j*2+1,bj⟩=bh (aa az ((m.fr (x+j):Int)-1)):=by
 have:=h.vE (x+j) hj;grind
theorem Gb:yK 179 (λu=>decide (u≠0)):=Az
theorem Bh:yK 181 (λu=>decide (u=0)):=yu
theorem Ay(A:Nat->Bool)(hA:yK 179 A)(b r x n c:Nat)(m:Me)(w:bD)(h:cY w b r m)(hn:x+n<=16):
  Calls prog 236 #[aj (bh ⟨b,1+x*2,bj⟩) n c, .func (.func 179) #[] #[]] w λe w'=>∃z:Int,e=bf (aa az z)/\decide (0<=z)=(List.range n).any (λj=>A (m.is (x+j)))/\Below w.heap.size w w':=by
 have HF:=hJ h;have HA:=hJ hA;go_in
 go_wp2_with fail
 go_loopw [8] (λi wr=>∃(k:Nat),i=aa az k/\k<=n/\Hid (Below w.heap.size w wr/\∀j,j<k->A (m.is (x+j))=false)) (λi _=>n-(intOf i).toNat)
 case atStart=>exact⟨0,rfl,bu,aQ _ _,λj hj=>bu⟩
 case round=>
  obtain⟨k,rfl,hk,S⟩:=hrel;by_cases hlt:k<n
  .have hltI:(k:Int)<(n:Int):=bu
   have c0:=(HF.below S.1).Bn x k bu;have c1:=(HF.below S.1).Gd x k bu;go_wp2_with fail
   refine sC (HA.v _ _ _) ?_;rintro w1 hb;have HB:=hJ (S.1.trans (hb.mono S.1.size));cases ha:A (m.is (x+k))
   .have N:Hid (∀j,j<k+1->A (m.is (x+j))=false):=hJ (λj hj=>by
     by_cases e:j=k
     .rw[e];exact ha
     .exact S.2 j bu)
    go_wp2
    go_roundw
    case rel=>exact⟨k+1,by go_num,bu,HB.v,N.v⟩
    case measure=>simp[intOf];omega
   .have N:Hid (decide ((0:Int)<=(k:Int))=(List.range n).any (λj=>A (m.is (x+j)))):=hJ (by
     rw[aO bu];exact(List.any_eq_true.2 ⟨k,List.mem_range.2 hlt,ha⟩).symm)
    go_wp2
    go_ret
    exact⟨k,rfl,N.v,HB.v⟩
  .have hltI:¬(k:Int)<(n:Int):=bu
   have N:Hid (decide ((0:Int)<= -1)=(List.range n).any (λj=>A (m.is (x+j)))):=hJ (by
    rw[aT bu];symm;rw[List.any_eq_false];intro j hj;rw[S.2 j (by have:=List.mem_range.1 hj;omega)];decide)
   go_wp2
   go_ret
   exact⟨-1,rfl,N.v,S.1⟩
theorem wM(A:Nat->Bool)(hA:yK 179 A)(b r x n c:Nat)(m:Me)(w:bD)(h:cY w b r m)(hn:x+n<=16):
  Calls prog 178 #[aj (bh ⟨b,1+x*2,bj⟩) n c, .func (.func 179) #[] #[]] w λe w'=>e=bf (ar ((List.range n).any (λj=>A (m.is (x+j)))))/\Below w.heap.size w w':=by
 have HF:=hJ (aK h hA);clear h hA;go_in
 go_wp2_with fail
 refine(Ay A HF.2 b r x n c m _ HF.1 hn).mono ?_;rintro e w1 ⟨z,rfl,hz,hb⟩;have HB:=hJ (aK hz hb);clear hz hb;go_wp2
 go_ret
 exact⟨cQ HB.1,HB.2⟩
theorem yr(A:Nat->Bool)(hA:yK 181 A)(b r x n c:Nat)(m:Me)(w:bD)(h:cY w b r m)(hn:x+n<=16):
  Calls prog 236 #[aj (bh ⟨b,1+x*2,bj⟩) n c, .func (.func 181) #[] #[]] w λe w'=>∃z:Int,e=bf (aa az z)/\decide (0<=z)=(List.range n).any (λj=>A (m.is (x+j)))/\Below w.heap.size w w':=by
 have HF:=hJ h;have HA:=hJ hA;go_in
 go_wp2_with fail
 go_loopw [8] (λi wr=>∃(k:Nat),i=aa az k/\k<=n/\Hid (Below w.heap.size w wr/\∀j,j<k->A (m.is (x+j))=false)) (λi _=>n-(intOf i).toNat)
 case atStart=>exact⟨0,rfl,bu,aQ _ _,λj hj=>bu⟩
 case round=>
  obtain⟨k,rfl,hk,S⟩:=hrel;by_cases hlt:k<n
  .have hltI:(k:Int)<(n:Int):=bu
   have c0:=(HF.below S.1).Bn x k bu;have c1:=(HF.below S.1).Gd x k bu;go_wp2_with fail
   refine sC (HA.v _ _ _) ?_;rintro w1 hb;have HB:=hJ (S.1.trans (hb.mono S.1.size));cases ha:A (m.is (x+k))
   .have N:Hid (∀j,j<k+1->A (m.is (x+j))=false):=hJ (λj hj=>by
     by_cases e:j=k
     .rw[e];exact ha
     .exact S.2 j bu)
    go_wp2
    go_roundw
    case rel=>exact⟨k+1,by go_num,bu,HB.v,N.v⟩
    case measure=>simp[intOf];omega
   .have N:Hid (decide ((0:Int)<=(k:Int))=(List.range n).any (λj=>A (m.is (x+j)))):=hJ (by
     rw[aO bu];exact(List.any_eq_true.2 ⟨k,List.mem_range.2 hlt,ha⟩).symm)
    go_wp2
    go_ret
    exact⟨k,rfl,N.v,HB.v⟩
  .have hltI:¬(k:Int)<(n:Int):=bu
   have N:Hid (decide ((0:Int)<= -1)=(List.range n).any (λj=>A (m.is (x+j)))):=hJ (by
    rw[aT bu];symm;rw[List.any_eq_false];intro j hj;rw[S.2 j (by have:=List.mem_range.1 hj;omega)];decide)
   go_wp2
   go_ret
   exact⟨-1,rfl,N.v,S.1⟩
theorem uJ(A:Nat->Bool)(hA:yK 181 A)(b r x n c:Nat)(m:Me)(w:bD)(h:cY w b r m)(hn:x+n<=16):
  Calls prog 178 #[aj (bh ⟨b,1+x*2,bj⟩) n c, .func (.func 181) #[] #[]] w λe w'=>e=bf (ar ((List.range n).any (λj=>A (m.is (x+j)))))/\Below w.heap.size w w':=by
 have HF:=hJ (aK h hA);clear h hA;go_in
 go_wp2_with fail
 refine(yr A HF.2 b r x n c m _ HF.1 hn).mono ?_;rintro e w1 ⟨z,rfl,hz,hb⟩;have HB:=hJ (aK hz hb);clear hz hb;go_wp2
 go_ret
 exact⟨cQ HB.1,HB.2⟩
theorem yw(b r x n c:Nat)(wt:Bool)(m:Me)(w:bD)(h:cY w b r m)(hn:x+n<=16):
  Calls prog 180 #[aj (bh ⟨b,1+x*2,bj⟩) n c,ar wt] w λe w'=>e=bf (ao #[])/\cY w' b r (Mv.pT m x (x+n) wt)/\bE b w w':=by
 have S0:Hid (cY w b r (Mv.pT m x (x+0) wt)/\bE b w w):=hJ ⟨h.congr (λi _=>⟨Mv.Js m x wt i,rfl⟩),bE.refl _ _⟩;obtain⟨av,hav⟩:=hU ((if wt then 2 else 1:Nat));have HA:=hJ hav;go_in
 go_wp2_with fail
 go_loopw [7] (λi wr=>∃(k:Nat),i=aa az k/\k<=n/\Hid (cY wr b r (Mv.pT m x (x+k) wt)/\bE b w wr)) (λi _=>n-(intOf i).toNat)
 case atStart=>exact⟨0,rfl,bu,S0⟩
 case round=>
  obtain⟨k,rfl,hk,S⟩:=hrel;by_cases hlt:k<n
  .have hltI:(k:Int)<(n:Int):=bu
   have c0:=S.1.Bn x k bu;have cf:=S.1.frozen;have S2:Hid (cY (wr.setCell ⟨b,1+x*2+k*2,bj⟩ (aa az (av:Int))) b r (Mv.pT m x (x+(k+1)) wt)/\bE b w (wr.setCell ⟨b,1+x*2+k*2,bj⟩ (aa az (av:Int)))):=hJ ⟨by
    have a:=S.1.Ot (x+k) av bu;rw[show 1+(x+k)*2=1+x*2+k*2 by omega]at a;refine a.congr (λi _=>⟨?_,rfl⟩);rw[<-Nat.add_assoc,Mv.Jt bu,HA.v];rfl,S.2.setCell _ _⟩
   go_wp2_with fail
   refine sC (Qu wt _) ?_;rintro w1 hw;subst w1;rw[HA.v];go_wp2
   go_roundw
   case rel=>exact⟨k+1,by go_num,bu,S2⟩
   case measure=>simp[intOf];omega
  .have hkn:k=n:=bu
   subst hkn;go_wp2_with fail
   go_end0
   exact⟨rfl,S.1,S.2⟩
theorem K8{m:Me}{x n:Nat}(hn:x+n<=16):(List.range n).any (λj=>decide (m.is (x+j)≠0))=Mv.anyM m x (x+n):=by
 apply Bool.eq_iff_iff.2;rw[Mv.K7 hn,List.any_eq_true];constructor
 .grind
 .rintro⟨i,h1,h2,h3⟩;exact⟨i-x,List.mem_range.2 bu,by rw[show x+(i-x)=i by omega];exact aO h3⟩
theorem K6{m:Me}{x n:Nat}(hn:x+n<=16):(List.range n).any (λj=>decide (m.is (x+j)=0))= !Mv.allM m x (x+n):=by
 cases c:Mv.allM m x (x+n)
 .rw[Bool.not_false,List.any_eq_true];apply Classical.byContradiction;intro d;have:Mv.allM m x (x+n)=true:=(Mv.Bg hn).2 (λi h1 h2 h3=>d ⟨i-x,List.mem_range.2 bu,by rw[show x+(i-x)=i by omega];exact aO h3⟩);rw[this]at c;cases c
 .rw[Bool.not_true,List.any_eq_false];intro j hj d;have:=List.mem_range.1 hj;exact(Mv.Bg hn).1 c (x+j) bu bu (of_decide_eq_true d)
theorem Nv(b r:Nat)(a n:Int)(wt:Bool)(m:Me)(w:bD)(h:cY w b r m):
  Calls prog 104 #[ai (bh ⟨b,0,bj⟩),aa az a,aa az n,ar wt] w λe w'=>e=bf (bG (Mv.qX m a n))/\cY w' b r (Mv.mapM m a n wt)/\bE b w w':=by
 have HF:=hJ h;cases hb:Mv.kK a n
 .obtain⟨x,k,rfl,rfl,hx,hk1,hk⟩:=Mv.tn hb;have SP:=hJ (wN b x k w hx hk1 hk);have EX:Hid (Mv.qX m x k=if Mv.anyM m x (x+k)=true then 3 else 0):=hJ (by unfold Mv.qX;rw[aI (by rw[hb];decide),hZ,hZ]);have EM:Hid (Mv.mapM m x k wt=if Mv.qX m x k=0 then Mv.pT m x (x+k) wt else m):=hJ (by unfold Mv.mapM;rw[hZ,hZ]);go_in
  go_wp2_with fail
  refine sC SP.v ?_;rintro w1 hw;subst w1;rw[bB];go_wp2_with fail
  refine sC (wM _ Gb b r x k (16-x) m _ HF.v hk) ?_;rintro w1 hb1;have H1:=hJ (aK (HF.below hb1) (bE.cC (b:=b) hb1));rw[K8 hk];cases ha:Mv.anyM m x (x+k)
  .have E0:Hid (Mv.qX m x k=0):=hJ (by rw[EX.v,ha];rfl);go_wp2_with fail
   refine sC (yw b r x k (16-x) wt m _ H1.1 hk) ?_;rintro w2 ⟨h2,f2⟩;have H2:=hJ (aK h2 (H1.2.trans f2));go_wp2
   go_ret
   rw[EM.v,E0.v,aJ rfl];exact⟨rfl,H2.v⟩
  .have E0:Hid (Mv.qX m x k=3):=hJ (by rw[EX.v,ha];rfl);go_wp2
   go_ret
   rw[EM.v,E0.v,aI bA];exact⟨rfl,H1.v⟩
 .have EX:Hid (Mv.qX m a n=1):=hJ (by unfold Mv.qX;rw[aJ hb]);have EM:Hid (Mv.mapM m a n wt=m):=hJ (by unfold Mv.mapM;rw[EX.v,aI bA]);have SP:=hJ (uK b a n w hb);go_in
  go_wp2_with fail
  refine sC SP.v ?_;rintro w1 hw;subst w1;rw[bC bA];go_wp2
  go_ret
  rw[EX.v,EM.v];exact⟨rfl,HF.v,bE.refl _ _⟩
theorem Dm(b r:Nat)(a n:Int)(wt:Bool)(m:Me)(w:bD)(h:cY w b r m):
  Calls prog 105 #[ai (bh ⟨b,0,bj⟩),aa az a,aa az n,ar wt] w λe w'=>e=bf (bG (Mv.qZ m a n))/\cY w' b r (Mv.uq m a n wt)/\bE b w w':=by
 have HF:=hJ h;cases hb:Mv.kK a n
 .obtain⟨x,k,rfl,rfl,hx,hk1,hk⟩:=Mv.tn hb;have SP:=hJ (wN b x k w hx hk1 hk);have EX:Hid (Mv.qZ m x k=if Mv.allM m x (x+k)=true then 0 else 10):=hJ (by unfold Mv.qZ;rw[aI (by rw[hb];decide),hZ,hZ]);have EM:Hid (Mv.uq m x k wt=if Mv.qZ m x k=0 then Mv.pT m x (x+k) wt else m):=hJ (by unfold Mv.uq;rw[hZ,hZ]);go_in
  go_wp2_with fail
  refine sC SP.v ?_;rintro w1 hw;subst w1;rw[bB];go_wp2_with fail
  refine sC (uJ _ Bh b r x k (16-x) m _ HF.v hk) ?_;rintro w1 hb1;have H1:=hJ (aK (HF.below hb1) (bE.cC (b:=b) hb1));rw[K6 hk];cases ha:Mv.allM m x (x+k)
  .have E0:Hid (Mv.qZ m x k=10):=hJ (by rw[EX.v,ha];rfl);rw[Bool.not_false];go_wp2
   go_ret
   rw[EM.v,E0.v,aI bA];exact⟨rfl,H1.v⟩
  .have E0:Hid (Mv.qZ m x k=0):=hJ (by rw[EX.v,ha];rfl);rw[Bool.not_true];go_wp2_with fail
   refine sC (yw b r x k (16-x) wt m _ H1.1 hk) ?_;rintro w2 ⟨h2,f2⟩;have H2:=hJ (aK h2 (H1.2.trans f2));go_wp2
   go_ret
   rw[EM.v,E0.v,aJ rfl];exact⟨rfl,H2.v⟩
 .have EX:Hid (Mv.qZ m a n=1):=hJ (by unfold Mv.qZ;rw[aJ hb]);have EM:Hid (Mv.uq m a n wt=m):=hJ (by unfold Mv.uq;rw[EX.v,aI bA]);have SP:=hJ (uK b a n w hb);go_in
  go_wp2_with fail
  refine sC SP.v ?_;rintro w1 hw;subst w1;rw[bC bA];go_wp2
  go_ret
  rw[EX.v,EM.v];exact⟨rfl,HF.v,bE.refl _ _⟩
def UV(b r q x:Nat)(m:Me)(k:Bk)(w0:bD)(j:Nat)(w:bD):Prop:=UB w b r q (Mv.ji m x (x+j)) (Mv.iA m k x j)/\fC b r q w0 w/\Mv.wZ (Mv.ji m x (x+j)) (Mv.iA m k x j)
theorem UV.start{b r q x:Nat}{m:Me}{k:Bk}{w:bD}(h:UB w b r q m k)(C:Mv.wZ m k):UV b r q x m k w 0 w:=by
 have e1:∀i,(Mv.ji m x (x+0)).is i=m.is i:=λi=>nJ;have e2:∀i,(Mv.ji m x (x+0)).fr i=m.fr i:=λi=>nJ;refine⟨⟨h.me.congr (λi _=>⟨e1 i,e2 i⟩),h.bk,h.br,h.bq⟩,fC.refl _ _ _ _,C.inv,C.nb,λi hi=>by rw[e2];exact C.le i hi,λf hf=>?_⟩;rw[Mv.oY (fr:=m.fr) (λi _=>e2 i)];exact C.cL f hf
theorem UV.below{b r q x j:Nat}{m:Me}{k:Bk}{w0 w w':bD}(h:UV b r q x m k w0 j w)(B:Below w.heap.size w w'):UV b r q x m k w0 j w':=⟨h.1.below B,h.2.1.trans (fC.below B),h.2.2⟩
theorem UV.fr{b r q x j:Nat}{m:Me}{k:Bk}{w0 w:bD}(_:UV b r q x m k w0 j w):(Mv.ji m x (x+j)).fr (x+j)=m.fr (x+j)/\(Mv.ji m x (x+j)).is (x+j)=m.is (x+j):=⟨nJ,nJ⟩
theorem UV.step{b r q x j:Nat}{m:Me}{k:Bk}{w0 w w2:bD}(h:UV b r q x m k w0 j w)(hj:x+j<16)(me:cY w2 b r (Mv.ji m x (x+j)))(bk:dz w2 r q (Mv.iA m k x (j+1)))(t:fC b r q w0 w2):
  UV b r q x m k w0 (j+1) ((w2.setCell ⟨b,1+x*2+j*2,bj⟩ (aa .i64 0)).setCell ⟨b,1+x*2+j*2+1,bj⟩ (aa az (-1))):=by
 have f:bE b w2 ((w2.setCell ⟨b,1+x*2+j*2,bj⟩ (aa .i64 0)).setCell ⟨b,1+x*2+j*2+1,bj⟩ (aa az (-1))):=((bE.refl b w2).setCell _ _).setCell _ _;have a:=(me.Ot (x+j) 0 hj).AX (x+j) 0 hj (-1) rfl;rw[show 1+(x+j)*2=1+x*2+j*2 by omega]at a;refine⟨⟨a.congr (λi _=>?_),bk.lN f h.1.br h.1.bq,h.1.br,h.1.bq⟩,t.trans (fC.mem f),h.2.2.step hj⟩;show _=jK _ _ _ i/\_=jK _ _ _ i;unfold jK;by_cases d:i=x+j
 .subst d;rw[aJ rfl,aJ rfl];exact Kh m x j
 .rw[aI d,aI d];exact Dh d
theorem Kt(b r q x n:Nat)(m:Me)(k:Bk)(w:bD)(h:UB w b r q m k)(C:Mv.wZ m k)(hx:x<16)(h1:1<=n)(hn:x+n<=16):
  Calls prog 158 #[ai (bh ⟨b,0,bj⟩),aa az x,aa az n] w λe w'=>e=bf (ao #[aa az (Mv.rP m x n:Int),bG 0])/\UB w' b r q (Mv.ji m x (x+n)) (Mv.iA m k x n)/\fC b r q w w':=by
 have S0:Hid (UV b r q x m k w 0 w):=hJ (UV.start h C);have SP:=hJ (wN b x n w hx h1 hn);go_in
 go_wp2_with fail
 refine sC SP.v ?_;rintro w1 hw;subst w1;rw[bB];go_wp2_with fail
 go_loopw [10,25] (λs i wr=>∃(j:Nat),i=aa az j/\s=aa az (Mv.rP m x j:Int)/\j<=n/\Hid (UV b r q x m k w j wr)) (λ_ i _=>n-(intOf i).toNat)
 case atStart=>exact⟨0,rfl,rfl,bu,S0⟩
 case round=>
  obtain⟨j,rfl,rfl,hj,S⟩:=hrel;by_cases hlt:j<n
  .have hltI:(j:Int)<(n:Int):=bu
   have c0:=S.1.me.Bn x j bu;have c1:=S.1.me.Gd x j bu;have cf:=S.1.me.frozen;rw[S.fr.1]at c1;have hbs:b<wr.heap.size:=S.1.me.lt;have hbn:b≠wr.heap.size:=bu
   have lc:=Mv.Sc m x j;by_cases f0:m.fr (x+j)=0
   .have LE:Hid (Mv.rP m x (j+1)=Mv.rP m x j):=hJ (by show Mv.rP m x j+(if m.fr (x+j)=0 then 0 else 1)=_;rw[aJ f0];rfl);have KE:Hid (Mv.iA m k x (j+1)=Mv.iA m k x j):=hJ (aJ f0);rw[f0]at c1;have c1':wr.cell? ⟨b,1+x*2+j*2+1,bj⟩=bh (aa az (-1)):=c1;have NX:Hid (∀o,UV b r q x m k w (j+1) (((wr.setCell ⟨b,1+x*2+j*2,bj⟩ (aa .i64 0)).setCell ⟨b,1+x*2+j*2+1,bj⟩ (aa az (-1))).alloc o)):=hJ (λo=>
     (S.step bu S.1.me (by rw[KE.v];exact S.1.bk) S.2.1).below ((aQ _ _).alloc (aL _) o))
    go_wp2
    go_roundw
    case rel=>exact⟨j+1,by go_num,by rw[LE.v],bu,NX.v _⟩
    case measure=>simp[intOf];omega
   .obtain⟨v,hv⟩:∃v,m.fr (x+j)=v+1:=⟨m.fr (x+j)-1,bu⟩;have LE:Hid (Mv.rP m x (j+1)=Mv.rP m x j+1):=hJ (by show Mv.rP m x j+(if m.fr (x+j)=0 then 0 else 1)=_;rw[aI f0]);have KE:Hid (Mv.iA m k x (j+1)=Mv.jN (Mv.iA m k x j) v):=hJ (by
     show(if m.fr (x+j)=0 then Mv.iA m k x j else Mv.jN (Mv.iA m k x j) (m.fr (x+j)-1))=_;rw[aI f0,hv,aP])
    rw[hv,show((v+1:Nat):Int)-1=(v:Int)by omega]at c1;have v64:v<64:=by have:=S.2.2.le (x+j) bu;rw[S.fr.1,hv]at this;omega
    have v1:((v:Int)== -1)=false:=by simp
    have RF:Hid (1<=(Mv.iA m k x j).refs v/\(Mv.iA m k x j).refs v<2^60):=hJ (by
     have a:=S.2.2.cL v v64;have p:=Mv.Bt (fr:=(Mv.ji m x (x+j)).fr) (f:=v) (n:=16) (i:=x+j) bu (by rw[S.fr.1,hv]);omega)
    have d0:=S.1.me.r9;have SB:Hid (∀o,UV b r q x m k w j (wr.alloc o)):=hJ (λo=>S.below ((aQ _ _).alloc (aL _) o));go_wp2_with fail
    go_region_with ((go_at_call 228;refine sC (yv r q v (Mv.iA m k x j) _ (by first|exact(SB.v _).1.bk.drew|exact(SB.v _).1.bk) v64 S.2.2.inv RF.1 RF.2) ?_;rintro w4 ⟨hk4,F4⟩;have H4:Hid (cY w4 b r (Mv.ji m x (x+j))/\dz w4 r q (Mv.jN (Mv.iA m k x j) v)/\fC b r q w w4):=hJ (by first|exact⟨(SB.v _).1.me.drew.two F4 S.1.br S.1.bq,hk4,(SB.v _).2.1.drew.trans (fC.Bi F4)⟩|exact⟨(SB.v _).1.me.two F4 S.1.br S.1.bq,hk4,(SB.v _).2.1.trans (fC.Bi F4)⟩)))
    all_goals
     have e0:=H4.1.Bn x j bu;have e1:=H4.1.Gd x j bu;have ef:=H4.1.frozen;have NX:Hid (UV b r q x m k w (j+1) ((w4.setCell ⟨b,1+x*2+j*2,bj⟩ (aa .i64 0)).setCell ⟨b,1+x*2+j*2+1,bj⟩ (aa az (-1)))):=hJ (S.step bu H4.1 (by rw[KE.v];exact H4.2.1) H4.2.2);generalize Mv.rP m x j=cj at*;go_wp2
     go_roundw
     case rel=>exact⟨j+1,by go_num,by rw[LE.v];go_num,bu,NX.v⟩
     case measure=>simp[intOf];omega
  .have hjn:j=n:=bu
   subst hjn;go_wp2
   go_ret2
   exact⟨rfl,S.1,S.2.1⟩
theorem Ie(b r q:Nat)(a n:Int)(m:Me)(k:Bk)(w:bD)(h:UB w b r q m k)(C:Mv.wZ m k):
  Calls prog 158 #[ai (bh ⟨b,0,bj⟩),aa az a,aa az n] w λe w'=>e=bf (ao #[aa az (Mv.yo m a n:Int),bG (Mv.qP a n)])/\UB w' b r q (Mv.oV m a n) (Mv.oU m k a n)/\fC b r q w w':=by
 unfold Mv.yo Mv.qP Mv.oV Mv.oU;cases hb:Mv.kK a n
 .obtain⟨x,j,rfl,rfl,hx,hk1,hk⟩:=Mv.tn hb;rw[aI bA,aI bA,aI bA,aI bA,hZ,hZ];exact Kt b r q x j m k w h C hx hk1 hk
 .rw[aJ rfl,aJ rfl,aJ rfl,aJ rfl];have HF:=hJ h;have SP:=hJ (uK b a n w hb);go_in
  go_wp2_with fail
  refine sC SP.v ?_;rintro w1 hw;subst w1;rw[bC bA];go_wp2
  go_ret2
  exact⟨rfl,HF.v,fC.refl _ _ _ _⟩
def jI(r:Nat)(m:Me):Array Value:=((List.range 33).map (kC r m)).toArray
theorem E9(r:Nat)(m:Me)(i:Nat)(h:i<33):(jI r m)[i]? =bh (kC r m i):=by simp[jI,h]
theorem z7(r:Nat)(m:Me):(jI r m).size=33:=by simp[jI]
theorem pV(r:Nat)(m:Me):(jI r m).toList.length=33:=by simp[jI]
theorem Mz(r:Nat)(m:Me):(jI r m).all (·.oneCell')=true:=by
 rw[Array.all_eq_true_iff_forall_mem];intro v hv;simp only[jI,List.mem_toArray,List.mem_map]at hv;obtain⟨o,_,rfl⟩:=hv;unfold kC;split
 .rfl
 .split<;>rfl
theorem cY.all{w:bD}{b r:Nat}{m:Me}(h:cY w b r m):w.rangeAt b 0 (jI r m).toList:=λj v hv=>by
 have hj:j<33:=by have:=(aY.1 hv).1;rwa [pV]at this
 rw[aM,E9 r m j hj]at hv;rw[Nat.zero_add,<-hv];exact h.cell j hj
def qO:Array Value:=((List.range 33).map λo=>if o=0 then ai bj else aa .i64 0).toArray
section
variable {ops:Array Oper}{rest:List Oper}{x:Oper}{a:Act}{w:bD}{Q:Exit->Act->bD->Prop}
theorem zy(hgd:x.guard=bj)(ho:x.op= .alloc 186)(h:wpList prog ops Q rest (a.put x.dst (ai (bh ⟨w.heap.size,0,bj⟩))) (w.alloc (bg qO 186))):wpList prog ops Q (x::rest) a w:=
 wpList_plain hgd λ_ hK=>by
  unfold Oper.wp execOp;simp only[ho];simp[go_sem];exact hK _ _ h
end
theorem Nu:qO.size=33:=by simp[qO]
theorem Sa{w:bD}{c r:Nat}{m:Me}(h:w.heap[c]? =bh (bg qO 186 (0,0))):cY (w.setCells c 0 (jI r m).toList) c r m:=by
 obtain⟨C',k1,k2⟩:=dY c (jI r m).toList 0 w qO h;refine⟨⟨C',k1,by rw[k2,Nu]⟩,λo ho=>?_⟩;have:=aS c (jI r m).toList 0 w (λi hi=>by
  rw[pV]at hi;rw[bO h];simp[qO];exact hi) o (by rw[pV];exact ho)
 rw[Nat.zero_add]at this;rw[this,<-aW (by rw[pV];exact ho),aM,E9 r m o ho]
def Mv.eJ(m:Me)(k:Bk)(j:Nat):Bk:={k with refs:=λf=>k.refs f+Mv.ec m.fr f j}
theorem dz.congr{w:bD}{r q:Nat}{k k':Bk}(h:dz w r q k)(e1:k'.cW=k.cW)(e2:∀f,f<64->k'.refs f=k.refs f)(e3:∀f j,f<64->k'.dA f j=k.dA f j):dz w r q k':=by
 refine⟨h.cU,λo ho=>?_,by rw[e1];exact h.cW,h.ne⟩;rw[h.cell o ho];unfold mL;by_cases c:o=0
 .rw[aJ c,aJ c]
 .rw[aI c,aI c,e2 _ bu,e3 _ _ bu]
theorem dz.Pf{w:bD}{r q:Nat}{m:Me}{k:Bk}(h:dz w r q k):dz w r q (Mv.eJ m k 0):=h.congr rfl (λ_ _=>rfl) (λ_ _ _=>rfl)
theorem dz.TQ{w:bD}{r q j:Nat}{m:Me}{k:Bk}(h:dz w r q (Mv.eJ m k j))(c:m.fr j=0):dz w r q (Mv.eJ m k (j+1)):=h.congr rfl (λf _=>by
 show k.refs f+(Mv.ec m.fr f j+if m.fr j=f+1 then 1 else 0)=k.refs f+Mv.ec m.fr f j;rw[nJ];rfl) (λ_ _ _=>rfl)
theorem dz.Sl{w:bD}{r q j v:Nat}{m:Me}{k:Bk}(h:dz w r q (Mv.eJ m k j))(c:m.fr j=v+1)(hv:v<64):dz (w.setCell ⟨r,1+v*9,bj⟩ (aa az (((Mv.eJ m k j).refs v+1:Nat):Int))) r q (Mv.eJ m k (j+1)):=(h.rI v _ hv).congr rfl (λf _=>by
 show k.refs f+(Mv.ec m.fr f j+if m.fr j=f+1 then 1 else 0)=if f=v then k.refs v+Mv.ec m.fr v j+1 else k.refs f+Mv.ec m.fr f j;by_cases e:f=v
 .subst e;rw[aJ c,aJ rfl];omega
 .rw[nJ,aI e];rfl) (λ_ _ _=>rfl)
theorem Ep(fr:Nat->Nat)(f n:Nat):Mv.ec fr f n<=n:=by
 induction n with
 |zero=>exact aL 0
 |succ n ih=>show Mv.ec fr f n+_<=n+1;split<;>omega
theorem Kr(b r q:Nat)(m:Me)(k:Bk)(w:bD)(h:UB w b r q m k)(hl:∀i,i<16->m.fr i<=64)(hr:∀f,f<64->k.refs f<2^58):
  Calls prog 144 #[ai (bh ⟨b,0,bj⟩)] w λe w'=>e=bf (ai (bh ⟨w.heap.size,0,bj⟩))/\cY w' w.heap.size r m/\UB w' b r q m (Mv.eJ m k 16)/\bE r w w':=by
 have HF:=hJ (aK h (aK hl hr));have HR:=hJ h.me.all;have hs1:Hid ((prog.info? 186).map (·.size)=bh (jI r m).toList.length):=hJ (by rw[pV];kernel_rfl);have hs2:Hid ((prog.info? 186).map (·.size)=bh (jI r m).size):=hJ (by rw[z7];kernel_rfl);have h1c:=hJ (Mz r m);have N0:Hid ((w.alloc (bg qO 186)).heap[w.heap.size]? =bh (bg qO 186 (0,0))):=hJ (heap_alloc_new w _);have TH:Hid ((w.alloc (bg qO 186)).there w.heap.size 0 (jI r m).size):=hJ (λj hj=>by
  rw[z7]at hj;refine⟨?_,cv N0.v _⟩;rw[bO N0.v];simp[qO];exact hj)
 have FIN:Hid (cY ((w.alloc (bg qO 186)).setCells w.heap.size 0 (jI r m).toList) w.heap.size r m/\UB ((w.alloc (bg qO 186)).setCells w.heap.size 0 (jI r m).toList) b r q m k/\Below w.heap.size w ((w.alloc (bg qO 186)).setCells w.heap.size 0 (jI r m).toList)):=hJ (by
  have bb:Below w.heap.size w ((w.alloc (bg qO 186)).setCells w.heap.size 0 (jI r m).toList):=(bE.setCells _ _ (bE.refl w.heap.size _)).below ((aQ _ _).alloc (aL _) _) (aL _) (by simp);exact⟨Sa N0.v,HF.1.below bb,bb⟩)
 obtain⟨A,hA⟩:=hU (jI r m);rw[hA]at HR hs1 hs2 h1c TH FIN;go_in
 go_upto_region 2 with(first|(refine wpList_load_mid rfl 186 _ rfl b 0 rfl A.toList _ HR.v Tryz.underlying186 rfl hs1.v ?_;rw[Array.toArray_toList])|(refine zy rfl rfl ?_)|(refine wpList_store_mid rfl 186 _ _ rfl w.heap.size 0 A rfl rfl TH.v hs2.v h1c.v ?_))
 refine cG (λW=>cY W w.heap.size r m/\UB W b r q m k/\Below w.heap.size w W) FIN.v ?_;intro W1 hW1;have S1:=hJ hW1;obtain⟨c,hc⟩:=hU (w.heap.size);have HC:Hid (w.heap.size=c/\c≠r/\c≠q/\b≠c):=hJ ⟨hc,by have:=HF.1.bk.lt;omega,by have:=HF.1.bk.Cm;omega,by have:=HF.1.me.lt;omega⟩;rw[hc]at S1|-;have hsz:=hJ (Ah m);have HR:=hJ S1.1.range;go_wp2_with (refine wpList_load_mid rfl 184 _ rfl c 1 rfl (rowP m) (.array 16 183) HR.v bw rfl hsz.v ?_)
 have S2:Hid (cY W1 c r m/\UB W1 b r q m (Mv.eJ m k 0)/\bE r w W1):=hJ ⟨S1.1,⟨S1.2.1.me,S1.2.1.bk.Pf,S1.2.1.br,S1.2.1.bq⟩,bE.cC (by have:=S1.2.2;rw[<-HC.1]at this;exact this)⟩;go_loopw [11] (λi wr=>∃(j:Nat),i=aa az j/\j<=16/\Hid (cY wr c r m/\UB wr b r q m (Mv.eJ m k j)/\bE r w wr)) (λi _=>16-(intOf i).toNat)
 case atStart=>exact⟨0,rfl,bu,S2⟩
 case round=>
  obtain⟨j,rfl,hj,S⟩:=hrel;by_cases hlt:j<16
  .have hltI:(j:Int)<16:=bu
   have hix:=xL m j hlt;have AL:Hid (∀o,cY (wr.alloc o) c r m/\UB (wr.alloc o) b r q m (Mv.eJ m k j)/\bE r w (wr.alloc o)):=hJ (λo=>by
    have bb:Below wr.heap.size wr (wr.alloc o):=(aQ _ _).alloc (aL _) o;exact⟨S.1.below bb,S.2.1.below bb,S.2.2.trans (bE.cC bb)⟩)
   generalize m.is j=u0 at*;by_cases f0:m.fr j=0
   .have NX:Hid (∀o,cY (wr.alloc o) c r m/\UB (wr.alloc o) b r q m (Mv.eJ m k (j+1))/\bE r w (wr.alloc o)):=hJ (λo=>⟨(AL.v o).1,⟨(AL.v o).2.1.me,(AL.v o).2.1.bk.TQ f0,(AL.v o).2.1.br,(AL.v o).2.1.bq⟩,(AL.v o).2.2⟩);rw[f0]at hix;go_wp2
    go_roundw
    case rel=>exact⟨j+1,by go_num,bu,NX.v _⟩
    case measure=>simp[intOf];omega
   .obtain⟨v,hv⟩:∃v,m.fr j=v+1:=⟨m.fr j-1,bu⟩;have v64:v<64:=by have:=HF.2.1 j hlt;omega
    rw[hv,show((v+1:Nat):Int)-1=(v:Int)by omega]at hix;have v1:((v:Int)== -1)=false:=by simp
    have vI:(v:Int)<64:=bu
    have hcl:=Ep m.fr v j;have hrl:=HF.2.2 v v64;have rfl2:Hid ((Mv.eJ m k j).refs v<2^59):=hJ (by show k.refs v+Mv.ec m.fr v j<_;omega);have NX:Hid (∀W,cY W c r m->UB W b r q m (Mv.eJ m k j)->bE r w W->cY (W.setCell ⟨r,1+v*9,bj⟩ (aa az (((Mv.eJ m k j).refs v+1:Nat):Int))) c r m/\UB (W.setCell ⟨r,1+v*9,bj⟩ (aa az (((Mv.eJ m k j).refs v+1:Nat):Int))) b r q m (Mv.eJ m k (j+1))/\bE r w (W.setCell ⟨r,1+v*9,bj⟩ (aa az (((Mv.eJ m k j).refs v+1:Nat):Int)))):=hJ (λW a1 a2 a3=>
     ⟨a1.same (dJ _ _ _ _ HC.2.1),⟨a2.me.same (dJ _ _ _ _ a2.br),a2.bk.Sl hv v64,a2.br,a2.bq⟩,a3.setCell _ _⟩)
    obtain⟨rv,hrv⟩:=hU ((Mv.eJ m k j).refs v);rw[hrv]at NX rfl2;have CR:Hid (∀W,UB W b r q m (Mv.eJ m k j)->W.cell? ⟨r,1+v*9,bj⟩=bh (aa az (rv:Int))):=hJ (λW hW=>by rw[<-hrv];exact hW.bk.xC v v64);have rl:=rfl2.v;have hw:IntKind.i64.wrap ((rv:Int)+1)=(rv:Int)+1:=aN _ ⟨by omega,bu⟩;go_upto_region 6 with fail
    refine cG (λW=>(cY W c r m/\UB W b r q m (Mv.eJ m k j)/\bE r w W)/\W.heap[wr.heap.size]? =bh (bg #[aa az (u0:Int),aa az (v:Int)] 183 (0,0))) ⟨AL.v _,heap_alloc_new wr _⟩ ?_;rintro W2 ⟨h2,x2⟩;have H2:=hJ h2;have d0:=h2.2.1.me.r9;have d1:=cH x2 1 _ rfl;have d2:=CR.v _ h2.2.1;have df:=h2.2.1.bk.frozen;generalize wr.heap.size=bp at*;go_region
    generalize hW:World.drew _=W3;have H3:Hid (cY W3 c r m/\UB W3 b r q m (Mv.eJ m k (j+1))/\bE r w W3):=hJ (by
     rw[<-hW];have a:=NX.v W2 H2.1 H2.2.1 H2.2.2;exact⟨a.1.drew,a.2.1.drew,a.2.2.drew⟩)
    go_wp2
    go_roundw
    case rel=>exact⟨j+1,by go_num,bu,H3⟩
    case measure=>simp[intOf];omega
  .have hj16:j=16:=bu
   subst hj16;go_wp2
   go_ret
   rw[HC.1];exact⟨rfl,S.v⟩
