import Derived.Test.YtpmmdkcfenjiaaaGreatDoorGae
set_option maxRecDepth 100000
set_option maxHeartbeats 2000000
set_option linter.unusedVariables false
set_option linter.unusedSimpArgs false
namespace Go.Proofs.YtpmmdkcfenjiaaaGreatDoor
open Value renaming int->aa,pointer->ai,slice->aj,tuple->ao,bool->ar,agg->au
open IntKind renaming i64->az,u8->bc
open Ending renaming returned->bf
open Obj renaming cells->bh
open Option renaming some->bj,none->bu
open Bool renaming true->bw,false->bA
open Tryz (prog)
open Go.RowKit
variable {wr:Bool}{E e:Int}{a b f g i j n q r v x:Nat}{fs:Nat->Nat}{w:bD}
namespace Mv
structure Me where
 is:Nat->Nat
 fr:Nat->Nat
def lu(a n:Int):Bool:=decide (a<0\/15<a\/n<1\/16-a<n)
def j5(m:Me)(z:Int)(wr:Bool):Bool:=if z<0\/127<z then bA else decide (m.is (z.toNat/8)=2)||(decide (m.is (z.toNat/8)=1)&& !wr)
def kZ(m:Me)(z:Int):Bool:=j5 m z bA&&decide (m.fr (z.toNat/8)=0)
def qQ(m:Me)(a e:Nat)(wr:Bool):Me:={m with is:=λi=>if a<=i/\i<e then(if wr then 2 else 1)else m.is i}
def anyM(m:Me)(a e:Nat):Bool:=(List.range 16).any (λi=>decide (a<=i/\i<e)&&decide (m.is i≠0))
def allM(m:Me)(a e:Nat):Bool:=(List.range 16).all (λi=> !decide (a<=i/\i<e)||decide (m.is i≠0))
def se(m:Me)(a n:Int):Int:=if lu a n=bw then 1 else if anyM m a.toNat (a.toNat+n.toNat)=bw then 3 else 0
def mapM(m:Me)(a n:Int)(wr:Bool):Me:=if se m a n=0 then qQ m a.toNat (a.toNat+n.toNat) wr else m
def si(m:Me)(a n:Int):Int:=if lu a n=bw then 1 else if allM m a.toNat (a.toNat+n.toNat)=bw then 0 else 10
def vm(m:Me)(a n:Int)(wr:Bool):Me:=if si m a n=0 then qQ m a.toNat (a.toNat+n.toNat) wr else m
def cU(m:Me):Nat->Nat
 |0=>0
 |k+1=>cU m k+if m.fr k=0 then 0 else 1
theorem sE{a n:Int}(h:lu a n=bA):∃x k:Nat,a=x/\n=k/\x<16/\1<=k/\x+k<=16:=by
 unfold lu at h;rw[decide_eq_false_iff_not]at h;exact⟨a.toNat,n.toNat,bB,bB,bB,bB,bB⟩
theorem Lh{m:Me}(hi:a<=i)(x:Nat):(qQ m a (i+1) wr).is x=if x=i then(if wr then 2 else 1)else(qQ m a i wr).is x:=by
 show(if a<=x/\x<i+1 then(if wr then 2 else 1)else m.is x)=if x=i then(if wr then 2 else 1)else(if a<=x/\x<i then(if wr then 2 else 1)else m.is x);by_cases c:x=i
 .rw[nL,aJ c]
 .rw[aI c];by_cases d:a<=x/\x<i
  .rw[nL,aJ d]
  .rw[nK,aI d]
theorem Lg(m:Me)(a:Nat)(wr:Bool)(x:Nat):(qQ m a a wr).is x=m.is x:=by
 show(if a<=x/\x<a then _ else m.is x)=m.is x;rw[nK]
theorem Nn{m:Me}{e:Nat}(he:e<=16):anyM m a e=bw↔∃i,a<=i/\i<e/\m.is i≠0:=by
 unfold anyM;rw[List.any_eq_true];constructor
 .rintro⟨i,_,h⟩;simp only[Bool.and_eq_true,decide_eq_true_eq]at h;exact⟨i,h.1.1,h.1.2,h.2⟩
 .rintro⟨i,h1,h2,h3⟩;exact⟨i,by simp;omega,by simp only[Bool.and_eq_true,decide_eq_true_eq];exact⟨⟨h1,h2⟩,h3⟩⟩
theorem CS{m:Me}{e:Nat}(he:e<=16):allM m a e=bw↔∀i,a<=i->i<e->m.is i≠0:=by
 unfold allM;rw[List.all_eq_true];constructor
 .intro h i h1 h2;have:=h i (by simp;omega);simp only[Bool.or_eq_true,Bool.not_eq_true',decide_eq_false_iff_not,decide_eq_true_eq]at this;rcases this with c|c
  .exact aZ ⟨h1,h2⟩ c
  .exact c
 .intro h i _;simp only[Bool.or_eq_true,Bool.not_eq_true',decide_eq_false_iff_not,decide_eq_true_eq];by_cases c:a<=i/\i<e
  .exact .inr (h i c.1 c.2)
  .exact .inl c
end Mv
open Mv (Me)
section
variable {w w':bD}{b r:Nat}{m m':Me}{own own':Nat->Bool}
def jk(f:Nat->Nat)(i v:Nat):Nat->Nat:=λj=>if j=i then v else f j
end
theorem Dh(x:Nat):((x:Int)/8).toNat=x/8:=bB
section
attribute [local go_sem] Dh
end
theorem qv(m:Me)(k:Nat):Mv.cU m k<=k:=by
 induction k with
 |zero=>exact aL 0
 |succ k ih=>show Mv.cU m k+_<=k+1;split<;>omega
open Bd (P)
namespace Mv
structure Bk where
 cX:P
 dJ:Nat->Nat->Int
 refs:Nat->Nat
def Gv(k:Bk)(p:P)(f:Nat):Bk:=⟨p,λg j=>if g=f then 0 else k.dJ g j,λg=>if g=f then 1 else k.refs g⟩
def uE(k:Bk)(e:Int)(f:Nat)(k':Bk):Prop:=∃p',Bd.qy k.cX 0 e f p'/\k'=if e=0 then Gv k p' f else{k with cX:=p'}
def kH(k:Bk)(f:Nat):Bk:={k with refs:=λg=>if g=f then k.refs f-1 else k.refs g,cX:=if k.refs f=1 then Bd.lJ k.cX f else k.cX}
end Mv
open Mv (Bk)
section
variable {w w':bD}{r q:Nat}{k k':Bk}
def PS(g:Nat->Int):Array Value:=#[aa bc (g 0),aa bc (g 1),aa bc (g 2),aa bc (g 3),aa bc (g 4),aa bc (g 5),aa bc (g 6),aa bc (g 7)]
theorem pE(g:Nat->Int)(j:Nat)(hj:j<8):(PS g)[j]? =bj (aa bc (g j)):=by
 match j,hj with
 |0,_=>rfl
 |1,_=>rfl
 |2,_=>rfl
 |3,_=>rfl
 |4,_=>rfl
 |5,_=>rfl
 |6,_=>rfl
 |7,_=>rfl
end
theorem yA{p p':P}(h:Bd.qy p 0 e f p'):f<64:=by
 rcases h with⟨_,_,rfl,_⟩|⟨_,_,_,rfl,_⟩|⟨_,h,_,_⟩
 .decide
 .decide
 .exact h.lt
def Mv.CY:Bk:=⟨Bd.b0,λ_ _=>0,λ_=>0⟩
open Mv (Me Bk)
namespace Mv
def Bi(k:Bk)(f g:Nat):Bk:={k with dJ:=λa i=>if a=g then k.dJ f i else k.dJ a i}
def mO(m:Me)(k:Bk)(z:Int)(wr:Bool)(E:Int)(g:Nat)(m':Me)(k':Bk):Prop:=
 (j5 m z wr=bA/\E=10/\g=0/\m'=m/\k'=k)\/
 (j5 m z wr=bw/\m.fr (z.toNat/8)≠0/\(wr=bA\/k.refs (m.fr (z.toNat/8)-1)=1)/\E=0/\g=m.fr (z.toNat/8)-1/\m'=m/\k'=k)\/
 (j5 m z wr=bw/\¬(m.fr (z.toNat/8)≠0/\(wr=bA\/k.refs (m.fr (z.toNat/8)-1)=1))/\∃k1,uE k E g k1/\
  ((E≠0/\m'=m/\k'=k1)\/(E=0/\m'={m with fr:=jk m.fr (z.toNat/8) (g+1)}/\k'=if m.fr (z.toNat/8)=0 then k1 else kH (Bi k1 (m.fr (z.toNat/8)-1) g) (m.fr (z.toNat/8)-1))))
end Mv
structure fR (b r q:Nat)(w w':bD):Prop where
 os:w'.os=w.os
 tape:w'.tape=w.tape
 output:w'.output=w.output
 size:w.heap.size<=w'.heap.size
 block:∀k,k<w.heap.size->k≠b->k≠r->k≠q->w'.heap[k]? =w.heap[k]?
section
variable {b r q:Nat}{u v w:bD}
theorem fR.refl(b r q:Nat)(w:bD):fR b r q w w:=⟨rfl,rfl,rfl,aL _,λ_ _ _ _ _=>rfl⟩
theorem fR.trans(h:fR b r q u v)(k:fR b r q v w):fR b r q u w:=⟨k.os.trans h.os,k.tape.trans h.tape,k.output.trans h.output,aH h.size k.size,λj hj h1 h2 h3=>(k.block j (aD hj h.size) h1 h2 h3).trans (h.block j hj h1 h2 h3)⟩
theorem fR.mem(h:bH b u v):fR b r q u v:=⟨h.os,h.tape,h.output,h.size,λk hk h1 _ _=>h.block k hk h1⟩
theorem fR.CW(h:js r q u v):fR b r q u v:=⟨h.os,h.tape,h.output,h.size,λk hk _ h1 h2=>h.block k hk h1 h2⟩
end
section
attribute [local go_sem] Dh
end
section
attribute [local go_sem] Dh
theorem Lr{m:Me}{z:Int}(h:Mv.j5 m z wr=bw):∃x:Nat,z=x/\x<128:=by
 have hz:¬(z<0\/127<z):=λc=>by unfold Mv.j5 at h;rw[aJ c]at h;cases h
 exact⟨z.toNat,bB,bB⟩
end
def Mv.Mi(k:Bk)(g j:Nat)(v:Int):Bk:={k with dJ:=λa i=>if a=g/\i=j then v else k.dJ a i}
theorem Ua(x:Nat):((x:Int)%8).toNat=x%8:=bB
section
attribute [local go_sem] Ua
end
namespace Mv
def eS(fr:Nat->Nat)(f:Nat):Nat->Nat
 |0=>0
 |i+1=>eS fr f i+if fr i=f+1 then 1 else 0
theorem qj{fr:Nat->Nat}(h:∀i,i<n->fs i=fr i):eS fs f n=eS fr f n:=by
 induction n with
 |zero=>rfl
 |succ n ih=>show eS fs f n+_=eS fr f n+_;rw[ih (λi hi=>h i bB),h n bB]
theorem NA{fr:Nat->Nat}(hi:i<n)(e:fr i=f+1)(h0:fs i=0)(h:∀j,j≠i->fs j=fr j):eS fs f n+1=eS fr f n:=by
 induction n with
 |zero=>omega
 |succ n ih=>
  show eS fs f n+(if fs n=f+1 then 1 else 0)+1=eS fr f n+if fr n=f+1 then 1 else 0;by_cases c:i=n
  .subst c;rw[qj (λj hj=>h j bB),h0,e,nK,aJ rfl]
  .rw[h n (λd=>c d.symm)];have:=ih bB;omega
theorem It{fr:Nat->Nat}(e:fr i≠f+1)(h0:fs i=0)(h:∀j,j≠i->fs j=fr j):eS fs f n=eS fr f n:=by
 induction n with
 |zero=>rfl
 |succ n ih=>
  show eS fs f n+_=eS fr f n+_;rw[ih];by_cases c:i=n
  .subst c;rw[h0,nK,aI e]
  .rw[h n (λd=>c d.symm)]
theorem Dd{fr:Nat->Nat}(hi:i<n)(e:fr i=f+1):1<=eS fr f n:=by
 induction n with
 |zero=>omega
 |succ n ih=>
  show 1<=eS fr f n+if fr n=f+1 then 1 else 0;by_cases c:i=n
  .subst c;rw[aJ e];omega
  .have:=ih bB;omega
structure yo (m:Me)(k:Bk):Prop where
 inv:Bd.Inv k.cX
 nb:Bd.NB k.cX 64
 le:∀i,i<16->m.fr i<=64
 cQ:∀f,f<64->eS m.fr f 16<=k.refs f/\k.refs f<2^59
def iN(m:Me)(a i:Nat):Me:=⟨λx=>if a<=x/\x<i then 0 else m.is x,λx=>if a<=x/\x<i then 0 else m.fr x⟩
def jc(m:Me)(k:Bk)(a:Nat):Nat->Bk
 |0=>k
 |j+1=>if m.fr (a+j)=0 then jc m k a j else kH (jc m k a j) (m.fr (a+j)-1)
def mN(m:Me)(a:Nat):Nat->Nat
 |0=>0
 |j+1=>mN m a j+if m.fr (a+j)=0 then 0 else 1
theorem UF(m:Me)(a j:Nat):mN m a j<=j:=by
 induction j with
 |zero=>exact aL 0
 |succ j ih=>show mN m a j+_<=j+1;split<;>omega
theorem IE(a j:Nat){α}(x y:α):(if a<=a+j/\a+j<a+(j+1)then x else y)=x:=nL
theorem An(h:x≠a+j){α}(u v:α):(if a<=x/\x<a+(j+1)then u else v)=if a<=x/\x<a+j then u else v:=by
 by_cases c:a<=x/\x<a+j
 .rw[aJ c,nL]
 .rw[aI c,nK]
theorem yo.step{m:Me}{k:Bk}(h:yo (iN m a (a+j)) (jc m k a j))(hj:a+j<16):yo (iN m a (a+(j+1))) (jc m k a (j+1)):=by
 have e0:(iN m a (a+j)).fr (a+j)=m.fr (a+j):=nK;have e1:(iN m a (a+(j+1))).fr (a+j)=0:=IE a j _ _;have e2:∀x,x≠a+j->(iN m a (a+(j+1))).fr x=(iN m a (a+j)).fr x:=λx hx=>An hx _ _;have le:∀i,i<16->(iN m a (a+(j+1))).fr i<=64:=λi hi=>by
  by_cases c:i=a+j
  .subst c;rw[e1];omega
  .rw[e2 i c];exact h.le i hi
 by_cases c:m.fr (a+j)=0
 .have eK:jc m k a (j+1)=jc m k a j:=aJ c;rw[eK];refine⟨h.inv,h.nb,le,λf hf=>?_⟩;rw[qj (fr:=(iN m a (a+j)).fr) (λx _=>by
   by_cases d:x=a+j
   .subst d;rw[e1,e0,c]
   .exact e2 x d)]
  exact h.cQ f hf
 .have eK:jc m k a (j+1)=kH (jc m k a j) (m.fr (a+j)-1):=aI c;rw[eK];have l:=h.le (a+j) hj;rw[e0]at l;have ip:Bd.Inv (kH (jc m k a j) (m.fr (a+j)-1)).cX/\Bd.NB (kH (jc m k a j) (m.fr (a+j)-1)).cX 64:=by
   show Bd.Inv (if _ then _ else _)/\Bd.NB (if _ then _ else _) 64;split
   .exact h.inv.Tw h.nb _
   .exact⟨h.inv,h.nb⟩
  refine⟨ip.1,ip.2,le,λf hf=>?_⟩;have hc:=h.cQ f hf;show _<=(if f=m.fr (a+j)-1 then(jc m k a j).refs (m.fr (a+j)-1)-1 else(jc m k a j).refs f)/\(if f=m.fr (a+j)-1 then(jc m k a j).refs (m.fr (a+j)-1)-1 else(jc m k a j).refs f)<2^59;by_cases d:f=m.fr (a+j)-1
  .have:=NA (f:=f) hj (by rw[e0];omega) e1 e2;rw[aJ d,<-d];omega
  .rw[aI d,It (fr:=(iN m a (a+j)).fr) (by rw[e0];omega) e1 e2];exact hc
end Mv
theorem E9{m:Me}(h:x≠a+j):(Mv.iN m a (a+(j+1))).is x=(Mv.iN m a (a+j)).is x/\(Mv.iN m a (a+(j+1))).fr x=(Mv.iN m a (a+j)).fr x:=⟨Mv.An h _ _,Mv.An h _ _⟩
theorem Mw(m:Me)(a j:Nat):(Mv.iN m a (a+(j+1))).is (a+j)=0/\(Mv.iN m a (a+(j+1))).fr (a+j)=0:=⟨Mv.IE a j _ _,Mv.IE a j _ _⟩
def Mv.oF(a n:Int):Int:=if lu a n=bw then 1 else 0
def Mv.qa(m:Me)(a n:Int):Nat:=if lu a n=bw then 0 else mN m a.toNat n.toNat
def Mv.jM(m:Me)(a n:Int):Me:=if lu a n=bw then m else iN m a.toNat (a.toNat+n.toNat)
def Mv.ml(m:Me)(k:Bk)(a n:Int):Bk:=if lu a n=bw then k else jc m k a.toNat n.toNat
def nY(q:Nat)(k:Bk)(o:Nat):Value:=if o=0 then ai (bj ⟨q,0,bu⟩)else if(o-1)%9=0 then aa az (k.refs ((o-1)/9):Int)else aa bc (k.dJ ((o-1)/9) ((o-1)%9-1))
structure dH (w:bD)(r q:Nat)(k:Bk):Prop where
 dk:∃C,w.heap[r]? =bj (bh C 219 (0,0))/\C.size=577
 cell:∀o,o<577->w.cell? ⟨r,o,bu⟩=bj (nY q k o)
 cX:dX w q k.cX
 ne:q≠r
section
variable {w w':bD}{r q:Nat}{k k':Bk}
theorem dH.drew(h:dH w r q k):dH w.drew r q k:=⟨h.dk,h.cell,h.cX.drew,h.ne⟩
theorem dH.frozen(h:dH w r q k)(o:Nat):w.frozen? ⟨r,o,bu⟩=bA:=by obtain⟨C,h1,_⟩:=h.dk;exact cE h1 o
theorem dH.lt(h:dH w r q k):r<w.heap.size:=by obtain⟨C,h1,_⟩:=h.dk;exact(aX.1 h1).1
theorem dH.DU(h:dH w r q k):q<w.heap.size:=h.cX.lt
theorem dH.same(h:dH w r q k)(e:w'.heap[r]? =w.heap[r]?)(e2:w'.heap[q]? =w.heap[q]?):dH w' r q k:=⟨by rw[e];exact h.dk,λo ho=>(aV e).trans (h.cell o ho),h.cX.same e2,h.ne⟩
theorem dH.below(h:dH w r q k)(b:Below w.heap.size w w'):dH w' r q k:=h.same (b.block r h.lt) (b.block q h.DU)
theorem dH.Fp(h:dH w r q k){p:P}(f:bH q w w')(kp:dX w' q p):dH w' r q {k with cX:=p}:=by
 have e:=f.block r h.lt (bQ h.ne);exact⟨by rw[e];exact h.dk,λo ho=>(aV e).trans (h.cell o ho),kp,h.ne⟩
theorem dH.cP(h:dH w r q k):w.cell? ⟨r,0,bu⟩=bj (ai (bj ⟨q,0,bu⟩)):=h.cell 0 bB
theorem dH.cB(h:dH w r q k)(f j:Nat)(hf:f<64)(hj:j<8):w.cell? ⟨r,1+f*9+1+j,bu⟩=bj (aa bc (k.dJ f j)):=by
 rw[h.cell _ bB,nY,nK,nK,show(1+f*9+1+j-1)/9=f by omega,show(1+f*9+1+j-1)%9-1=j by omega]
theorem dH.yJ(h:dH w r q k)(f:Nat)(hf:f<64):w.cell? ⟨r,1+f*9,bu⟩=bj (aa az (k.refs f:Int)):=by
 rw[h.cell _ bB,nY,nK,nL,show(1+f*9-1)/9=f by omega]
theorem dX.GD{p:P}(h:dX w q p)(hne:q≠r)(o:Nat)(v:Value):dX (w.setCell ⟨r,o,bu⟩ v) q p:=h.same (dR _ _ _ _ hne)
theorem dH.set(h:dH w r q k)(o:Nat)(ho:o<577)(v:Value)(hp:k'.cX=k.cX)(hv:∀i,i<577->nY q k' i=if i=o then v else nY q k i):dH (w.setCell ⟨r,o,bu⟩ v) r q k':=by
 obtain⟨C,h1,h2⟩:=h.dk;refine⟨⟨_,cO h1 _ v,by simpa using h2⟩,λi hi=>?_,by rw[hp];exact h.cX.GD h.ne o v,h.ne⟩;rw[hv i hi];by_cases e:i=o
 .subst e;rw[dE h1 _ v bB,aJ rfl]
 .rw[du h1 _ _ v (bQ e),aI e];exact h.cell i hi
theorem dH.sR(h:dH w r q k)(f v:Nat)(hf:f<64):dH (w.setCell ⟨r,1+f*9,bu⟩ (aa az (v:Int))) r q {k with refs:=λg=>if g=f then v else k.refs g}:=by
 refine h.set (1+f*9) bB _ rfl (λx hx=>?_);unfold nY;by_cases c0:x=0
 .rw[aJ c0,aJ c0,nK]
 .rw[aI c0,aI c0];by_cases c:(x-1)%9=0
  .rw[aJ c,aJ c];by_cases e:x=1+f*9
   .rw[aJ e];simp[show(x-1)/9=f by omega]
   .rw[aI e];simp[show(x-1)/9≠f by omega]
  .rw[aI c,aI c,nK]
theorem dH.VO(h:dH w r q k)(f j:Nat)(v:Int)(hf:f<64)(hj:j<8):dH (w.setCell ⟨r,1+f*9+1+j,bu⟩ (aa bc v)) r q (Mv.Mi k f j v):=by
 refine h.set (1+f*9+1+j) bB _ rfl (λx hx=>?_);unfold nY Mv.Mi;by_cases c0:x=0
 .rw[aJ c0,aJ c0,nK]
 .rw[aI c0,aI c0];by_cases c:(x-1)%9=0
  .rw[aJ c,aJ c,nK]
  .rw[aI c,aI c];by_cases e:x=1+f*9+1+j
   .rw[aJ e];simp[show(x-1)/9=f by omega,show(x-1)%9-1=j by omega]
   .rw[aI e];simp[show¬((x-1)/9=f/\(x-1)%9-1=j)by omega]
def yQ(n:Int)(g:Nat->Int):Array Value:=#[aa az n,aa bc (g 0),aa bc (g 1),aa bc (g 2),aa bc (g 3),aa bc (g 4),aa bc (g 5),aa bc (g 6),aa bc (g 7)]
theorem mU(n:Int)(g:Nat->Int)(j:Nat)(hj:j<9):(yQ n g)[j]? =bj (if j=0 then aa az n else aa bc (g (j-1))):=by
 match j,hj with
 |0,_=>rfl
 |1,_=>rfl
 |2,_=>rfl
 |3,_=>rfl
 |4,_=>rfl
 |5,_=>rfl
 |6,_=>rfl
 |7,_=>rfl
 |8,_=>rfl
def Mv.xP(k:Bk)(f n:Nat)(g:Nat->Int):Bk:={k with dJ:=λa i=>if a=f then g i else k.dJ a i,refs:=λa=>if a=f then n else k.refs a}
theorem dH.Pd(h:dH w r q k)(f n:Nat)(hf:f<64)(g:Nat->Int):dH (w.setCells r (1+f*9) (yQ (n:Int) g).toList) r q (Mv.xP k f n g):=by
 obtain⟨C,h1,h2⟩:=h.dk;have ht:∀j,j<9->(w.cell? ⟨r,1+f*9+j,bu⟩).isSome=bw:=λj hj=>by rw[h.cell _ bB];rfl
 have hs:(yQ (n:Int) g).toList.length=9:=rfl;obtain⟨C',k1,k2⟩:=eR r (yQ (n:Int) g).toList (1+f*9) w C h1;refine⟨⟨C',k1,bB⟩,λx hx=>?_,h.cX.same (nA r _ _ _ _ h.ne),h.ne⟩;by_cases c:1+f*9<=x/\x<1+f*9+9
 .obtain⟨j,rfl,hj⟩:∃j,x=1+f*9+j/\j<9:=⟨x-(1+f*9),bB,bB⟩;rw[aS r (yQ (n:Int) g).toList (1+f*9) w (λi hi=>ht i bB) j bB,<-aW bB,aM,mU _ g j hj];unfold nY Mv.xP;rw[aI (show¬1+f*9+j=0 by omega),show(1+f*9+j-1)/9=f by omega,show(1+f*9+j-1)%9=j by omega];simp
 .rw[aA r _ (1+f*9) w ⟨r,x,bu⟩ (λ_ _=>by rw[hs];show x<_\/_<=x;omega),h.cell x hx];unfold nY Mv.xP;by_cases c0:x=0
  .rw[aJ c0,aJ c0]
  .rw[aI c0,aI c0];simp[show(x-1)/9≠f by omega]
end
def lH(r:Nat)(m:Me)(o:Nat):Value:=if o=0 then ai (bj ⟨r,0,bu⟩)else if(o-1)%2=0 then aa az (m.is ((o-1)/2):Int)else aa az ((m.fr ((o-1)/2):Int)-1)
structure dq (w:bD)(b r:Nat)(m:Me):Prop where
 dk:∃C,w.heap[b]? =bj (bh C 186 (0,0))/\C.size=33
 cell:∀o,o<33->w.cell? ⟨b,o,bu⟩=bj (lH r m o)
section
variable {w w':bD}{b r:Nat}{m m':Me}
theorem dq.drew(h:dq w b r m):dq w.drew b r m:=⟨h.dk,h.cell⟩
theorem dq.frozen(h:dq w b r m)(o:Nat):w.frozen? ⟨b,o,bu⟩=bA:=by obtain⟨C,h1,_⟩:=h.dk;exact cE h1 o
theorem dq.lt(h:dq w b r m):b<w.heap.size:=by obtain⟨C,h1,_⟩:=h.dk;exact(aX.1 h1).1
theorem dq.same(h:dq w b r m)(e:w'.heap[b]? =w.heap[b]?):dq w' b r m:=⟨by rw[e];exact h.dk,λo ho=>(aV e).trans (h.cell o ho)⟩
theorem dq.below(h:dq w b r m)(k:Below w.heap.size w w'):dq w' b r m:=h.same (k.block b h.lt)
theorem dq.congr(h:dq w b r m)(e:∀n,n<16->m'.is n=m.is n/\m'.fr n=m.fr n):dq w b r m':=⟨h.dk,λo ho=>by
 rw[h.cell o ho];unfold lH;by_cases c:o=0
 .rw[aJ c,aJ c]
 .rw[aI c,aI c,(e _ bB).1,(e _ bB).2]⟩
theorem dq.tA(h:dq w b r m):w.cell? ⟨b,0,bu⟩=bj (ai (bj ⟨r,0,bu⟩)):=h.cell 0 bB
theorem dq.Vs(h:dq w b r m)(i:Nat)(hi:i<16):w.cell? ⟨b,1+i*2,bu⟩=bj (aa az (m.is i:Int)):=by
 rw[h.cell _ bB,lH,nK,nL,show(1+i*2-1)/2=i by omega]
theorem dq.wO(h:dq w b r m)(i:Nat)(hi:i<16):w.cell? ⟨b,1+i*2+1,bu⟩=bj (aa az ((m.fr i:Int)-1)):=by
 rw[h.cell _ bB,lH,nK,nK,show(1+i*2+1-1)/2=i by omega]
theorem dq.set(h:dq w b r m)(o:Nat)(ho:o<33)(v:Value)(hv:∀i,i<33->lH r m' i=if i=o then v else lH r m i):dq (w.setCell ⟨b,o,bu⟩ v) b r m':=by
 obtain⟨C,h1,h2⟩:=h.dk;refine⟨⟨_,cO h1 _ v,by simpa using h2⟩,λi hi=>?_⟩;rw[hv i hi];by_cases e:i=o
 .subst e;rw[dE h1 _ v bB,aJ rfl]
 .rw[du h1 _ _ v (bQ e),aI e];exact h.cell i hi
theorem dq.Qo(h:dq w b r m)(i v:Nat)(hi:i<16):dq (w.setCell ⟨b,1+i*2,bu⟩ (aa az (v:Int))) b r {m with is:=jk m.is i v}:=by
 refine h.set (1+i*2) bB _ (λx hx=>?_);unfold lH jk;by_cases c0:x=0
 .rw[aJ c0,aJ c0,nK]
 .rw[aI c0,aI c0];by_cases c:(x-1)%2=0
  .rw[aJ c,aJ c];by_cases e:x=1+i*2
   .rw[aJ e];simp[show(x-1)/2=i by omega]
   .rw[aI e];simp[show(x-1)/2≠i by omega]
  .rw[aI c,aI c,nK]
theorem dq.CD(h:dq w b r m)(i v:Nat)(hi:i<16)(u:Int)(hu:u=(v:Int)-1):dq (w.setCell ⟨b,1+i*2+1,bu⟩ (aa az u)) b r {m with fr:=jk m.fr i v}:=by
 subst hu;refine h.set (1+i*2+1) bB _ (λx hx=>?_);unfold lH jk;by_cases c0:x=0
 .rw[aJ c0,aJ c0,nK]
 .rw[aI c0,aI c0];by_cases c:(x-1)%2=0
  .rw[aJ c,aJ c,nK]
  .rw[aI c,aI c];by_cases e:x=1+i*2+1
   .rw[aJ e];simp[show(x-1)/2=i by omega]
   .rw[aI e];simp[show(x-1)/2≠i by omega]
end
structure UB (w:bD)(b r q:Nat)(m:Me)(k:Bk):Prop where
 me:dq w b r m
 bk:dH w r q k
 br:b≠r
 bq:b≠q
section
variable {b r q:Nat}{u v w:bD}
theorem dH.mV{k:Bk}(h:dH u r q k)(f:bH b u v)(h1:b≠r)(h2:b≠q):dH v r q k:=h.same (f.block r h.lt (bQ h1)) (f.block q h.DU (bQ h2))
theorem dq.two{m:Me}(h:dq u b r m)(f:js r q u v)(h1:b≠r)(h2:b≠q):dq v b r m:=h.same (f.block b h.lt h1 h2)
theorem UB.below{m:Me}{k:Bk}(h:UB u b r q m k)(f:Below u.heap.size u v):UB v b r q m k:=⟨h.me.below f,h.bk.below f,h.br,h.bq⟩
theorem UB.drew{m:Me}{k:Bk}(h:UB u b r q m k):UB u.drew b r q m k:=⟨h.me.drew,h.bk.drew,h.br,h.bq⟩
theorem fR.drew(h:fR b r q u v):fR b r q u v.drew:=⟨h.os,h.tape,h.output,h.size,h.block⟩
theorem fR.below(h:Below u.heap.size u v):fR b r q u v:=⟨h.os,h.tape,h.output,h.size,λk hk _ _ _=>h.block k hk⟩
end
def Fg:Array Value:=((List.range 577).map λi=>if i=0 then ai bu else if(i-1)%9=0 then aa az 0 else aa .u8 0).toArray
theorem Vj:Tryz.zeroCells219=Fg:=by kernel_rfl
theorem Vi(i:Nat)(h:i<577):Fg[i]? =bj (if i=0 then ai bu else if(i-1)%9=0 then aa az 0 else aa .u8 0):=by simp[Fg,h]
theorem Vh(h:w.heap[r]? =bj (bh (Fg.setIfInBounds 0 (ai (bj ⟨q,0,bu⟩))) 219 (0,0)))(hp:dX w q Bd.b0)(hne:q≠r):dH w r q Mv.CY:=by
 refine⟨⟨_,h,by simp[Fg]⟩,λo ho=>?_,hp,hne⟩;rw[bS h];unfold nY;by_cases c:o=0
 .subst c;rw[aE (by simp[Fg]),aJ rfl]
 .rw[aU bB,Vi o ho,aI c,aI c];split<;>rfl
theorem Fe(w:bD):Calls prog 86 #[] w λe w'=>∃r,e=bf (ai (bj ⟨r,0,bu⟩))/\dH w' r w.heap.size Mv.CY/\Below w.heap.size w w'/\w.heap.size<r:=by
 go_in
 go_wp2_with fail
 refine sC (Nz _) ?_;rintro w1 ⟨hk,hb,hs⟩;have FIN:Hid (dH (w1.alloc (bh (Tryz.zeroCells219.setIfInBounds 0 (ai (bj ⟨w.heap.size,0,bu⟩))) 219)) w1.heap.size w.heap.size Mv.CY/\Below w.heap.size w (w1.alloc (bh (Tryz.zeroCells219.setIfInBounds 0 (ai (bj ⟨w.heap.size,0,bu⟩))) 219))/\w.heap.size<w1.heap.size):=hZ (by
  rw[Vj];have bb:Below w1.heap.size w1 (w1.alloc (bh (Fg.setIfInBounds 0 (ai (bj ⟨w.heap.size,0,bu⟩))) 219)):=(aQ _ _).alloc (aL _) _;exact⟨Vh (heap_alloc_new w1 _) (hk.same (bb.block _ hs)) bB,hb.alloc bB _,hs⟩)
 go_wp2
 go_ret
 exact⟨_,rfl,FIN.v⟩
theorem MI(r q:Nat)(k:Bk)(w:bD)(h:dH w r q k)(hl:∀i,i<64->k.cX.ord i<=7):
  Calls prog 82 #[ai (bj ⟨r,0,bu⟩)] w λe w'=>e=bf (aa az (Bd.left k.cX:Int))/\Below w.heap.size w w':=by
 have HF:=hZ (aK h hl);have c0:=h.cP;go_in
 go_wp2_with fail
 refine sC (Kd q k.cX _ HF.1.cX HF.2) ?_;rintro w1 hb;have HB:=hZ hb;go_wp2
 go_ret
 exact⟨rfl,HB.v⟩
theorem zD(r q f:Nat)(k:Bk)(w:bD)(h:dH w r q k)(hf:f<64)(hI:Bd.Inv k.cX)(h1:1<=k.refs f)(h2:k.refs f<2^60):
  Calls prog 228 #[ai (bj ⟨r,0,bu⟩),aa az f] w λe w'=>e=bf (ao #[])/\dH w' r q (Mv.kH k f)/\js r q w w':=by
 have HI:=hZ hI;have c1:=h.yJ f hf;have cf:=h.frozen;have fI:(f:Int)<64:=bB
 obtain⟨n,hn⟩:∃n,k.refs f=n+1:=⟨k.refs f-1,bB⟩;have S1:Hid (dH ((w.setCell ⟨r,1+f*9,bu⟩ (aa az (n:Int))).drew) r q {k with refs:=λg=>if g=f then n else k.refs g}/\js r q w ((w.setCell ⟨r,1+f*9,bu⟩ (aa az (n:Int))).drew)):=hZ ⟨(h.sR f n hf).drew,((js.refl r q w).left ((bH.refl r w).setCell _ _)).drew⟩;have HD:Hid (Mv.kH k f={k with refs:=λg=>if g=f then n else k.refs g,cX:=if n=0 then Bd.lJ k.cX f else k.cX}):=hZ (by
  unfold Mv.kH;rw[hn,show n+1-1=n from rfl];cases n<;>rfl)
 rw[hn]at c1 h2;have hw:IntKind.i64.wrap (((n+1:Nat):Int)-1)=(n:Int):=by rw[aN _ ⟨by omega,bB⟩];omega
 go_in
 go_wp2_with fail
 go_region
 generalize hW1:World.drew _=W1;have S2:Hid (dH W1 r q {k with refs:=λg=>if g=f then n else k.refs g}/\js r q w W1):=hZ (by rw[<-hW1];exact S1.v);have d1:W1.cell? ⟨r,1+f*9,bu⟩=bj (aa az (n:Int)):=by
  have:=S2.1.yJ f hf;rw[this];show bj (aa az (((if f=f then n else k.refs f):Nat):Int))=_;rw[aJ rfl]
 have d0:=S2.1.cP;by_cases e0:n=0
 .subst e0;have d1':W1.cell? ⟨r,1+f*9,bu⟩=bj (aa .i64 0):=d1;go_wp2_with fail
  refine sC (J6 q f k.cX _ S2.1.cX HI.v) ?_;rintro w2 ⟨kp,F⟩;have S3:Hid (dH w2 r q (Mv.kH k f)/\js r q w w2):=hZ ⟨by rw[HD.v];exact S2.1.Fp F kp,S2.2.right F⟩;go_wp2_with fail
  go_end0
  exact⟨rfl,S3.v⟩
 .have e0':((n:Int)==0)=bA:=by simp;omega
  have S3:Hid (dH W1 r q (Mv.kH k f)/\js r q w W1):=hZ ⟨by rw[HD.v,aI e0];exact S2.1,S2.2⟩;go_wp2_with fail
  go_end0
  exact⟨rfl,S3.v⟩
def Mv.Ic(k:Bk)(g:Nat->Int)(e:Int)(f:Nat)(k':Bk):Prop:=∃p',Bd.qy k.cX 0 e f p'/\k'=if e=0 then Mv.xP {k with cX:=p'} f 1 g else{k with cX:=p'}
theorem B6(r q:Nat)(g:Nat->Int)(k:Bk)(w:bD)(h:dH w r q k)(hI:Bd.Inv k.cX)(hN:Bd.NB k.cX 64):
  Calls prog 273 #[ai (bj ⟨r,0,bu⟩),au (PS g)] w λe w'=>∃(f:Nat) (E:Int) (k':Bk),e=bf (ao #[aa az f,bN E])/\Mv.Ic k g E f k'/\dH w' r q k'/\js r q w w':=by
 have HI:=hZ (aK hI hN);have HF:Hid (∀C,dH (w.alloc (bh C 214)) r q k/\Below w.heap.size w (w.alloc (bh C 214))):=hZ (λC=>⟨h.below ((aQ _ _).alloc (aL _) _),(aQ _ _).alloc (aL _) _⟩);have HL:=hZ (aK h.lt h.DU);go_in
 go_upto_region 1 with fail
 refine cM (λW=>dH W r q k/\Below w.heap.size w W/\W.heap[w.heap.size]? =bj (bh (PS g) 214 (0,0))) ⟨(HF.v _).1,(HF.v _).2,heap_alloc_new w _⟩ ?_;rintro W1 ⟨h1,b1,x1⟩;have NE:Hid (w.heap.size≠r/\w.heap.size≠q):=hZ (by have:=HL.v;omega);have H1:=hZ (aK h1 (aK b1 x1));obtain⟨bx,hbx⟩:=nJ (w.heap.size);have HS:=hZ hbx;rw[hbx]at H1 NE;rw[hbx];have c0:=h1.cP;go_wp2_with fail
 refine(Ki q 0 k.cX _ H1.1.cX HI.1 HI.2).mono ?_;rintro e w1 ⟨f,E,p',rfl,ht,kp,F⟩;have hf:=yA ht;have h1:Hid (dH w1 r q {k with cX:=p'}):=hZ (H1.1.Fp F kp);have HB:Hid (js r q w w1):=hZ ⟨F.os.trans H1.2.1.os,F.tape.trans H1.2.1.tape,F.output.trans H1.2.1.output,aH H1.2.1.size F.size,λj hj _ h3=>(F.block j (aD hj H1.2.1.size) h3).trans (H1.2.1.block j (by have:=HS.v;omega))⟩;have HT:=hZ ht;have x2:w1.heap[bx]? =bj (bh (PS g) 214 (0,0)):=(F.block bx (aX.1 H1.2.2).1 NE.2).trans H1.2.2;by_cases e0:E=0
 .subst e0;have fI:(f:Int)<64:=bB
  have l0:w1.cell? ⟨bx,0,bu⟩=bj (aa bc (g 0)):=cR x2 0 _ (pE g 0 bB);have l1:=cR x2 1 _ (pE g 1 bB);have l2:=cR x2 2 _ (pE g 2 bB);have l3:=cR x2 3 _ (pE g 3 bB);have l4:=cR x2 4 _ (pE g 4 bB);have l5:=cR x2 5 _ (pE g 5 bB);have l6:=cR x2 6 _ (pE g 6 bB);have l7:=cR x2 7 _ (pE g 7 bB);have s0:=h1.yJ f hf;have s1:w1.cell? ⟨r,1+f*9+1,bu⟩=bj (aa bc (k.dJ f 0)):=h1.cB f 0 hf bB;have s2:w1.cell? ⟨r,1+f*9+2,bu⟩=bj (aa bc (k.dJ f 1)):=h1.cB f 1 hf bB;have s3:w1.cell? ⟨r,1+f*9+3,bu⟩=bj (aa bc (k.dJ f 2)):=h1.cB f 2 hf bB;have s4:w1.cell? ⟨r,1+f*9+4,bu⟩=bj (aa bc (k.dJ f 3)):=h1.cB f 3 hf bB;have s5:w1.cell? ⟨r,1+f*9+5,bu⟩=bj (aa bc (k.dJ f 4)):=h1.cB f 4 hf bB;have s6:w1.cell? ⟨r,1+f*9+6,bu⟩=bj (aa bc (k.dJ f 5)):=h1.cB f 5 hf bB;have s7:w1.cell? ⟨r,1+f*9+7,bu⟩=bj (aa bc (k.dJ f 6)):=h1.cB f 6 hf bB;have s8:w1.cell? ⟨r,1+f*9+8,bu⟩=bj (aa bc (k.dJ f 7)):=h1.cB f 7 hf bB;have fz:=h1.frozen;rw[bF];go_wp2_with fail
  go_region
  generalize hW:World.drew _=W2;have S2:Hid (dH W2 r q (Mv.xP {k with cX:=p'} f 1 g)/\bH r w1 W2):=hZ (by
   rw[<-hW];have a:dH (w1.setCells r (1+f*9) (yQ ((1:Nat):Int) g).toList).drew r q (Mv.xP {k with cX:=p'} f 1 g):=(h1.Pd f 1 hf g).drew;have b:bH r w1 (w1.setCells r (1+f*9) (yQ ((1:Nat):Int) g).toList).drew:=(bH.setCells _ _ (bH.refl r w1)).drew;exact⟨a,b⟩)
  go_wp2
  go_ret2
  exact⟨f,0,_,rfl,⟨p',HT.v,by rw[aJ rfl]⟩,S2.1,HB.left S2.2⟩
 .rw[bM e0];have r0:f=0:=by
   rcases ht with⟨_,_,c,_⟩|⟨_,_,_,c,_⟩|⟨_,_,c,_⟩
   .exact c
   .exact c
   .exact aZ c e0
  have HE:=hZ e0;subst r0;go_wp2
  go_ret2
  exact⟨0,E,_,by rw[bM HE.v];rfl,⟨p',HT.v,by rw[aI HE.v]⟩,h1.v,HB.v⟩
section
attribute [local go_sem] Dh
theorem oY(b r:Nat)(z:Int)(wr:Bool)(m:Me)(w:bD)(h:dq w b r m):
  Calls prog 182 #[ai (bj ⟨b,0,bu⟩),aa az z,ar wr] w λe w'=>e=bf (ar (Mv.j5 m z wr))/\Below w.heap.size w w':=by
 have BL:Hid (∀o,Below w.heap.size w (w.alloc o)):=hZ (λo=>(aQ _ _).alloc (aL _) o);by_cases k:z<0\/127<z
 .have HE:Hid (Mv.j5 m z wr=bA):=hZ (aJ k);by_cases h0:z<0
  .clear k h;go_in
   go_wp2
   go_ret
   exact⟨da HE.symm,aQ _ _⟩
  .have h1:decide (z<0)=bA:=aT h0;have h2:128<=z:=bB
   go_in
   go_wp2
   go_ret
   exact⟨da HE.symm,aQ _ _⟩
 .obtain⟨x,rfl⟩:=aG (show 0<=z by omega);have h2:decide (128<=(x:Int))=bA:=by simp;omega
  have c1:=h.Vs (x/8) bB;have c2:=h.wO (x/8) bB;have h8:(x:Int)/8<16:=bB
  have h80:(0:Int)<=(x:Int)/8:=bB
  have HE:Hid (Mv.j5 m x wr=(decide (m.is (x/8)=2)||(decide (m.is (x/8)=1)&& !wr))):=hZ (by unfold Mv.j5;rw[aI k,hU]);obtain⟨u,hu⟩:=nJ (m.is (x/8));rw[hu]at c1 HE;by_cases e2:u=2
  .subst e2;go_in
   go_wp2
   go_ret
   exact⟨da (by rw[HE.v];rfl),BL.v _⟩
  .have e2':((u:Int)==2)=bA:=by simp;omega
   by_cases e1:u=1
   .subst e1;cases wr
    .go_in
     go_wp2
     go_ret
     exact⟨da (by rw[HE.v];rfl),BL.v _⟩
    .go_in
     go_wp2
     go_ret
     exact⟨da (by rw[HE.v];rfl),BL.v _⟩
   .have e1':((u:Int)==1)=bA:=by simp;omega
    go_in
    go_wp2
    go_ret
    exact⟨da (by rw[HE.v,aT e2,aT e1];rfl),BL.v _⟩
theorem zH(b r:Nat)(z:Int)(m:Me)(w:bD)(h:dq w b r m):
  Calls prog 183 #[ai (bj ⟨b,0,bu⟩),aa az z] w λe w'=>e=bf (ar (Mv.kZ m z))/\Below w.heap.size w w':=by
 have HF:=hZ h;cases hm:Mv.j5 m z bA
 .have HE:Hid (Mv.kZ m z=bA/\Mv.j5 m z bA=bA):=hZ ⟨by unfold Mv.kZ;rw[hm];rfl,hm⟩;go_in
  go_wp2_with fail
  refine sC (oY b r z bA m _ HF.v) ?_;rintro w1 hb;have HB:=hZ hb;rw[HE.2];go_wp2
  go_ret
  exact⟨da HE.1.symm,HB.v⟩
 .have hz:¬(z<0\/127<z):=λc=>by unfold Mv.j5 at hm;rw[aJ c]at hm;cases hm
  obtain⟨x,rfl⟩:=aG (show 0<=z by omega);have h8:(x:Int)/8<16:=bB
  have h80:(0:Int)<=(x:Int)/8:=bB
  have HX:Hid (x/8<16):=hZ bB;have HE:Hid (Mv.kZ m x=decide (m.fr (x/8)=0)/\Mv.j5 m x bA=bw):=hZ ⟨by unfold Mv.kZ;rw[hm,hU];rfl,hm⟩;go_in
  go_wp2_with fail
  refine sC (oY b r x bA m _ HF.v) ?_;rintro w1 hb;have c1:=(HF.below hb).wO (x/8) HX.v;have HB:=hZ hb;rw[HE.2];obtain⟨u,hu⟩:=nJ (m.fr (x/8));rw[hu]at c1 HE;by_cases e0:u=0
  .subst e0;have c1':w1.cell? ⟨b,1+x/8*2+1,bu⟩=bj (aa az (-1)):=c1;go_wp2
   go_ret
   exact⟨da (by rw[HE.1];rfl),HB.v⟩
  .have e0':((u:Int)-1== -1)=bA:=by simp;omega
   go_wp2
   go_ret
   exact⟨da (by rw[HE.1,aT e0]),HB.v⟩
end
def rowP(m:Me):List Value:=(List.range 32).map λo=>if o%2=0 then aa az (m.is (o/2):Int)else aa az ((m.fr (o/2):Int)-1)
theorem Em(m:Me):(rowP m).length=32:=by simp[rowP]
theorem dq.range{m:Me}(h:dq w b r m):w.rangeAt b 1 (rowP m):=λj v hv=>by
 have hj:j<32:=by have:=(aY.1 hv).1;rwa [Em]at this
 simp[rowP,hj]at hv;rw[h.cell _ bB,<-hv];unfold lH;rw[nK,show 1+j-1=j by omega]
theorem Sk(m:Me)(x:Nat)(h:x<16):(rowP m).toArray.extract (x*2) (x*2+2)=#[aa az (m.is x:Int),aa az ((m.fr x:Int)-1)]:=by
 have hs:(rowP m).toArray.size=32:=by simp[rowP]
 apply bL;intro i;rw[Array.getElem?_extract];by_cases hi:i<2
 .rw[aJ (by rw[hs];omega)];have e:(rowP m).toArray[x*2+i]? =bj (if(x*2+i)%2=0 then aa az (m.is ((x*2+i)/2):Int)else aa az ((m.fr ((x*2+i)/2):Int)-1)):=by
   simp[rowP,show x*2+i<32 by omega]
  rw[e,show(x*2+i)/2=x by omega]
  match i,hi with
  |0,_=>rw[nL];rfl
  |1,_=>rw[nK];rfl
 .rw[aI (by rw[hs];omega),aR (by simp;omega)]
theorem yS(m:Me)(x:Nat)(h:x<16)(w:bD):Sem.run prog (Instr.index 184 (au (rowP m).toArray) (aa az x)) w= .ok (au #[aa az (m.is x:Int),aa az ((m.fr x:Int)-1)]) w:=by
 have hu:prog.underlying 184=bj (.array 16 183):=by kernel_rfl
 have hx:=Sk m x h;have h1:(x:Int)<16:=bB
 obtain⟨A,hA⟩:=nJ ((rowP m).toArray);rw[hA]at hx|-;simp[Instr.index,Sem.run_bind,run_underlying hu,go_sem,hx];intro c;omega
theorem BO(m:Me):(prog.info? 184).map (·.size)=bj (rowP m).length:=by rw[Em];kernel_rfl
theorem pZ(b r:Nat)(m:Me)(w:bD)(h:dq w b r m):
  Calls prog 64 #[ai (bj ⟨b,0,bu⟩)] w λe w'=>e=bf (aa az (Mv.cU m 16:Int))/\Below w.heap.size w w':=by
 have hsz:=hZ (BO m);have HR:=hZ h.range;go_in
 go_wp2_with (refine wpList_load_mid rfl 184 _ rfl b 1 rfl (rowP m) (.array 16 183) HR.v bC rfl hsz.v ?_)
 go_loopw [3,10] (λs i wr=>∃(k:Nat),i=aa az k/\s=aa az (Mv.cU m k:Int)/\k<=16/\Hid (Below w.heap.size w wr)) (λ_ i _=>16-(intOf i).toNat)
 case atStart=>exact⟨0,rfl,rfl,bB,aQ _ _⟩
 case round=>
  obtain⟨k,rfl,rfl,hk,T⟩:=hrel;by_cases hlt:k<16
  .have hltI:(k:Int)<16:=bB
   have hix:=yS m k hlt;have LS:Hid (Mv.cU m (k+1)=Mv.cU m k+if m.fr k=0 then 0 else 1):=hZ rfl;have BL:Hid (∀o,Below w.heap.size w (wr.alloc o)):=hZ (λo=>T.alloc T.size o);have lb:=qv m k;generalize m.is k=u0 at*;generalize m.fr k=u at*;by_cases e1:u=0
   .have LE:Hid (Mv.cU m (k+1)=Mv.cU m k):=hZ (by rw[LS.v,aJ e1];rfl);subst e1;go_wp2
    go_roundw
    case rel=>exact⟨k+1,by go_num,by rw[LE.v],bB,BL.v _⟩
    case measure=>simp[intOf];omega
   .have LE:Hid (Mv.cU m (k+1)=Mv.cU m k+1):=hZ (by rw[LS.v,aI e1]);have e1':((u:Int)-1== -1)=bA:=by simp;omega
    generalize Mv.cU m k=lk at*;go_wp2
    go_roundw
    case rel=>exact⟨k+1,by go_num,by rw[LE.v];go_num,bB,BL.v _⟩
    case measure=>simp[intOf];omega
  .have hk64:k=16:=bB
   subst hk64;go_wp2
   go_ret
   exact⟨rfl,T.v⟩
structure rq (m:Me)(k:Bk):Prop where
 inv:Bd.Inv k.cX
 nb:Bd.NB k.cX 64
 le:∀i,i<16->m.fr i<=64
 held:∀i,i<16->m.fr i≠0->1<=k.refs (m.fr i-1)/\k.refs (m.fr i-1)<2^59
 hold:∀f,f<64->1<=k.refs f->k.cX.tk f=bw
def Mv.Nf(m:Me)(k:Bk)(n:Nat)(wr:Bool)(E:Int)(g:Nat)(m':Me)(k':Bk):Prop:=
 (m.fr n≠0/\(wr=bA\/k.refs (m.fr n-1)=1)/\E=0/\g=m.fr n-1/\m'=m/\k'=k)\/
 (¬(m.fr n≠0/\(wr=bA\/k.refs (m.fr n-1)=1))/\∃k1,Mv.uE k E g k1/\
  ((E≠0/\m'=m/\k'=k1)\/(E=0/\m'={m with fr:=jk m.fr n (g+1)}/\k'=if m.fr n=0 then k1 else Mv.kH (Mv.Bi k1 (m.fr n-1) g) (m.fr n-1))))
theorem JT{k k':Bk}(h:Mv.Ic k (λ_=>0) e f k'):Mv.uE k e f k':=by
 obtain⟨p',h1,h2⟩:=h;refine⟨p',h1,?_⟩;rw[h2];rfl
theorem Nc{k k':Bk}(h:Mv.Ic k (k.dJ v) e f k')(hv:k.cX.tk v=bw):∃k1,Mv.uE k e f k1/\((e≠0/\k'=k1)\/(e=0/\k'=Mv.Bi k1 v f/\v≠f)):=by
 obtain⟨p',h1,h2⟩:=h;by_cases e0:e=0
 .rw[aJ e0]at h2;have ne:v≠f:=λc=>by
   rcases h1 with⟨_,c1,_⟩|⟨_,_,c1,_⟩|⟨_,hB,_,_⟩
   .omega
   .omega
   .rw[c,hB.tk]at hv;cases hv
  refine⟨Mv.Gv k p' f,⟨p',h1,by rw[aJ e0]⟩, .inr ⟨e0,?_,ne⟩⟩;rw[h2];unfold Mv.Bi Mv.Gv Mv.xP;congr 1;funext a i;by_cases c:a=f
  .simp[c,ne]
  .simp[c]
 .rw[aI e0]at h2;exact⟨k',⟨p',h1,by rw[aI e0];exact h2⟩, .inl ⟨e0,rfl⟩⟩
def Ia(b r q n:Nat)(wr:Bool)(m:Me)(k:Bk)(w:bD)(e:Ending)(w':bD):Prop:=
 ∃(E:Int) (g:Nat) (m':Me) (k':Bk),e=bf (bN E)/\Mv.Nf m k n wr E g m' k'/\UB w' b r q m' k'/\fR b r q w w'
theorem Jz(b r q n:Nat)(wr:Bool)(m:Me)(k:Bk)(w:bD)(h:UB w b r q m k)(G:rq m k)(hn:n<16)(hv:m.fr n=0):
  Calls prog 240 #[ai (bj ⟨b,0,bu⟩),ai (bj ⟨b,1+n*2,bu⟩),ar wr] w (Ia b r q n wr m k w):=by
 have HF:=hZ (aK h (aK G hv));have c0:=h.me.tA;have c1:=h.me.wO n hn;rw[hv]at c1;have c1':w.cell? ⟨b,1+n*2+1,bu⟩=bj (aa az (-1)):=c1;have HN:Hid (¬(m.fr n≠0/\(wr=bA\/k.refs (m.fr n-1)=1))):=hZ (λc=>c.1 hv);go_in
 go_wp2_with fail
 refine(B6 r q (λ_=>0) k _ HF.1.bk HF.2.1.inv HF.2.1.nb).mono ?_;rintro e w1 ⟨g,E,k1,rfl,ht,hk,F⟩;have HM:Hid (UB w1 b r q m k1/\fR b r q w w1):=hZ ⟨⟨HF.1.me.two F HF.1.br HF.1.bq,hk,HF.1.br,HF.1.bq⟩,fR.CW F⟩;have HT:=hZ (JT ht);by_cases e0:E=0
 .subst e0;rw[bF];have d1:=HM.1.me.wO n hn;have df:=HM.1.me.frozen;have S2:Hid (UB (w1.setCell ⟨b,1+n*2+1,bu⟩ (aa az (g:Int))) b r q {m with fr:=jk m.fr n (g+1)} k1/\fR b r q w (w1.setCell ⟨b,1+n*2+1,bu⟩ (aa az (g:Int)))):=hZ (by
   have f:bH b w1 (w1.setCell ⟨b,1+n*2+1,bu⟩ (aa az (g:Int))):=(bH.refl b w1).setCell _ _;exact⟨⟨HM.1.me.CD n (g+1) hn _ bB,HM.1.bk.mV f HM.1.br HM.1.bq,HM.1.br,HM.1.bq⟩,HM.2.trans (fR.mem f)⟩)
  go_wp2
  go_ret
  exact⟨0,g,_,_,rfl, .inr ⟨HN.v,k1,HT.v, .inr ⟨rfl,rfl,by rw[aJ HF.2.2]⟩⟩,S2.1,S2.2⟩
 .rw[bM e0];have HE:=hZ e0;go_wp2
  go_ret
  exact⟨E,g,_,_,by rw[bM HE.v];rfl, .inr ⟨HN.v,k1,HT.v, .inl ⟨HE.v,rfl,rfl⟩⟩,HM.1,HM.2⟩
theorem Jy(b r q n v:Nat)(wr:Bool)(m:Me)(k:Bk)(w:bD)(h:UB w b r q m k)(G:rq m k)(hn:n<16)(hv:m.fr n=v+1):
  Calls prog 240 #[ai (bj ⟨b,0,bu⟩),ai (bj ⟨b,1+n*2,bu⟩),ar wr] w (Ia b r q n wr m k w):=by
 have HF:=hZ (aK h (aK G hv));have c0:=h.me.tA;have c1:=h.me.wO n hn;rw[hv,show((v+1:Nat):Int)-1=(v:Int)by omega]at c1;have v64:v<64:=by have:=G.le n hn;omega
 have vI:(v:Int)<64:=bB
 have v1:((v:Int)== -1)=bA:=by simp
 have l0:=h.bk.yJ v v64;have l1:w.cell? ⟨r,1+v*9+1,bu⟩=bj (aa bc (k.dJ v 0)):=h.bk.cB v 0 v64 bB;have l2:w.cell? ⟨r,1+v*9+2,bu⟩=bj (aa bc (k.dJ v 1)):=h.bk.cB v 1 v64 bB;have l3:w.cell? ⟨r,1+v*9+3,bu⟩=bj (aa bc (k.dJ v 2)):=h.bk.cB v 2 v64 bB;have l4:w.cell? ⟨r,1+v*9+4,bu⟩=bj (aa bc (k.dJ v 3)):=h.bk.cB v 3 v64 bB;have l5:w.cell? ⟨r,1+v*9+5,bu⟩=bj (aa bc (k.dJ v 4)):=h.bk.cB v 4 v64 bB;have l6:w.cell? ⟨r,1+v*9+6,bu⟩=bj (aa bc (k.dJ v 5)):=h.bk.cB v 5 v64 bB;have l7:w.cell? ⟨r,1+v*9+7,bu⟩=bj (aa bc (k.dJ v 6)):=h.bk.cB v 6 v64 bB;have l8:w.cell? ⟨r,1+v*9+8,bu⟩=bj (aa bc (k.dJ v 7)):=h.bk.cB v 7 v64 bB;have hbs:b<w.heap.size:=h.me.lt;have hrs:r<w.heap.size:=h.bk.lt;have hbn:b≠w.heap.size:=bB
 have hrn:r≠w.heap.size:=bB
 go_in
 go_wp2_with fail
 go_region
 generalize hW:World.drew _=W2;have S2:Hid (UB W2 b r q m k/\fR b r q w W2/\W2.heap[w.heap.size]? =bj (bh (yQ (k.refs v:Int) (k.dJ v)) 216 (0,0))/\w.heap.size≠q):=hZ (by
  rw[<-hW];have bb:Below w.heap.size w (w.alloc (bh (yQ (k.refs v:Int) (k.dJ v)) 216)):=(aQ _ _).alloc (aL _) _;exact⟨(HF.1.below bb).drew,(fR.below bb).drew,heap_alloc_new w _,by have:=HF.1.bk.DU;omega⟩)
 obtain⟨bo,hbo⟩:=nJ (w.heap.size);rw[hbo]at S2 hbn hrn|-;have HBO:=hZ (aK hbo (aK hbn hrn));have o0:W2.cell? ⟨bo,0,bu⟩=bj (aa az (k.refs v:Int)):=cR S2.2.2.1 0 _ (mU _ _ 0 bB);have KEEP:Hid ((wr=bA\/k.refs v=1)->Ia b r q n wr m k w (bf (bN 0)) W2):=hZ (λc=>⟨0,v,m,k,rfl, .inl ⟨by rw[HF.2.2];omega,by rw[HF.2.2,aP];exact c,rfl,by rw[HF.2.2,aP],rfl,rfl⟩,S2.1,S2.2.1⟩);cases wr
 .have KP:=hZ (KEEP.v (.inl rfl));go_wp2
  go_ret
  exact KP.v
 .by_cases r1:k.refs v=1
  .rw[r1]at o0;have o0':W2.cell? ⟨bo,0,bu⟩=bj (aa .i64 1):=o0;have KP:=hZ (KEEP.v (.inr r1));go_wp2
   go_ret
   exact KP.v
  .have r1':((k.refs v:Int)==1)=bA:=by simp;omega
   have HN:Hid (¬(m.fr n≠0/\(bw=bA\/k.refs (m.fr n-1)=1))):=hZ (by
    rw[HF.2.2,aP];rintro⟨_,c|c⟩
    .cases c
    .exact r1 c)
   have d0:=S2.1.me.tA;have o1:W2.cell? ⟨bo,1,bu⟩=bj (aa bc (k.dJ v 0)):=cR S2.2.2.1 1 _ (mU _ _ 1 bB);have o2:W2.cell? ⟨bo,2,bu⟩=bj (aa bc (k.dJ v 1)):=cR S2.2.2.1 2 _ (mU _ _ 2 bB);have o3:W2.cell? ⟨bo,3,bu⟩=bj (aa bc (k.dJ v 2)):=cR S2.2.2.1 3 _ (mU _ _ 3 bB);have o4:W2.cell? ⟨bo,4,bu⟩=bj (aa bc (k.dJ v 3)):=cR S2.2.2.1 4 _ (mU _ _ 4 bB);have o5:W2.cell? ⟨bo,5,bu⟩=bj (aa bc (k.dJ v 4)):=cR S2.2.2.1 5 _ (mU _ _ 5 bB);have o6:W2.cell? ⟨bo,6,bu⟩=bj (aa bc (k.dJ v 5)):=cR S2.2.2.1 6 _ (mU _ _ 6 bB);have o7:W2.cell? ⟨bo,7,bu⟩=bj (aa bc (k.dJ v 6)):=cR S2.2.2.1 7 _ (mU _ _ 7 bB);have o8:W2.cell? ⟨bo,8,bu⟩=bj (aa bc (k.dJ v 7)):=cR S2.2.2.1 8 _ (mU _ _ 8 bB);have TK:=hZ (λW (hW:dH W r q k)=>B6 r q (k.dJ v) k W hW HF.2.1.inv HF.2.1.nb);generalize k.refs v=rv at o0 r1';go_wp2_with fail
   go_region_with ((go_at_call 273;refine(TK.v _ (by first|exact S2.1.bk.drew|exact S2.1.bk)).mono ?_;rintro e w3 ⟨g,E,k1,rfl,ht,hk,F⟩;have H3:Hid (Mv.Ic k (k.dJ v) E g k1/\dH w3 r q k1/\js r q W2 w3):=hZ ⟨ht,hk,(by first|exact F|exact((js.refl r q W2).drew).trans F)⟩))
   all_goals
    have HM:Hid (UB w3 b r q m k1/\fR b r q w w3):=hZ ⟨⟨S2.1.me.two H3.2.2 S2.1.br S2.1.bq,H3.2.1,S2.1.br,S2.1.bq⟩,S2.2.1.trans (fR.CW H3.2.2)⟩;have c0:=HM.1.me.tA;have c1:=HM.1.me.wO n hn;rw[HF.2.2,show((v+1:Nat):Int)-1=(v:Int)by omega]at c1;have tkv:k.cX.tk v=bw:=HF.2.1.hold v v64 (by have:=HF.2.1.held n hn (by rw[HF.2.2];omega);rw[HF.2.2,aP]at this;exact this.1);obtain⟨kk,hkk,hc⟩:=Nc H3.1 tkv;have HK:=hZ (aK hkk hc);by_cases e0:E=0
    .subst e0;have LV:Hid (Bd.Inv k1.cX/\1<=k1.refs v/\k1.refs v<2^60):=hZ (by
      obtain⟨p',h1,h2⟩:=H3.1;have hi:=HF.2.1.inv.take HF.2.1.nb h1;have hh:=HF.2.1.held n hn (by rw[HF.2.2];omega);rw[HF.2.2,aP]at hh;rw[aJ rfl]at h2;subst h2;refine⟨hi.1,?_⟩;show 1<=(if v=g then 1 else k.refs v)/\(if v=g then 1 else k.refs v)<2^60;split<;>omega)
     rw[bF];go_wp2_with fail
     go_region_with ((go_at_call 228;refine(zD r q v k1 _ (by first|exact HM.1.bk.drew|exact HM.1.bk) v64 LV.1 LV.2.1 LV.2.2).mono ?_;rintro e w4 ⟨rfl,hk4,F4⟩;have H4:Hid (dH w4 r q (Mv.kH k1 v)/\js r q w3 w4):=hZ ⟨hk4,(by first|exact F4|exact((js.refl r q w3).drew).trans F4)⟩))
     all_goals
      have S3:Hid (UB w4 b r q m (Mv.kH k1 v)/\fR b r q w w4):=hZ ⟨⟨HM.1.me.two H4.2 S2.1.br S2.1.bq,H4.1,S2.1.br,S2.1.bq⟩,HM.2.trans (fR.CW H4.2)⟩;have d1:=S3.1.me.wO n hn;have df:=S3.1.me.frozen;have S4:Hid (UB (w4.setCell ⟨b,1+n*2+1,bu⟩ (aa az (g:Int))) b r q {m with fr:=jk m.fr n (g+1)} (Mv.kH k1 v)/\fR b r q w (w4.setCell ⟨b,1+n*2+1,bu⟩ (aa az (g:Int)))):=hZ (by
       have f:bH b w4 (w4.setCell ⟨b,1+n*2+1,bu⟩ (aa az (g:Int))):=(bH.refl b w4).setCell _ _;exact⟨⟨S3.1.me.CD n (g+1) hn _ bB,S3.1.bk.mV f S3.1.br S3.1.bq,S3.1.br,S3.1.bq⟩,S3.2.trans (fR.mem f)⟩)
      go_wp2
      go_ret
      refine⟨0,g,_,_,rfl, .inr ⟨HN.v,kk,HK.1, .inr ⟨rfl,rfl,?_⟩⟩,S4.1,S4.2⟩;rcases HK.2 with⟨c,_⟩|⟨_,c,_⟩
      .exact aZ rfl c
      .rw[HF.2.2,nK,aP,c]
    .rw[bM e0];have HE:=hZ e0;go_wp2
     go_ret
     refine⟨E,g,_,_,by rw[bM HE.v];rfl, .inr ⟨HN.v,kk,HK.1, .inl ⟨HE.v,rfl,?_⟩⟩,HM.1,HM.2⟩;rcases HK.2 with⟨_,c⟩|⟨c,_⟩
     .exact c
     .exact aZ c HE.v
theorem Gk(b r q n:Nat)(wr:Bool)(m:Me)(k:Bk)(w:bD)(h:UB w b r q m k)(G:rq m k)(hn:n<16):
  Calls prog 240 #[ai (bj ⟨b,0,bu⟩),ai (bj ⟨b,1+n*2,bu⟩),ar wr] w (Ia b r q n wr m k w):=by
 by_cases c:m.fr n=0
 .exact Jz b r q n wr m k w h G hn c
 .exact Jy b r q n (m.fr n-1) wr m k w h G hn bB
theorem QH{m m':Me}{k k':Bk}(h:Mv.Nf m k (x/8) wr E g m' k')(hm:Mv.j5 m x wr=bw):Mv.mO m k x wr E g m' k':=by
 unfold Mv.mO;rw[hU];rcases h with⟨a,b,c,d,e,f⟩|⟨a,k1,t,c⟩
 .exact .inr (.inl ⟨hm,a,b,c,d,e,f⟩)
 .exact .inr (.inr ⟨hm,a,k1,t,c⟩)
theorem JU{m m':Me}{k k':Bk}(G:rq m k)(hn:n<16)(h:Mv.Nf m k n wr E g m' k'):g<64/\((E=0/\m'.fr n=g+1)\/E=4):=by
 rcases h with⟨a,b,rfl,rfl,rfl,_⟩|⟨_,k1,⟨p',t,_⟩,c⟩
 .have:=G.le n hn;exact⟨by omega, .inl ⟨rfl,bB⟩⟩
 .have g64:=yA t;refine⟨g64,?_⟩;rcases c with⟨e0,_⟩|⟨e0,rfl,_⟩
  .rcases t with⟨c,_⟩|⟨_,_,c,_⟩|⟨_,_,c,_⟩
   .omega
   .exact .inr c
   .exact aZ c e0
  .exact .inl ⟨e0,by show(if n=n then g+1 else m.fr n)=g+1;rw[aJ rfl]⟩
def Vz(b r q:Nat)(z:Int)(wr:Bool)(m:Me)(k:Bk)(w:bD)(e:Ending)(w':bD):Prop:=
 ∃(E:Int) (g:Nat) (m':Me) (k':Bk),e=bf (ao #[if E=0 then ai (bj ⟨r,1+g*9+1+z.toNat%8,bu⟩)else ai bu,bN E])/\Mv.mO m k z wr E g m' k'/\UB w' b r q m' k'/\fR b r q w w'/\g<64/\(E=0\/E=4\/E=10)
section
attribute [local go_sem] Dh Ua
theorem zF(b r q:Nat)(z:Int)(wr:Bool)(m:Me)(k:Bk)(w:bD)(h:UB w b r q m k)(G:rq m k):
  Calls prog 185 #[ai (bj ⟨b,0,bu⟩),aa az z,ar wr] w (Vz b r q z wr m k w):=by
 have HF:=hZ (aK h G);cases hm:Mv.j5 m z wr
 .have HM:=hZ hm;go_in
  go_wp2_with fail
  refine sC (oY b r z wr m _ HF.1.me) ?_;rintro w1 hb;have HB:=hZ hb;rw[HM.v];go_wp2
  go_ret2
  exact⟨10,0,m,k,rfl, .inl ⟨HM.v,rfl,rfl,rfl,rfl⟩,HF.1.below HB.v,fR.below HB.v,bB, .inr (.inr rfl)⟩
 .obtain⟨x,rfl,hx⟩:=Lr hm;have HM:=hZ hm;have h8:(x:Int)/8<16:=bB
  have h80:(0:Int)<=(x:Int)/8:=bB
  have h9:(x:Int)%8<8:=bB
  have h90:(0:Int)<=(x:Int)%8:=bB
  have HX:Hid (x/8<16):=hZ bB;go_in
  go_wp2_with fail
  refine sC (oY b r x wr m _ HF.1.me) ?_;rintro w1 hb;have HB:=hZ (aK (HF.1.below hb) (fR.below (b:=b) (r:=r) (q:=q) hb));rw[HM.v];go_wp2_with fail
  refine(Gk b r q (x/8) wr m k _ HB.1 HF.2 HX.v).mono ?_;rintro e w2 ⟨E,g,m',k',rfl,ht,hu,F⟩;have TE:=JU HF.2 HX.v ht;have HT:Hid (Mv.mO m k x wr E g m' k'/\UB w2 b r q m' k'/\fR b r q w w2):=hZ ⟨QH ht HM.v,hu,HB.2.trans F⟩;rcases TE with⟨g64,⟨rfl,hg⟩|rfl⟩
  .have c0:=hu.me.tA;have c1:=hu.me.wO (x/8) HX.v;rw[hg,show((g+1:Nat):Int)-1=(g:Int)by omega]at c1;have gI:(g:Int)<64:=bB
   rw[bF];go_wp2_with fail
   go_region
   go_wp2
   go_ret2
   exact⟨0,g,m',k',by rw[aJ rfl,hU];rfl,HT.1,HT.2.1.drew,HT.2.2.drew,g64, .inl rfl⟩
  .rw[bM bE];go_wp2
   go_ret2
   exact⟨4,g,m',k',rfl,HT.1,HT.2.1,HT.2.2,g64, .inr (.inl rfl)⟩
end
theorem MJ(b r q:Nat)(z:Int)(m:Me)(k:Bk)(w:bD)(h:UB w b r q m k)(G:rq m k):
  Calls prog 108 #[ai (bj ⟨b,0,bu⟩),aa az z] w λe w'=>∃(E:Int) (g:Nat) (m':Me) (k':Bk),e=bf (ao #[aa bc (if E=0 then k'.dJ g (z.toNat%8)else 0),bN E])/\Mv.mO m k z bA E g m' k'/\UB w' b r q m' k'/\fR b r q w w'/\(E=0\/E=4\/E=10):=by
 have HF:=hZ (aK h G);go_in
 go_wp2_with fail
 refine(zF b r q z bA m k _ HF.1 HF.2).mono ?_;rintro e w1 ⟨E,g,m',k',rfl,ht,hu,F,g64,hE⟩;have HT:=hZ (aK ht (aK hu F));rcases hE with rfl|rfl|rfl
 .have c2:=hu.bk.cB g (z.toNat%8) g64 bB;rw[aJ rfl,bF];go_wp2
  go_ret2
  exact⟨0,g,m',k',by rw[aJ rfl];rfl,HT.1,HT.2.1,HT.2.2, .inl rfl⟩
 .rw[aI bE,bM bE];go_wp2
  go_ret2
  exact⟨4,g,m',k',by rw[aI bE];rfl,HT.1,HT.2.1,HT.2.2, .inr (.inl rfl)⟩
 .rw[aI bE,bM bE];go_wp2
  go_ret2
  exact⟨10,g,m',k',by rw[aI bE];rfl,HT.1,HT.2.1,HT.2.2, .inr (.inr rfl)⟩
theorem JI(b r q:Nat)(z u:Int)(m:Me)(k:Bk)(w:bD)(h:UB w b r q m k)(G:rq m k):
  Calls prog 110 #[ai (bj ⟨b,0,bu⟩),aa az z,aa bc u] w λe w'=>∃(E:Int) (g:Nat) (m':Me) (k':Bk),e=bf (bN E)/\Mv.mO m k z bw E g m' k'/\UB w' b r q m' (if E=0 then Mv.Mi k' g (z.toNat%8) u else k')/\fR b r q w w'/\(E=0\/E=4\/E=10):=by
 have HF:=hZ (aK h G);go_in
 go_wp2_with fail
 refine(zF b r q z bw m k _ HF.1 HF.2).mono ?_;rintro e w1 ⟨E,g,m',k',rfl,ht,hu,F,g64,hE⟩;have HT:=hZ (aK ht (aK hu F));rcases hE with rfl|rfl|rfl
 .have c2:=hu.bk.cB g (z.toNat%8) g64 bB;have cf:=hu.bk.frozen;have S1:Hid (UB (w1.setCell ⟨r,1+g*9+1+z.toNat%8,bu⟩ (aa bc u)) b r q m' (Mv.Mi k' g (z.toNat%8) u)/\fR b r q w (w1.setCell ⟨r,1+g*9+1+z.toNat%8,bu⟩ (aa bc u))):=hZ (by
   have f:bH r w1 (w1.setCell ⟨r,1+g*9+1+z.toNat%8,bu⟩ (aa bc u)):=(bH.refl r w1).setCell _ _;exact⟨⟨hu.me.same (f.block b hu.me.lt hu.br),hu.bk.VO g (z.toNat%8) u g64 bB,hu.br,hu.bq⟩,HT.2.2.trans ⟨f.os,f.tape,f.output,f.size,λj hj _ h2 _=>f.block j hj h2⟩⟩)
  rw[aJ rfl,bF];go_wp2
  go_ret
  exact⟨0,g,m',k',rfl,HT.1,by rw[aJ rfl];exact S1.1,S1.2, .inl rfl⟩
 .rw[aI bE,bM bE];go_wp2
  go_ret
  exact⟨4,g,m',k',rfl,HT.1,by rw[aI bE];exact HT.2.1,HT.2.2, .inr (.inl rfl)⟩
 .rw[aI bE,bM bE];go_wp2
  go_ret
  exact⟨10,g,m',k',rfl,HT.1,by rw[aI bE];exact HT.2.1,HT.2.2, .inr (.inr rfl)⟩
def Hu(r:Nat):Array Value:=((List.range 33).map λo=>if o=0 then ai (bj ⟨r,0,bu⟩)else aa .i64 0).toArray
theorem QA(r i:Nat)(h:i<33):(Hu r)[i]? =bj (if i=0 then ai (bj ⟨r,0,bu⟩)else aa .i64 0):=by simp[Hu,h]
def Mv.lL:Me:=⟨λ_=>0,λ_=>0⟩
def Mv.G5(k:Nat):Me:=⟨λ_=>0,λn=>if n<k then 0 else 1⟩
theorem UE(h:w.heap[b]? =bj (bh (Hu r) 186 (0,0))):dq w b r (Mv.G5 0):=by
 refine⟨⟨_,h,by simp[Hu]⟩,λo ho=>?_⟩;rw[bS h,QA r o ho];unfold lH;grind [Hu,bS,QA,lH,Mv.G5]
theorem PG(r:Nat)(w:bD):Calls prog 167 #[ai (bj ⟨r,0,bu⟩)] w λe w'=>e=bf (ai (bj ⟨w.heap.size,0,bu⟩))/\dq w' w.heap.size r Mv.lL/\Below w.heap.size w w':=by
 have S0:Hid (∀C,C=Hu r->dq (w.alloc (bh C 186)) w.heap.size r (Mv.G5 0)/\Below w.heap.size w (w.alloc (bh C 186))):=hZ (λC hC=>by
  subst hC;exact⟨UE (heap_alloc_new w _),(aQ _ _).alloc (aL _) _⟩)
 go_in
 go_wp2
 refine cM (λW=>dq W w.heap.size r (Mv.G5 0)/\Below w.heap.size w W) (S0.v _ rfl) ?_;intro W1 h1;have S1:=hZ h1;obtain⟨b,hb⟩:=nJ (w.heap.size);rw[hb]at S1|-;have HB:=hZ hb;go_loopw [8] (λi wr=>∃(k:Nat),i=aa az k/\k<=16/\Hid (dq wr b r (Mv.G5 k)/\Below b w wr)) (λi _=>16-(intOf i).toNat)
 case atStart=>exact⟨0,rfl,bB,S1⟩
 case round=>
  obtain⟨k,rfl,hk,S⟩:=hrel;by_cases hlt:k<16
  .have hltI:(k:Int)<16:=bB
   have c1:=S.1.wO k hlt;have cf:=S.1.frozen;have S2:Hid (dq (wr.setCell ⟨b,1+k*2+1,bu⟩ (aa az (-1))) b r (Mv.G5 (k+1))/\Below b w (wr.setCell ⟨b,1+k*2+1,bu⟩ (aa az (-1)))):=hZ ⟨(S.1.CD k 0 hlt (-1) rfl).congr (λn _=>⟨rfl,by
    show(if n<k+1 then 0 else 1)=(if n=k then 0 else if n<k then 0 else 1);by_cases c:n=k
    .rw[aJ c,nL]
    .rw[aI c];by_cases d:n<k
     .rw[aJ d,nL]
     .rw[aI d,nK]⟩),S.2.setCell (aL _) _⟩
   go_wp2
   go_roundw
   case rel=>exact⟨k+1,by go_num,bB,S2⟩
   case measure=>simp[intOf];omega
  .have hk16:k=16:=bB
   subst hk16;have FIN:Hid (dq wr b r Mv.lL):=hZ (S.1.congr (λn hn=>⟨rfl,by show 0=if n<16 then 0 else 1;rw[aJ hn]⟩));go_wp2
   go_ret
   rw[HB.v];exact⟨rfl,FIN.v,S.2⟩
theorem vK(b:Nat)(a n:Int)(w:bD)(k:Mv.lu a n=bw):Calls prog 177 #[ai (bj ⟨b,0,bu⟩),aa az a,aa az n] w λe w'=>e=bf (ao #[aj bu 0 0,bN 1])/\w'=w:=by
 unfold Mv.lu at k;rw[decide_eq_true_iff]at k;by_cases h1:n<1
 .clear k;go_in
  go_wp2
  go_ret2
  exact⟨rfl,rfl⟩
 .have d1:decide (n<1)=bA:=aT h1;by_cases h2:a<0
  .clear k h1;go_in
   go_wp2
   go_ret2
   exact⟨rfl,rfl⟩
  .have d2:decide (a<0)=bA:=aT h2;by_cases h3:16<=a
   .clear k h1 h2;go_in
    go_wp2
    go_ret2
    exact⟨rfl,rfl⟩
   .have d3:decide (16<=a)=bA:=aT h3;have h4:16-a<n:=bB
    have hw:IntKind.i64.wrap (16-a)=16-a:=aN _ ⟨by omega,bB⟩;go_in
    go_wp2
    go_ret2
    exact⟨rfl,rfl⟩
theorem xY(b x n:Nat)(w:bD)(hx:x<16)(h1:1<=n)(hn:x+n<=16):Calls prog 177 #[ai (bj ⟨b,0,bu⟩),aa az x,aa az n] w λe w'=>e=bf (ao #[aj (bj ⟨b,1+x*2,bu⟩) n (16-x),bN 0])/\w'=w:=by
 have d1:decide ((n:Int)<1)=bA:=by simp;omega
 have d3:decide (16<=(x:Int))=bA:=by simp;omega
 have hw:IntKind.i64.wrap (16-(x:Int))=16-(x:Int):=aN _ ⟨by omega,bB⟩;have d4:decide (16-(x:Int)<(n:Int))=bA:=by simp;omega
 have hw2:IntKind.i64.wrap ((x:Int)+(n:Int))=(x:Int)+(n:Int):=aN _ ⟨by omega,bB⟩;have d5:(x:Int)+(n:Int)<=16:=bB
 have d6:(x:Int)<=(x:Int)+(n:Int):=bB
 go_in
 go_wp2
 rw[show x+n-x=n by omega];go_ret2
 exact⟨rfl,rfl⟩
theorem SR(wr:Bool)(w:bD):Calls prog 237 #[ar wr] w λe w'=>e=bf (aa az ((if wr then 2 else 1:Nat):Int))/\w'=w:=by
 cases wr
 .go_in
  go_wp2
  go_ret
  exact⟨rfl,rfl⟩
 .go_in
  go_wp2
  go_ret
  exact⟨rfl,rfl⟩
theorem Ci(u:Nat)(v:Int)(w:bD):Calls prog 179 #[au #[aa az (u:Int),aa az v]] w λe w'=>e=bf (ar (decide (u≠0)))/\Below w.heap.size w w':=by
 have BL:Hid (∀o,Below w.heap.size w (w.alloc o)):=hZ (λo=>(aQ _ _).alloc (aL _) o);by_cases c:u=0
 .subst c;go_in
  go_wp2
  go_ret
  exact⟨rfl,BL.v _⟩
 .have c':((u:Int)==0)=bA:=by simp;omega
  have HE:=hZ (aO (show u≠0 from c));have HC:=hZ c';go_in
  go_wp2
  go_ret
  exact⟨da (by rw[HE.v];first|rfl|(show(!((u:Int)==0))=bw;rw[HC.v];rfl)),BL.v _⟩
theorem zC(u:Nat)(v:Int)(w:bD):Calls prog 181 #[au #[aa az (u:Int),aa az v]] w λe w'=>e=bf (ar (decide (u=0)))/\Below w.heap.size w w':=by
 have BL:Hid (∀o,Below w.heap.size w (w.alloc o)):=hZ (λo=>(aQ _ _).alloc (aL _) o);by_cases c:u=0
 .subst c;go_in
  go_wp2
  go_ret
  exact⟨rfl,BL.v _⟩
 .have c':((u:Int)==0)=bA:=by simp;omega
  have HE:=hZ (aT c);go_in
  go_wp2
  go_ret
  exact⟨da HE.symm,BL.v _⟩
def zU(F:Nat)(A:Nat->Bool):Prop:=∀(u:Nat) (v:Int) (w:bD),Calls prog F #[au #[aa az (u:Int),aa az v]] w λe w'=>e=bf (ar (A u))/\Below w.heap.size w w'
theorem dq.C7{m:Me}(h:dq w b r m)(x j:Nat)(hj:x+j<16):w.cell? ⟨b,1+x*2+j*2,bu⟩=bj (aa az (m.is (x+j):Int)):=by
 have:=h.Vs (x+j) hj;grind
theorem dq.Im{m:Me}(h:dq w b r m)(x j:Nat)(hj:x+j<16):w.cell? ⟨b,1+x*2+j*2+1,bu⟩=bj (aa az ((m.fr (x+j):Int)-1)):=by
 have:=h.wO (x+j) hj;grind
theorem Ik:zU 179 (λu=>decide (u≠0)):=Ci
theorem CV:zU 181 (λu=>decide (u=0)):=zC
theorem Cg(A:Nat->Bool)(hA:zU 179 A)(b r x n c:Nat)(m:Me)(w:bD)(h:dq w b r m)(hn:x+n<=16):
  Calls prog 236 #[aj (bj ⟨b,1+x*2,bu⟩) n c, .func (.func 179) #[] #[]] w λe w'=>∃z:Int,e=bf (aa az z)/\decide (0<=z)=(List.range n).any (λj=>A (m.is (x+j)))/\Below w.heap.size w w':=by
 have HF:=hZ h;have HA:=hZ hA;go_in
 go_wp2_with fail
 go_loopw [8] (λi wr=>∃(k:Nat),i=aa az k/\k<=n/\Hid (Below w.heap.size w wr/\∀j,j<k->A (m.is (x+j))=bA)) (λi _=>n-(intOf i).toNat)
 case atStart=>exact⟨0,rfl,bB,aQ _ _,λj hj=>bB⟩
 case round=>
  obtain⟨k,rfl,hk,S⟩:=hrel;by_cases hlt:k<n
  .have hltI:(k:Int)<(n:Int):=bB
   have c0:=(HF.below S.1).C7 x k bB;have c1:=(HF.below S.1).Im x k bB;go_wp2_with fail
   refine sC (HA.v _ _ _) ?_;rintro w1 hb;have HB:=hZ (S.1.trans (hb.mono S.1.size));cases ha:A (m.is (x+k))
   .have N:Hid (∀j,j<k+1->A (m.is (x+j))=bA):=hZ (λj hj=>by
     by_cases e:j=k
     .rw[e];exact ha
     .exact S.2 j bB)
    go_wp2
    go_roundw
    case rel=>exact⟨k+1,by go_num,bB,HB.v,N.v⟩
    case measure=>simp[intOf];omega
   .have N:Hid (decide ((0:Int)<=(k:Int))=(List.range n).any (λj=>A (m.is (x+j)))):=hZ (by
     rw[aO bB];exact(List.any_eq_true.2 ⟨k,List.mem_range.2 hlt,ha⟩).symm)
    go_wp2
    go_ret
    exact⟨k,rfl,N.v,HB.v⟩
  .have hltI:¬(k:Int)<(n:Int):=bB
   have N:Hid (decide ((0:Int)<= -1)=(List.range n).any (λj=>A (m.is (x+j)))):=hZ (by
    rw[aT bB];symm;rw[List.any_eq_false];intro j hj;rw[S.2 j (by have:=List.mem_range.1 hj;omega)];decide)
   go_wp2
   go_ret
   exact⟨-1,rfl,N.v,S.1⟩
theorem xX(A:Nat->Bool)(hA:zU 179 A)(b r x n c:Nat)(m:Me)(w:bD)(h:dq w b r m)(hn:x+n<=16):
  Calls prog 178 #[aj (bj ⟨b,1+x*2,bu⟩) n c, .func (.func 179) #[] #[]] w λe w'=>e=bf (ar ((List.range n).any (λj=>A (m.is (x+j)))))/\Below w.heap.size w w':=by
 have HF:=hZ (aK h hA);clear h hA;go_in
 go_wp2_with fail
 refine(Cg A HF.2 b r x n c m _ HF.1 hn).mono ?_;rintro e w1 ⟨z,rfl,hz,hb⟩;have HB:=hZ (aK hz hb);clear hz hb;go_wp2
 go_ret
 exact⟨da HB.1,HB.2⟩
theorem zy(A:Nat->Bool)(hA:zU 181 A)(b r x n c:Nat)(m:Me)(w:bD)(h:dq w b r m)(hn:x+n<=16):
  Calls prog 236 #[aj (bj ⟨b,1+x*2,bu⟩) n c, .func (.func 181) #[] #[]] w λe w'=>∃z:Int,e=bf (aa az z)/\decide (0<=z)=(List.range n).any (λj=>A (m.is (x+j)))/\Below w.heap.size w w':=by
 have HF:=hZ h;have HA:=hZ hA;go_in
 go_wp2_with fail
 go_loopw [8] (λi wr=>∃(k:Nat),i=aa az k/\k<=n/\Hid (Below w.heap.size w wr/\∀j,j<k->A (m.is (x+j))=bA)) (λi _=>n-(intOf i).toNat)
 case atStart=>exact⟨0,rfl,bB,aQ _ _,λj hj=>bB⟩
 case round=>
  obtain⟨k,rfl,hk,S⟩:=hrel;by_cases hlt:k<n
  .have hltI:(k:Int)<(n:Int):=bB
   have c0:=(HF.below S.1).C7 x k bB;have c1:=(HF.below S.1).Im x k bB;go_wp2_with fail
   refine sC (HA.v _ _ _) ?_;rintro w1 hb;have HB:=hZ (S.1.trans (hb.mono S.1.size));cases ha:A (m.is (x+k))
   .have N:Hid (∀j,j<k+1->A (m.is (x+j))=bA):=hZ (λj hj=>by
     by_cases e:j=k
     .rw[e];exact ha
     .exact S.2 j bB)
    go_wp2
    go_roundw
    case rel=>exact⟨k+1,by go_num,bB,HB.v,N.v⟩
    case measure=>simp[intOf];omega
   .have N:Hid (decide ((0:Int)<=(k:Int))=(List.range n).any (λj=>A (m.is (x+j)))):=hZ (by
     rw[aO bB];exact(List.any_eq_true.2 ⟨k,List.mem_range.2 hlt,ha⟩).symm)
    go_wp2
    go_ret
    exact⟨k,rfl,N.v,HB.v⟩
  .have hltI:¬(k:Int)<(n:Int):=bB
   have N:Hid (decide ((0:Int)<= -1)=(List.range n).any (λj=>A (m.is (x+j)))):=hZ (by
    rw[aT bB];symm;rw[List.any_eq_false];intro j hj;rw[S.2 j (by have:=List.mem_range.1 hj;omega)];decide)
   go_wp2
   go_ret
   exact⟨-1,rfl,N.v,S.1⟩
theorem vJ(A:Nat->Bool)(hA:zU 181 A)(b r x n c:Nat)(m:Me)(w:bD)(h:dq w b r m)(hn:x+n<=16):
  Calls prog 178 #[aj (bj ⟨b,1+x*2,bu⟩) n c, .func (.func 181) #[] #[]] w λe w'=>e=bf (ar ((List.range n).any (λj=>A (m.is (x+j)))))/\Below w.heap.size w w':=by
 have HF:=hZ (aK h hA);clear h hA;go_in
 go_wp2_with fail
 refine(zy A HF.2 b r x n c m _ HF.1 hn).mono ?_;rintro e w1 ⟨z,rfl,hz,hb⟩;have HB:=hZ (aK hz hb);clear hz hb;go_wp2
 go_ret
 exact⟨da HB.1,HB.2⟩
theorem zE(b r x n c:Nat)(wt:Bool)(m:Me)(w:bD)(h:dq w b r m)(hn:x+n<=16):
  Calls prog 180 #[aj (bj ⟨b,1+x*2,bu⟩) n c,ar wt] w λe w'=>e=bf (ao #[])/\dq w' b r (Mv.qQ m x (x+n) wt)/\bH b w w':=by
 have S0:Hid (dq w b r (Mv.qQ m x (x+0) wt)/\bH b w w):=hZ ⟨h.congr (λi _=>⟨Mv.Lg m x wt i,rfl⟩),bH.refl _ _⟩;obtain⟨av,hav⟩:=nJ ((if wt then 2 else 1:Nat));have HA:=hZ hav;go_in
 go_wp2_with fail
 go_loopw [7] (λi wr=>∃(k:Nat),i=aa az k/\k<=n/\Hid (dq wr b r (Mv.qQ m x (x+k) wt)/\bH b w wr)) (λi _=>n-(intOf i).toNat)
 case atStart=>exact⟨0,rfl,bB,S0⟩
 case round=>
  obtain⟨k,rfl,hk,S⟩:=hrel;by_cases hlt:k<n
  .have hltI:(k:Int)<(n:Int):=bB
   have c0:=S.1.C7 x k bB;have cf:=S.1.frozen;have S2:Hid (dq (wr.setCell ⟨b,1+x*2+k*2,bu⟩ (aa az (av:Int))) b r (Mv.qQ m x (x+(k+1)) wt)/\bH b w (wr.setCell ⟨b,1+x*2+k*2,bu⟩ (aa az (av:Int)))):=hZ ⟨by
    have a:=S.1.Qo (x+k) av bB;rw[show 1+(x+k)*2=1+x*2+k*2 by omega]at a;refine a.congr (λi _=>⟨?_,rfl⟩);rw[<-Nat.add_assoc,Mv.Lh bB,HA.v];rfl,S.2.setCell _ _⟩
   go_wp2_with fail
   refine sC (SR wt _) ?_;rintro w1 hw;subst w1;rw[HA.v];go_wp2
   go_roundw
   case rel=>exact⟨k+1,by go_num,bB,S2⟩
   case measure=>simp[intOf];omega
  .have hkn:k=n:=bB
   subst hkn;go_wp2_with fail
   go_end0
   exact⟨rfl,S.1,S.2⟩
theorem No{m:Me}(hn:x+n<=16):(List.range n).any (λj=>decide (m.is (x+j)≠0))=Mv.anyM m x (x+n):=by
 apply Bool.eq_iff_iff.2;rw[Mv.Nn hn,List.any_eq_true];constructor
 .grind
 .rintro⟨i,h1,h2,h3⟩;exact⟨i-x,List.mem_range.2 bB,by rw[show x+(i-x)=i by omega];exact aO h3⟩
theorem Nl{m:Me}(hn:x+n<=16):(List.range n).any (λj=>decide (m.is (x+j)=0))= !Mv.allM m x (x+n):=by
 cases c:Mv.allM m x (x+n)
 .rw[Bool.not_false,List.any_eq_true];apply Classical.byContradiction;intro d;have:Mv.allM m x (x+n)=bw:=(Mv.CS hn).2 (λi h1 h2 h3=>d ⟨i-x,List.mem_range.2 bB,by rw[show x+(i-x)=i by omega];exact aO h3⟩);rw[this]at c;cases c
 .rw[Bool.not_true,List.any_eq_false];intro j hj d;have:=List.mem_range.1 hj;exact(Mv.CS hn).1 c (x+j) bB bB (of_decide_eq_true d)
theorem PF(b r:Nat)(a n:Int)(wt:Bool)(m:Me)(w:bD)(h:dq w b r m):
  Calls prog 104 #[ai (bj ⟨b,0,bu⟩),aa az a,aa az n,ar wt] w λe w'=>e=bf (bN (Mv.se m a n))/\dq w' b r (Mv.mapM m a n wt)/\bH b w w':=by
 have HF:=hZ h;cases hb:Mv.lu a n
 .obtain⟨x,k,rfl,rfl,hx,hk1,hk⟩:=Mv.sE hb;have SP:=hZ (xY b x k w hx hk1 hk);have EX:Hid (Mv.se m x k=if Mv.anyM m x (x+k)=bw then 3 else 0):=hZ (by unfold Mv.se;rw[aI (by rw[hb];decide),hU,hU]);have EM:Hid (Mv.mapM m x k wt=if Mv.se m x k=0 then Mv.qQ m x (x+k) wt else m):=hZ (by unfold Mv.mapM;rw[hU,hU]);go_in
  go_wp2_with fail
  refine sC SP.v ?_;rintro w1 hw;subst w1;rw[bF];go_wp2_with fail
  refine sC (xX _ Ik b r x k (16-x) m _ HF.v hk) ?_;rintro w1 hb1;have H1:=hZ (aK (HF.below hb1) (bH.cJ (b:=b) hb1));rw[No hk];cases ha:Mv.anyM m x (x+k)
  .have E0:Hid (Mv.se m x k=0):=hZ (by rw[EX.v,ha];rfl);go_wp2_with fail
   refine sC (zE b r x k (16-x) wt m _ H1.1 hk) ?_;rintro w2 ⟨h2,f2⟩;have H2:=hZ (aK h2 (H1.2.trans f2));go_wp2
   go_ret
   rw[EM.v,E0.v,aJ rfl];exact⟨rfl,H2.v⟩
  .have E0:Hid (Mv.se m x k=3):=hZ (by rw[EX.v,ha];rfl);go_wp2
   go_ret
   rw[EM.v,E0.v,aI bE];exact⟨rfl,H1.v⟩
 .have EX:Hid (Mv.se m a n=1):=hZ (by unfold Mv.se;rw[aJ hb]);have EM:Hid (Mv.mapM m a n wt=m):=hZ (by unfold Mv.mapM;rw[EX.v,aI bE]);have SP:=hZ (vK b a n w hb);go_in
  go_wp2_with fail
  refine sC SP.v ?_;rintro w1 hw;subst w1;rw[bM bE];go_wp2
  go_ret
  rw[EX.v,EM.v];exact⟨rfl,HF.v,bH.refl _ _⟩
theorem Ff(b r:Nat)(a n:Int)(wt:Bool)(m:Me)(w:bD)(h:dq w b r m):
  Calls prog 105 #[ai (bj ⟨b,0,bu⟩),aa az a,aa az n,ar wt] w λe w'=>e=bf (bN (Mv.si m a n))/\dq w' b r (Mv.vm m a n wt)/\bH b w w':=by
 have HF:=hZ h;cases hb:Mv.lu a n
 .obtain⟨x,k,rfl,rfl,hx,hk1,hk⟩:=Mv.sE hb;have SP:=hZ (xY b x k w hx hk1 hk);have EX:Hid (Mv.si m x k=if Mv.allM m x (x+k)=bw then 0 else 10):=hZ (by unfold Mv.si;rw[aI (by rw[hb];decide),hU,hU]);have EM:Hid (Mv.vm m x k wt=if Mv.si m x k=0 then Mv.qQ m x (x+k) wt else m):=hZ (by unfold Mv.vm;rw[hU,hU]);go_in
  go_wp2_with fail
  refine sC SP.v ?_;rintro w1 hw;subst w1;rw[bF];go_wp2_with fail
  refine sC (vJ _ CV b r x k (16-x) m _ HF.v hk) ?_;rintro w1 hb1;have H1:=hZ (aK (HF.below hb1) (bH.cJ (b:=b) hb1));rw[Nl hk];cases ha:Mv.allM m x (x+k)
  .have E0:Hid (Mv.si m x k=10):=hZ (by rw[EX.v,ha];rfl);rw[Bool.not_false];go_wp2
   go_ret
   rw[EM.v,E0.v,aI bE];exact⟨rfl,H1.v⟩
  .have E0:Hid (Mv.si m x k=0):=hZ (by rw[EX.v,ha];rfl);rw[Bool.not_true];go_wp2_with fail
   refine sC (zE b r x k (16-x) wt m _ H1.1 hk) ?_;rintro w2 ⟨h2,f2⟩;have H2:=hZ (aK h2 (H1.2.trans f2));go_wp2
   go_ret
   rw[EM.v,E0.v,aJ rfl];exact⟨rfl,H2.v⟩
 .have EX:Hid (Mv.si m a n=1):=hZ (by unfold Mv.si;rw[aJ hb]);have EM:Hid (Mv.vm m a n wt=m):=hZ (by unfold Mv.vm;rw[EX.v,aI bE]);have SP:=hZ (vK b a n w hb);go_in
  go_wp2_with fail
  refine sC SP.v ?_;rintro w1 hw;subst w1;rw[bM bE];go_wp2
  go_ret
  rw[EX.v,EM.v];exact⟨rfl,HF.v,bH.refl _ _⟩
def UV(b r q x:Nat)(m:Me)(k:Bk)(w0:bD)(j:Nat)(w:bD):Prop:=UB w b r q (Mv.iN m x (x+j)) (Mv.jc m k x j)/\fR b r q w0 w/\Mv.yo (Mv.iN m x (x+j)) (Mv.jc m k x j)
theorem UV.start{m:Me}{k:Bk}(h:UB w b r q m k)(C:Mv.yo m k):UV b r q x m k w 0 w:=by
 have e1:∀i,(Mv.iN m x (x+0)).is i=m.is i:=λi=>nK;have e2:∀i,(Mv.iN m x (x+0)).fr i=m.fr i:=λi=>nK;refine⟨⟨h.me.congr (λi _=>⟨e1 i,e2 i⟩),h.bk,h.br,h.bq⟩,fR.refl _ _ _ _,C.inv,C.nb,λi hi=>by rw[e2];exact C.le i hi,λf hf=>?_⟩;rw[Mv.qj (fr:=m.fr) (λi _=>e2 i)];exact C.cQ f hf
theorem UV.below{b r q x j:Nat}{m:Me}{k:Bk}{w0 w w':bD}(h:UV b r q x m k w0 j w)(B:Below w.heap.size w w'):UV b r q x m k w0 j w':=⟨h.1.below B,h.2.1.trans (fR.below B),h.2.2⟩
theorem UV.fr{b r q x j:Nat}{m:Me}{k:Bk}{w0 w:bD}(_:UV b r q x m k w0 j w):(Mv.iN m x (x+j)).fr (x+j)=m.fr (x+j)/\(Mv.iN m x (x+j)).is (x+j)=m.is (x+j):=⟨nK,nK⟩
theorem UV.step{b r q x j:Nat}{m:Me}{k:Bk}{w0 w w2:bD}(h:UV b r q x m k w0 j w)(hj:x+j<16)(me:dq w2 b r (Mv.iN m x (x+j)))(bk:dH w2 r q (Mv.jc m k x (j+1)))(t:fR b r q w0 w2):
  UV b r q x m k w0 (j+1) ((w2.setCell ⟨b,1+x*2+j*2,bu⟩ (aa .i64 0)).setCell ⟨b,1+x*2+j*2+1,bu⟩ (aa az (-1))):=by
 have f:bH b w2 ((w2.setCell ⟨b,1+x*2+j*2,bu⟩ (aa .i64 0)).setCell ⟨b,1+x*2+j*2+1,bu⟩ (aa az (-1))):=((bH.refl b w2).setCell _ _).setCell _ _;have a:=(me.Qo (x+j) 0 hj).CD (x+j) 0 hj (-1) rfl;rw[show 1+(x+j)*2=1+x*2+j*2 by omega]at a;refine⟨⟨a.congr (λi _=>?_),bk.mV f h.1.br h.1.bq,h.1.br,h.1.bq⟩,t.trans (fR.mem f),h.2.2.step hj⟩;show _=jk _ _ _ i/\_=jk _ _ _ i;unfold jk;by_cases d:i=x+j
 .subst d;rw[aJ rfl,aJ rfl];exact Mw m x j
 .rw[aI d,aI d];exact E9 d
theorem MK(b r q x n:Nat)(m:Me)(k:Bk)(w:bD)(h:UB w b r q m k)(C:Mv.yo m k)(hx:x<16)(h1:1<=n)(hn:x+n<=16):
  Calls prog 158 #[ai (bj ⟨b,0,bu⟩),aa az x,aa az n] w λe w'=>e=bf (ao #[aa az (Mv.mN m x n:Int),bN 0])/\UB w' b r q (Mv.iN m x (x+n)) (Mv.jc m k x n)/\fR b r q w w':=by
 have S0:Hid (UV b r q x m k w 0 w):=hZ (UV.start h C);have SP:=hZ (xY b x n w hx h1 hn);go_in
 go_wp2_with fail
 refine sC SP.v ?_;rintro w1 hw;subst w1;rw[bF];go_wp2_with fail
 go_loopw [10,25] (λs i wr=>∃(j:Nat),i=aa az j/\s=aa az (Mv.mN m x j:Int)/\j<=n/\Hid (UV b r q x m k w j wr)) (λ_ i _=>n-(intOf i).toNat)
 case atStart=>exact⟨0,rfl,rfl,bB,S0⟩
 case round=>
  obtain⟨j,rfl,rfl,hj,S⟩:=hrel;by_cases hlt:j<n
  .have hltI:(j:Int)<(n:Int):=bB
   have c0:=S.1.me.C7 x j bB;have c1:=S.1.me.Im x j bB;have cf:=S.1.me.frozen;rw[S.fr.1]at c1;have hbs:b<wr.heap.size:=S.1.me.lt;have hbn:b≠wr.heap.size:=bB
   have lc:=Mv.UF m x j;by_cases f0:m.fr (x+j)=0
   .have LE:Hid (Mv.mN m x (j+1)=Mv.mN m x j):=hZ (by show Mv.mN m x j+(if m.fr (x+j)=0 then 0 else 1)=_;rw[aJ f0];rfl);have KE:Hid (Mv.jc m k x (j+1)=Mv.jc m k x j):=hZ (aJ f0);rw[f0]at c1;have c1':wr.cell? ⟨b,1+x*2+j*2+1,bu⟩=bj (aa az (-1)):=c1;have NX:Hid (∀o,UV b r q x m k w (j+1) (((wr.setCell ⟨b,1+x*2+j*2,bu⟩ (aa .i64 0)).setCell ⟨b,1+x*2+j*2+1,bu⟩ (aa az (-1))).alloc o)):=hZ (λo=>
     (S.step bB S.1.me (by rw[KE.v];exact S.1.bk) S.2.1).below ((aQ _ _).alloc (aL _) o))
    go_wp2
    go_roundw
    case rel=>exact⟨j+1,by go_num,by rw[LE.v],bB,NX.v _⟩
    case measure=>simp[intOf];omega
   .obtain⟨v,hv⟩:∃v,m.fr (x+j)=v+1:=⟨m.fr (x+j)-1,bB⟩;have LE:Hid (Mv.mN m x (j+1)=Mv.mN m x j+1):=hZ (by show Mv.mN m x j+(if m.fr (x+j)=0 then 0 else 1)=_;rw[aI f0]);have KE:Hid (Mv.jc m k x (j+1)=Mv.kH (Mv.jc m k x j) v):=hZ (by
     show(if m.fr (x+j)=0 then Mv.jc m k x j else Mv.kH (Mv.jc m k x j) (m.fr (x+j)-1))=_;rw[aI f0,hv,aP])
    rw[hv,show((v+1:Nat):Int)-1=(v:Int)by omega]at c1;have v64:v<64:=by have:=S.2.2.le (x+j) bB;rw[S.fr.1,hv]at this;omega
    have v1:((v:Int)== -1)=bA:=by simp
    have RF:Hid (1<=(Mv.jc m k x j).refs v/\(Mv.jc m k x j).refs v<2^60):=hZ (by
     have a:=S.2.2.cQ v v64;have p:=Mv.Dd (fr:=(Mv.iN m x (x+j)).fr) (f:=v) (n:=16) (i:=x+j) bB (by rw[S.fr.1,hv]);omega)
    have d0:=S.1.me.tA;have SB:Hid (∀o,UV b r q x m k w j (wr.alloc o)):=hZ (λo=>S.below ((aQ _ _).alloc (aL _) o));go_wp2_with fail
    go_region_with ((go_at_call 228;refine sC (zD r q v (Mv.jc m k x j) _ (by first|exact(SB.v _).1.bk.drew|exact(SB.v _).1.bk) v64 S.2.2.inv RF.1 RF.2) ?_;rintro w4 ⟨hk4,F4⟩;have H4:Hid (dq w4 b r (Mv.iN m x (x+j))/\dH w4 r q (Mv.kH (Mv.jc m k x j) v)/\fR b r q w w4):=hZ (by first|exact⟨(SB.v _).1.me.drew.two F4 S.1.br S.1.bq,hk4,(SB.v _).2.1.drew.trans (fR.CW F4)⟩|exact⟨(SB.v _).1.me.two F4 S.1.br S.1.bq,hk4,(SB.v _).2.1.trans (fR.CW F4)⟩)))
    all_goals
     have e0:=H4.1.C7 x j bB;have e1:=H4.1.Im x j bB;have ef:=H4.1.frozen;have NX:Hid (UV b r q x m k w (j+1) ((w4.setCell ⟨b,1+x*2+j*2,bu⟩ (aa .i64 0)).setCell ⟨b,1+x*2+j*2+1,bu⟩ (aa az (-1)))):=hZ (S.step bB H4.1 (by rw[KE.v];exact H4.2.1) H4.2.2);generalize Mv.mN m x j=cj at*;go_wp2
     go_roundw
     case rel=>exact⟨j+1,by go_num,by rw[LE.v];go_num,bB,NX.v⟩
     case measure=>simp[intOf];omega
  .have hjn:j=n:=bB
   subst hjn;go_wp2
   go_ret2
   exact⟨rfl,S.1,S.2.1⟩
theorem JK(b r q:Nat)(a n:Int)(m:Me)(k:Bk)(w:bD)(h:UB w b r q m k)(C:Mv.yo m k):
  Calls prog 158 #[ai (bj ⟨b,0,bu⟩),aa az a,aa az n] w λe w'=>e=bf (ao #[aa az (Mv.qa m a n:Int),bN (Mv.oF a n)])/\UB w' b r q (Mv.jM m a n) (Mv.ml m k a n)/\fR b r q w w':=by
 unfold Mv.qa Mv.oF Mv.jM Mv.ml;cases hb:Mv.lu a n
 .obtain⟨x,j,rfl,rfl,hx,hk1,hk⟩:=Mv.sE hb;rw[aI bE,aI bE,aI bE,aI bE,hU,hU];exact MK b r q x j m k w h C hx hk1 hk
 .rw[aJ rfl,aJ rfl,aJ rfl,aJ rfl];have HF:=hZ h;have SP:=hZ (vK b a n w hb);go_in
  go_wp2_with fail
  refine sC SP.v ?_;rintro w1 hw;subst w1;rw[bM bE];go_wp2
  go_ret2
  exact⟨rfl,HF.v,fR.refl _ _ _ _⟩
def kC(r:Nat)(m:Me):Array Value:=((List.range 33).map (lH r m)).toArray
theorem G6(r:Nat)(m:Me)(i:Nat)(h:i<33):(kC r m)[i]? =bj (lH r m i):=by simp[kC,h]
theorem Bx(r:Nat)(m:Me):(kC r m).size=33:=by simp[kC]
theorem qR(r:Nat)(m:Me):(kC r m).toList.length=33:=by simp[kC]
theorem OR(r:Nat)(m:Me):(kC r m).all (·.oneCell')=bw:=by
 rw[Array.all_eq_true_iff_forall_mem];intro v hv;simp only[kC,List.mem_toArray,List.mem_map]at hv;obtain⟨o,_,rfl⟩:=hv;unfold lH;split
 .rfl
 .split<;>rfl
theorem dq.all{m:Me}(h:dq w b r m):w.rangeAt b 0 (kC r m).toList:=λj v hv=>by
 have hj:j<33:=by have:=(aY.1 hv).1;rwa [qR]at this
 rw[aM,G6 r m j hj]at hv;rw[Nat.zero_add,<-hv];exact h.cell j hj
def rU:Array Value:=((List.range 33).map λo=>if o=0 then ai bu else aa .i64 0).toArray
section
variable {ops:Array Oper}{rest:List Oper}{x:Oper}{a:Act}{w:bD}{Q:Exit->Act->bD->Prop}
theorem AZ(hgd:x.guard=bu)(ho:x.op= .alloc 186)(h:wpList prog ops Q rest (a.put x.dst (ai (bj ⟨w.heap.size,0,bu⟩))) (w.alloc (bh rU 186))):wpList prog ops Q (x::rest) a w:=
 wpList_plain hgd λ_ hK=>by
  unfold Oper.wp execOp;simp only[ho];simp[go_sem];exact hK _ _ h
end
theorem Pw:rU.size=33:=by simp[rU]
theorem UD{c:Nat}{m:Me}(h:w.heap[c]? =bj (bh rU 186 (0,0))):dq (w.setCells c 0 (kC r m).toList) c r m:=by
 obtain⟨C',k1,k2⟩:=eR c (kC r m).toList 0 w rU h;refine⟨⟨C',k1,by rw[k2,Pw]⟩,λo ho=>?_⟩;have:=aS c (kC r m).toList 0 w (λi hi=>by
  rw[qR]at hi;rw[bS h];simp[rU];exact hi) o (by rw[qR];exact ho)
 rw[Nat.zero_add]at this;rw[this,<-aW (by rw[qR];exact ho),aM,G6 r m o ho]
def Mv.dZ(m:Me)(k:Bk)(j:Nat):Bk:={k with refs:=λf=>k.refs f+Mv.eS m.fr f j}
theorem dH.congr{k k':Bk}(h:dH w r q k)(e1:k'.cX=k.cX)(e2:∀f,f<64->k'.refs f=k.refs f)(e3:∀f j,f<64->k'.dJ f j=k.dJ f j):dH w r q k':=by
 refine⟨h.dk,λo ho=>?_,by rw[e1];exact h.cX,h.ne⟩;rw[h.cell o ho];unfold nY;by_cases c:o=0
 .rw[aJ c,aJ c]
 .rw[aI c,aI c,e2 _ bB,e3 _ _ bB]
theorem dH.Ro{m:Me}{k:Bk}(h:dH w r q k):dH w r q (Mv.dZ m k 0):=h.congr rfl (λ_ _=>rfl) (λ_ _ _=>rfl)
theorem dH.VF{m:Me}{k:Bk}(h:dH w r q (Mv.dZ m k j))(c:m.fr j=0):dH w r q (Mv.dZ m k (j+1)):=h.congr rfl (λf _=>by
 show k.refs f+(Mv.eS m.fr f j+if m.fr j=f+1 then 1 else 0)=k.refs f+Mv.eS m.fr f j;rw[nK];rfl) (λ_ _ _=>rfl)
theorem dH.UQ{m:Me}{k:Bk}(h:dH w r q (Mv.dZ m k j))(c:m.fr j=v+1)(hv:v<64):dH (w.setCell ⟨r,1+v*9,bu⟩ (aa az (((Mv.dZ m k j).refs v+1:Nat):Int))) r q (Mv.dZ m k (j+1)):=(h.sR v _ hv).congr rfl (λf _=>by
 show k.refs f+(Mv.eS m.fr f j+if m.fr j=f+1 then 1 else 0)=if f=v then k.refs v+Mv.eS m.fr v j+1 else k.refs f+Mv.eS m.fr f j;by_cases e:f=v
 .subst e;rw[aJ c,aJ rfl];omega
 .rw[nK,aI e];rfl) (λ_ _ _=>rfl)
theorem Gw(fr:Nat->Nat)(f n:Nat):Mv.eS fr f n<=n:=by
 induction n with
 |zero=>exact aL 0
 |succ n ih=>show Mv.eS fr f n+_<=n+1;split<;>omega
theorem MH(b r q:Nat)(m:Me)(k:Bk)(w:bD)(h:UB w b r q m k)(hl:∀i,i<16->m.fr i<=64)(hr:∀f,f<64->k.refs f<2^58):
  Calls prog 144 #[ai (bj ⟨b,0,bu⟩)] w λe w'=>e=bf (ai (bj ⟨w.heap.size,0,bu⟩))/\dq w' w.heap.size r m/\UB w' b r q m (Mv.dZ m k 16)/\bH r w w':=by
 have HF:=hZ (aK h (aK hl hr));have HR:=hZ h.me.all;have hs1:Hid ((prog.info? 186).map (·.size)=bj (kC r m).toList.length):=hZ (by rw[qR];kernel_rfl);have hs2:Hid ((prog.info? 186).map (·.size)=bj (kC r m).size):=hZ (by rw[Bx];kernel_rfl);have h1c:=hZ (OR r m);have N0:Hid ((w.alloc (bh rU 186)).heap[w.heap.size]? =bj (bh rU 186 (0,0))):=hZ (heap_alloc_new w _);have TH:Hid ((w.alloc (bh rU 186)).there w.heap.size 0 (kC r m).size):=hZ (λj hj=>by
  rw[Bx]at hj;refine⟨?_,cE N0.v _⟩;rw[bS N0.v];simp[rU];exact hj)
 have FIN:Hid (dq ((w.alloc (bh rU 186)).setCells w.heap.size 0 (kC r m).toList) w.heap.size r m/\UB ((w.alloc (bh rU 186)).setCells w.heap.size 0 (kC r m).toList) b r q m k/\Below w.heap.size w ((w.alloc (bh rU 186)).setCells w.heap.size 0 (kC r m).toList)):=hZ (by
  have bb:Below w.heap.size w ((w.alloc (bh rU 186)).setCells w.heap.size 0 (kC r m).toList):=(bH.setCells _ _ (bH.refl w.heap.size _)).below ((aQ _ _).alloc (aL _) _) (aL _) (by simp);exact⟨UD N0.v,HF.1.below bb,bb⟩)
 obtain⟨A,hA⟩:=nJ (kC r m);rw[hA]at HR hs1 hs2 h1c TH FIN;go_in
 go_upto_region 2 with(first|(refine wpList_load_mid rfl 186 _ rfl b 0 rfl A.toList _ HR.v Tryz.underlying186 rfl hs1.v ?_;rw[Array.toArray_toList])|(refine AZ rfl rfl ?_)|(refine wpList_store_mid rfl 186 _ _ rfl w.heap.size 0 A rfl rfl TH.v hs2.v h1c.v ?_))
 refine cM (λW=>dq W w.heap.size r m/\UB W b r q m k/\Below w.heap.size w W) FIN.v ?_;intro W1 hW1;have S1:=hZ hW1;obtain⟨c,hc⟩:=nJ (w.heap.size);have HC:Hid (w.heap.size=c/\c≠r/\c≠q/\b≠c):=hZ ⟨hc,by have:=HF.1.bk.lt;omega,by have:=HF.1.bk.DU;omega,by have:=HF.1.me.lt;omega⟩;rw[hc]at S1|-;have hsz:=hZ (BO m);have HR:=hZ S1.1.range;go_wp2_with (refine wpList_load_mid rfl 184 _ rfl c 1 rfl (rowP m) (.array 16 183) HR.v bC rfl hsz.v ?_)
 have S2:Hid (dq W1 c r m/\UB W1 b r q m (Mv.dZ m k 0)/\bH r w W1):=hZ ⟨S1.1,⟨S1.2.1.me,S1.2.1.bk.Ro,S1.2.1.br,S1.2.1.bq⟩,bH.cJ (by have:=S1.2.2;rw[<-HC.1]at this;exact this)⟩;go_loopw [11] (λi wr=>∃(j:Nat),i=aa az j/\j<=16/\Hid (dq wr c r m/\UB wr b r q m (Mv.dZ m k j)/\bH r w wr)) (λi _=>16-(intOf i).toNat)
 case atStart=>exact⟨0,rfl,bB,S2⟩
 case round=>
  obtain⟨j,rfl,hj,S⟩:=hrel;by_cases hlt:j<16
  .have hltI:(j:Int)<16:=bB
   have hix:=yS m j hlt;have AL:Hid (∀o,dq (wr.alloc o) c r m/\UB (wr.alloc o) b r q m (Mv.dZ m k j)/\bH r w (wr.alloc o)):=hZ (λo=>by
    have bb:Below wr.heap.size wr (wr.alloc o):=(aQ _ _).alloc (aL _) o;exact⟨S.1.below bb,S.2.1.below bb,S.2.2.trans (bH.cJ bb)⟩)
   generalize m.is j=u0 at*;by_cases f0:m.fr j=0
   .have NX:Hid (∀o,dq (wr.alloc o) c r m/\UB (wr.alloc o) b r q m (Mv.dZ m k (j+1))/\bH r w (wr.alloc o)):=hZ (λo=>⟨(AL.v o).1,⟨(AL.v o).2.1.me,(AL.v o).2.1.bk.VF f0,(AL.v o).2.1.br,(AL.v o).2.1.bq⟩,(AL.v o).2.2⟩);rw[f0]at hix;go_wp2
    go_roundw
    case rel=>exact⟨j+1,by go_num,bB,NX.v _⟩
    case measure=>simp[intOf];omega
   .obtain⟨v,hv⟩:∃v,m.fr j=v+1:=⟨m.fr j-1,bB⟩;have v64:v<64:=by have:=HF.2.1 j hlt;omega
    rw[hv,show((v+1:Nat):Int)-1=(v:Int)by omega]at hix;have v1:((v:Int)== -1)=bA:=by simp
    have vI:(v:Int)<64:=bB
    have hcl:=Gw m.fr v j;have hrl:=HF.2.2 v v64;have rfl2:Hid ((Mv.dZ m k j).refs v<2^59):=hZ (by show k.refs v+Mv.eS m.fr v j<_;omega);have NX:Hid (∀W,dq W c r m->UB W b r q m (Mv.dZ m k j)->bH r w W->dq (W.setCell ⟨r,1+v*9,bu⟩ (aa az (((Mv.dZ m k j).refs v+1:Nat):Int))) c r m/\UB (W.setCell ⟨r,1+v*9,bu⟩ (aa az (((Mv.dZ m k j).refs v+1:Nat):Int))) b r q m (Mv.dZ m k (j+1))/\bH r w (W.setCell ⟨r,1+v*9,bu⟩ (aa az (((Mv.dZ m k j).refs v+1:Nat):Int)))):=hZ (λW a1 a2 a3=>
     ⟨a1.same (dR _ _ _ _ HC.2.1),⟨a2.me.same (dR _ _ _ _ a2.br),a2.bk.UQ hv v64,a2.br,a2.bq⟩,a3.setCell _ _⟩)
    obtain⟨rv,hrv⟩:=nJ ((Mv.dZ m k j).refs v);rw[hrv]at NX rfl2;have CR:Hid (∀W,UB W b r q m (Mv.dZ m k j)->W.cell? ⟨r,1+v*9,bu⟩=bj (aa az (rv:Int))):=hZ (λW hW=>by rw[<-hrv];exact hW.bk.yJ v v64);have rl:=rfl2.v;have hw:IntKind.i64.wrap ((rv:Int)+1)=(rv:Int)+1:=aN _ ⟨by omega,bB⟩;go_upto_region 6 with fail
    refine cM (λW=>(dq W c r m/\UB W b r q m (Mv.dZ m k j)/\bH r w W)/\W.heap[wr.heap.size]? =bj (bh #[aa az (u0:Int),aa az (v:Int)] 183 (0,0))) ⟨AL.v _,heap_alloc_new wr _⟩ ?_;rintro W2 ⟨h2,x2⟩;have H2:=hZ h2;have d0:=h2.2.1.me.tA;have d1:=cR x2 1 _ rfl;have d2:=CR.v _ h2.2.1;have df:=h2.2.1.bk.frozen;generalize wr.heap.size=bp at*;go_region
    generalize hW:World.drew _=W3;have H3:Hid (dq W3 c r m/\UB W3 b r q m (Mv.dZ m k (j+1))/\bH r w W3):=hZ (by
     rw[<-hW];have a:=NX.v W2 H2.1 H2.2.1 H2.2.2;exact⟨a.1.drew,a.2.1.drew,a.2.2.drew⟩)
    go_wp2
    go_roundw
    case rel=>exact⟨j+1,by go_num,bB,H3⟩
    case measure=>simp[intOf];omega
  .have hj16:j=16:=bB
   subst hj16;go_wp2
   go_ret
   rw[HC.1];exact⟨rfl,S.v⟩
