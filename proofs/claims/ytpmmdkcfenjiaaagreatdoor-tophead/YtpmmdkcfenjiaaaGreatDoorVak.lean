import Derived.Test.YtpmmdkcfenjiaaaGreatDoorVae
import Derived.Test.YtpmmdkcfenjiaaaGreatDoorVaj
set_option maxRecDepth 100000
set_option maxHeartbeats 2000000
namespace Go.Proofs.YtpmmdkcfenjiaaaGreatDoor
open Go.RowKit
namespace Mv
structure Me where
 is:Nat->Nat
 fr:Nat->Nat
def jS (a n:Int):Bool:=decide (a<0\/15<a\/n<1\/16-a<n)
def jA (m:Me)(z:Int)(wr:Bool):Bool:=if z<0\/127<z then false else decide (m.is (z.toNat/8)=2)||(decide (m.is (z.toNat/8)=1)&& !wr)
def mh (m:Me)(z:Int):Bool:=jA m z false&&decide (m.fr (z.toNat/8)=0)
def oT (m:Me)(a e:Nat)(wr:Bool):Me:={m with is:=fun i=>if a<=i/\i<e then(if wr then 2 else 1)else m.is i}
def anyM (m:Me)(a e:Nat):Bool:=(List.range 16).any (fun i=>decide (a<=i/\i<e)&&decide (m.is i≠0))
def allM (m:Me)(a e:Nat):Bool:=(List.range 16).all (fun i=> !decide (a<=i/\i<e)||decide (m.is i≠0))
def pZ (m:Me)(a n:Int):Int:=if jS a n=true then 1 else if anyM m a.toNat (a.toNat+n.toNat)=true then 3 else 0
def mapM (m:Me)(a n:Int)(wr:Bool):Me:=if pZ m a n=0 then oT m a.toNat (a.toNat+n.toNat) wr else m
def pW (m:Me)(a n:Int):Int:=if jS a n=true then 1 else if allM m a.toNat (a.toNat+n.toNat)=true then 0 else 10
def sj (m:Me)(a n:Int)(wr:Bool):Me:=if pW m a n=0 then oT m a.toNat (a.toNat+n.toNat) wr else m
def gB (m:Me):Nat->Nat
 |0=>0
 |k+1=>gB m k+if m.fr k=0 then 0 else 1
theorem sN {a n:Int}(h:jS a n=false): ∃x k:Nat,a=x/\n=k/\x<16/\1<=k/\x+k<=16:=by
 unfold jS at h;rw[decide_eq_false_iff_not]at h;exact⟨a.toNat,n.toNat,by omega,by omega,by omega,by omega,by omega⟩
theorem Gg {m:Me}{a i:Nat}{wr:Bool}(hi:a<=i)(x:Nat):(oT m a (i+1) wr).is x=if x=i then(if wr then 2 else 1)else(oT m a i wr).is x:=by
 show(if a<=x/\x<i+1 then(if wr then 2 else 1)else m.is x)=if x=i then(if wr then 2 else 1)else(if a<=x/\x<i then(if wr then 2 else 1)else m.is x);by_cases c:x=i
 ·rw[aJ (by omega),aJ c]
 ·rw[aI c];by_cases d:a<=x/\x<i
  ·rw[aJ (by omega),aJ d]
  ·rw[aI (by omega),aI d]
theorem IP (m:Me)(a:Nat)(wr:Bool)(x:Nat):(oT m a a wr).is x=m.is x:=by
 show(if a<=x/\x<a then _ else m.is x)=m.is x;rw[aI (by omega)]
theorem I9 {m:Me}{a e:Nat}(he:e<=16):anyM m a e=true↔ ∃i,a<=i/\i<e/\m.is i≠0:=by
 unfold anyM;rw[List.any_eq_true];constructor
 ·rintro⟨i,_,h⟩;simp only[Bool.and_eq_true,decide_eq_true_eq]at h;exact⟨i,h.1.1,h.1.2,h.2⟩
 ·rintro⟨i,h1,h2,h3⟩;exact⟨i,by simp;omega,by simp only[Bool.and_eq_true,decide_eq_true_eq];exact⟨⟨h1,h2⟩,h3⟩⟩
theorem zY {m:Me}{a e:Nat}(he:e<=16):allM m a e=true↔ ∀i,a<=i->i<e->m.is i≠0:=by
 unfold allM;rw[List.all_eq_true];constructor
 ·intro h i h1 h2;have:=h i (by simp;omega);simp only[Bool.or_eq_true,Bool.not_eq_true',decide_eq_false_iff_not,decide_eq_true_eq]at this;rcases this with c|c
  ·exact aZ ⟨h1,h2⟩ c
  ·exact c
 ·intro h i _;simp only[Bool.or_eq_true,Bool.not_eq_true',decide_eq_false_iff_not,decide_eq_true_eq];by_cases c:a<=i/\i<e
  ·exact .inr (h i c.1 c.2)
  ·exact .inl c
end Mv
open Mv (Me)
section
variable {w w' : bD} {b r : Nat} {m m' : Me} {own own' : Nat -> Bool}
def iX (f:Nat->Nat)(i v:Nat):Nat->Nat:=fun j=>if j=i then v else f j
end
theorem Ac (x:Nat):((x:Int)/8).toNat=x/8:=by omega
section
attribute [local go_sem] Ac
end
theorem qp (m:Me)(k:Nat):Mv.gB m k<=k:=by
 induction k with
 |zero=>exact aL 0
 |succ k ih=>show Mv.gB m k+_<=k+1;split<;>omega
open Bd (P)
namespace Mv
structure Bk where
 cq:P
 cX:Nat->Nat->Int
 refs:Nat->Nat
def Da (k:Bk)(p:P)(f:Nat):Bk:=⟨p,fun g j=>if g=f then 0 else k.cX g j,fun g=>if g=f then 1 else k.refs g⟩
def sy (k:Bk)(e:Int)(f:Nat)(k':Bk):Prop:= ∃p',Bd.oE k.cq 0 e f p'/\k'=if e=0 then Da k p' f else{k with cq:=p'}
def je (k:Bk)(f:Nat):Bk:={k with refs:=fun g=>if g=f then k.refs f-1 else k.refs g,cq:=if k.refs f=1 then Bd.jN k.cq f else k.cq}
end Mv
open Mv (Bk)
section
variable {w w' : bD} {r q : Nat} {k k' : Bk}
def Lv (g:Nat->Int):Array Value:=#[.int .u8 (g 0), .int .u8 (g 1), .int .u8 (g 2), .int .u8 (g 3), .int .u8 (g 4), .int .u8 (g 5), .int .u8 (g 6), .int .u8 (g 7)]
theorem nF (g:Nat->Int)(j:Nat)(hj:j<8):(Lv g)[j]? =some (.int .u8 (g j)):=by
 match j,hj with
 |0,_=>rfl
 |1,_=>rfl
 |2,_=>rfl
 |3,_=>rfl
 |4,_=>rfl
 |5,_=>rfl
 |6,_=>rfl
 |7,_=>rfl
end
theorem xk {p p':P}{e:Int}{f:Nat}(h:Bd.oE p 0 e f p'):f<64:=by
 rcases h with⟨_,_,rfl,_⟩|⟨_,_,_,rfl,_⟩|⟨_,h,_,_⟩
 ·decide
 ·decide
 ·exact h.lt
def Mv.Ab:Bk:=⟨Bd.b0,fun _ _=>0,fun _=>0⟩
open Mv (Me Bk)
namespace Mv
def yX (k:Bk)(f g:Nat):Bk:={k with cX:=fun a i=>if a=g then k.cX f i else k.cX a i}
def nP (m:Me)(k:Bk)(z:Int)(wr:Bool)(E:Int)(g:Nat)(m':Me)(k':Bk):Prop:=
 (jA m z wr=false/\E=10/\g=0/\m'=m/\k'=k)\/
 (jA m z wr=true/\m.fr (z.toNat/8)≠0/\(wr=false\/k.refs (m.fr (z.toNat/8)-1)=1)/\E=0/\g=m.fr (z.toNat/8)-1/\m'=m/\k'=k)\/
 (jA m z wr=true/\ ¬(m.fr (z.toNat/8)≠0/\(wr=false\/k.refs (m.fr (z.toNat/8)-1)=1))/\ ∃k1,sy k E g k1/\
  ((E≠0/\m'=m/\k'=k1)\/(E=0/\m'={m with fr:=iX m.fr (z.toNat/8) (g+1)}/\k'=if m.fr (z.toNat/8)=0 then k1 else je (yX k1 (m.fr (z.toNat/8)-1) g) (m.fr (z.toNat/8)-1))))
end Mv
structure eU (b r q:Nat)(w w':bD):Prop where
 os:w'.os=w.os
 tape:w'.tape=w.tape
 output:w'.output=w.output
 size:w.heap.size<=w'.heap.size
 block: ∀k,k<w.heap.size->k≠b->k≠r->k≠q->w'.heap[k]? =w.heap[k]?
section
variable {b r q : Nat} {u v w : bD}
theorem eU.refl (b r q:Nat)(w:bD):eU b r q w w:=⟨rfl,rfl,rfl,aL _,fun _ _ _ _ _=>rfl⟩
theorem eU.trans (h:eU b r q u v)(k:eU b r q v w):eU b r q u w:=⟨k.os.trans h.os,k.tape.trans h.tape,k.output.trans h.output,aH h.size k.size,fun j hj h1 h2 h3=>(k.block j (aD hj h.size) h1 h2 h3).trans (h.block j hj h1 h2 h3)⟩
theorem eU.mem (h:af b u v):eU b r q u v:=⟨h.os,h.tape,h.output,h.size,fun k hk h1 _ _=>h.block k hk h1⟩
theorem eU.AP (h:gZ r q u v):eU b r q u v:=⟨h.os,h.tape,h.output,h.size,fun k hk _ h1 h2=>h.block k hk h1 h2⟩
end
section
attribute [local go_sem] Ac
end
section
attribute [local go_sem] Ac
theorem GZ {m:Me}{z:Int}{wr:Bool}(h:Mv.jA m z wr=true): ∃x:Nat,z=x/\x<128:=by
 have hz: ¬(z<0\/127<z):=fun c=>by unfold Mv.jA at h;rw[aJ c]at h;cases h
 exact⟨z.toNat,by omega,by omega⟩
end
def Mv.FN (k:Bk)(g j:Nat)(v:Int):Bk:={k with cX:=fun a i=>if a=g/\i=j then v else k.cX a i}
theorem OL (x:Nat):((x:Int)%8).toNat=x%8:=by omega
section
attribute [local go_sem] OL
end
namespace Mv
def dH (fr:Nat->Nat)(f:Nat):Nat->Nat
 |0=>0
 |i+1=>dH fr f i+if fr i=f+1 then 1 else 0
theorem nZ {fr fs:Nat->Nat}{f n:Nat}(h: ∀i,i<n->fs i=fr i):dH fs f n=dH fr f n:=by
 induction n with
 |zero=>rfl
 |succ n ih=>show dH fs f n+_=dH fr f n+_;rw[ih (fun i hi=>h i (by omega)),h n (by omega)]
theorem JN {fr fs:Nat->Nat}{f n i:Nat}(hi:i<n)(e:fr i=f+1)(h0:fs i=0)(h: ∀j,j≠i->fs j=fr j):dH fs f n+1=dH fr f n:=by
 induction n with
 |zero=>omega
 |succ n ih=>
  show dH fs f n+(if fs n=f+1 then 1 else 0)+1=dH fr f n+if fr n=f+1 then 1 else 0;by_cases c:i=n
  ·subst c;rw[nZ (fun j hj=>h j (by omega)),h0,e,aI (by omega),aJ rfl]
  ·rw[h n (fun d=>c d.symm)];have:=ih (by omega);omega
theorem DQ {fr fs:Nat->Nat}{f n i:Nat}(e:fr i≠f+1)(h0:fs i=0)(h: ∀j,j≠i->fs j=fr j):dH fs f n=dH fr f n:=by
 induction n with
 |zero=>rfl
 |succ n ih=>
  show dH fs f n+_=dH fr f n+_;rw[ih];by_cases c:i=n
  ·subst c;rw[h0,aI (by omega),aI e]
  ·rw[h n (fun d=>c d.symm)]
theorem Ak {fr:Nat->Nat}{f n i:Nat}(hi:i<n)(e:fr i=f+1):1<=dH fr f n:=by
 induction n with
 |zero=>omega
 |succ n ih=>
  show 1<=dH fr f n+if fr n=f+1 then 1 else 0;by_cases c:i=n
  ·subst c;rw[aJ e];omega
  ·have:=ih (by omega);omega
structure xp (m:Me)(k:Bk):Prop where
 inv:Bd.Inv k.cq
 nb:Bd.NB k.cq 64
 le: ∀i,i<16->m.fr i<=64
 bG: ∀f,f<64->dH m.fr f 16<=k.refs f/\k.refs f<2^59
def iE (m:Me)(a i:Nat):Me:=⟨fun x=>if a<=x/\x<i then 0 else m.is x,fun x=>if a<=x/\x<i then 0 else m.fr x⟩
def gL (m:Me)(k:Bk)(a:Nat):Nat->Bk
 |0=>k
 |j+1=>if m.fr (a+j)=0 then gL m k a j else je (gL m k a j) (m.fr (a+j)-1)
def qA (m:Me)(a:Nat):Nat->Nat
 |0=>0
 |j+1=>qA m a j+if m.fr (a+j)=0 then 0 else 1
theorem OM (m:Me)(a j:Nat):qA m a j<=j:=by
 induction j with
 |zero=>exact aL 0
 |succ j ih=>show qA m a j+_<=j+1;split<;>omega
theorem Fp (a j:Nat){α}(x y:α):(if a<=a+j/\a+j<a+(j+1)then x else y)=x:=aJ (by omega)
theorem xR {a j x:Nat}(h:x≠a+j){α}(u v:α):(if a<=x/\x<a+(j+1)then u else v)=if a<=x/\x<a+j then u else v:=by
 by_cases c:a<=x/\x<a+j
 ·rw[aJ c,aJ (by omega)]
 ·rw[aI c,aI (by omega)]
theorem xp.step {m:Me}{k:Bk}{a j:Nat}(h:xp (iE m a (a+j)) (gL m k a j))(hj:a+j<16):xp (iE m a (a+(j+1))) (gL m k a (j+1)):=by
 have e0:(iE m a (a+j)).fr (a+j)=m.fr (a+j):=aI (by omega);have e1:(iE m a (a+(j+1))).fr (a+j)=0:=Fp a j _ _;have e2: ∀x,x≠a+j->(iE m a (a+(j+1))).fr x=(iE m a (a+j)).fr x:=fun x hx=>xR hx _ _;have le: ∀i,i<16->(iE m a (a+(j+1))).fr i<=64:=fun i hi=>by
  by_cases c:i=a+j
  ·subst c;rw[e1];omega
  ·rw[e2 i c];exact h.le i hi
 by_cases c:m.fr (a+j)=0
 ·have eK:gL m k a (j+1)=gL m k a j:=aJ c;rw[eK];refine⟨h.inv,h.nb,le,fun f hf=>?_⟩;rw[nZ (fr:=(iE m a (a+j)).fr) (fun x _=>by
   by_cases d:x=a+j
   ·subst d;rw[e1,e0,c]
   ·exact e2 x d)]
  exact h.bG f hf
 ·have eK:gL m k a (j+1)=je (gL m k a j) (m.fr (a+j)-1):=aI c;rw[eK];have l:=h.le (a+j) hj;rw[e0]at l;have ip:Bd.Inv (je (gL m k a j) (m.fr (a+j)-1)).cq/\Bd.NB (je (gL m k a j) (m.fr (a+j)-1)).cq 64:=by
   show Bd.Inv (if _ then _ else _)/\Bd.NB (if _ then _ else _) 64;split
   ·exact h.inv.NF h.nb _
   ·exact⟨h.inv,h.nb⟩
  refine⟨ip.1,ip.2,le,fun f hf=>?_⟩;have hc:=h.bG f hf;show _<=(if f=m.fr (a+j)-1 then(gL m k a j).refs (m.fr (a+j)-1)-1 else(gL m k a j).refs f)/\(if f=m.fr (a+j)-1 then(gL m k a j).refs (m.fr (a+j)-1)-1 else(gL m k a j).refs f)<2^59;by_cases d:f=m.fr (a+j)-1
  ·have:=JN (f:=f) hj (by rw[e0];omega) e1 e2;rw[aJ d,<-d];omega
  ·rw[aI d,DQ (fr:=(iE m a (a+j)).fr) (by rw[e0];omega) e1 e2];exact hc
end Mv
theorem Bo {m:Me}{a j x:Nat}(h:x≠a+j):(Mv.iE m a (a+(j+1))).is x=(Mv.iE m a (a+j)).is x/\(Mv.iE m a (a+(j+1))).fr x=(Mv.iE m a (a+j)).fr x:=⟨Mv.xR h _ _,Mv.xR h _ _⟩
theorem Hd (m:Me)(a j:Nat):(Mv.iE m a (a+(j+1))).is (a+j)=0/\(Mv.iE m a (a+(j+1))).fr (a+j)=0:=⟨Mv.Fp a j _ _,Mv.Fp a j _ _⟩
def Mv.pC (a n:Int):Int:=if jS a n=true then 1 else 0
def Mv.wJ (m:Me)(a n:Int):Nat:=if jS a n=true then 0 else qA m a.toNat n.toNat
def Mv.nA (m:Me)(a n:Int):Me:=if jS a n=true then m else iE m a.toNat (a.toNat+n.toNat)
def Mv.nG (m:Me)(k:Bk)(a n:Int):Bk:=if jS a n=true then k else gL m k a.toNat n.toNat
def lX (q:Nat)(k:Bk)(o:Nat):Value:=if o=0 then .pointer (some ⟨q,0,none⟩)else if(o-1)%9=0 then .int .i64 (k.refs ((o-1)/9):Int)else .int .u8 (k.cX ((o-1)/9) ((o-1)%9-1))
structure cT (w:bD)(r q:Nat)(k:Bk):Prop where
 cv: ∃C,w.heap[r]? =some (.cells C 219 (0,0))/\C.size=577
 cell: ∀o,o<577->w.cell? ⟨r,o,none⟩=some (lX q k o)
 cq:dn w q k.cq
 ne:q≠r
section
variable {w w' : bD} {r q : Nat} {k k' : Bk}
theorem cT.drew (h:cT w r q k):cT w.drew r q k:=⟨h.cv,h.cell,h.cq.drew,h.ne⟩
theorem cT.frozen (h:cT w r q k)(o:Nat):w.frozen? ⟨r,o,none⟩=false:=by obtain⟨C,h1,_⟩:=h.cv;exact bf h1 o
theorem cT.lt (h:cT w r q k):r<w.heap.size:=by obtain⟨C,h1,_⟩:=h.cv;exact(aX.1 h1).1
theorem cT.AO (h:cT w r q k):q<w.heap.size:=h.cq.lt
theorem cT.same (h:cT w r q k)(e:w'.heap[r]? =w.heap[r]?)(e2:w'.heap[q]? =w.heap[q]?):cT w' r q k:=⟨by rw[e];exact h.cv,fun o ho=>(aV e).trans (h.cell o ho),h.cq.same e2,h.ne⟩
theorem cT.below (h:cT w r q k)(b:Below w.heap.size w w'):cT w' r q k:=h.same (b.block r h.lt) (b.block q h.AO)
theorem cT.BH (h:cT w r q k){p:P}(f:af q w w')(kp:dn w' q p):cT w' r q {k with cq:=p}:=by
 have e:=f.block r h.lt (bQ h.ne);exact⟨by rw[e];exact h.cv,fun o ho=>(aV e).trans (h.cell o ho),kp,h.ne⟩
theorem cT.cP (h:cT w r q k):w.cell? ⟨r,0,none⟩=some (.pointer (some ⟨q,0,none⟩)):=h.cell 0 (by omega)
theorem cT.cB (h:cT w r q k)(f j:Nat)(hf:f<64)(hj:j<8):w.cell? ⟨r,1+f*9+1+j,none⟩=some (.int .u8 (k.cX f j)):=by
 rw[h.cell _ (by omega),lX,aI (by omega),aI (by omega),show(1+f*9+1+j-1)/9=f by omega,show(1+f*9+1+j-1)%9-1=j by omega]
theorem cT.vU (h:cT w r q k)(f:Nat)(hf:f<64):w.cell? ⟨r,1+f*9,none⟩=some (.int .i64 (k.refs f:Int)):=by
 rw[h.cell _ (by omega),lX,aI (by omega),aJ (by omega),show(1+f*9-1)/9=f by omega]
theorem dn.Dn {p:P}(h:dn w q p)(hne:q≠r)(o:Nat)(v:Value):dn (w.setCell ⟨r,o,none⟩ v) q p:=h.same (dD _ _ _ _ hne)
theorem cT.set (h:cT w r q k)(o:Nat)(ho:o<577)(v:Value)(hp:k'.cq=k.cq)(hv: ∀i,i<577->lX q k' i=if i=o then v else lX q k i):cT (w.setCell ⟨r,o,none⟩ v) r q k':=by
 obtain⟨C,h1,h2⟩:=h.cv;refine⟨⟨_,bC h1 _ v,by simpa using h2⟩,fun i hi=>?_,by rw[hp];exact h.cq.Dn h.ne o v,h.ne⟩;rw[hv i hi];by_cases e:i=o
 ·subst e;rw[cL h1 _ v (by omega),aJ rfl]
 ·rw[cC h1 _ _ v (bQ e),aI e];exact h.cell i hi
theorem cT.qb (h:cT w r q k)(f v:Nat)(hf:f<64):cT (w.setCell ⟨r,1+f*9,none⟩ (.int .i64 (v:Int))) r q {k with refs:=fun g=>if g=f then v else k.refs g}:=by
 refine h.set (1+f*9) (by omega) _ rfl (fun x hx=>?_);unfold lX;by_cases c0:x=0
 ·rw[aJ c0,aJ c0,aI (by omega)]
 ·rw[aI c0,aI c0];by_cases c:(x-1)%9=0
  ·rw[aJ c,aJ c];by_cases e:x=1+f*9
   ·rw[aJ e];simp[show(x-1)/9=f by omega]
   ·rw[aI e];simp[show(x-1)/9≠f by omega]
  ·rw[aI c,aI c,aI (by omega)]
theorem cT.QH (h:cT w r q k)(f j:Nat)(v:Int)(hf:f<64)(hj:j<8):cT (w.setCell ⟨r,1+f*9+1+j,none⟩ (.int .u8 v)) r q (Mv.FN k f j v):=by
 refine h.set (1+f*9+1+j) (by omega) _ rfl (fun x hx=>?_);unfold lX Mv.FN;by_cases c0:x=0
 ·rw[aJ c0,aJ c0,aI (by omega)]
 ·rw[aI c0,aI c0];by_cases c:(x-1)%9=0
  ·rw[aJ c,aJ c,aI (by omega)]
  ·rw[aI c,aI c];by_cases e:x=1+f*9+1+j
   ·rw[aJ e];simp[show(x-1)/9=f by omega,show(x-1)%9-1=j by omega]
   ·rw[aI e];simp[show¬((x-1)/9=f/\(x-1)%9-1=j)by omega]
def wF (n:Int)(g:Nat->Int):Array Value:=#[.int .i64 n, .int .u8 (g 0), .int .u8 (g 1), .int .u8 (g 2), .int .u8 (g 3), .int .u8 (g 4), .int .u8 (g 5), .int .u8 (g 6), .int .u8 (g 7)]
theorem kU (n:Int)(g:Nat->Int)(j:Nat)(hj:j<9):(wF n g)[j]? =some (if j=0 then .int .i64 n else .int .u8 (g (j-1))):=by
 match j,hj with
 |0,_=>rfl
 |1,_=>rfl
 |2,_=>rfl
 |3,_=>rfl
 |4,_=>rfl
 |5,_=>rfl
 |6,_=>rfl
 |7,_=>rfl
 |8,_=>rfl
def Mv.u6 (k:Bk)(f n:Nat)(g:Nat->Int):Bk:={k with cX:=fun a i=>if a=f then g i else k.cX a i,refs:=fun a=>if a=f then n else k.refs a}
theorem cT.I5 (h:cT w r q k)(f n:Nat)(hf:f<64)(g:Nat->Int):cT (w.setCells r (1+f*9) (wF (n:Int) g).toList) r q (Mv.u6 k f n g):=by
 obtain⟨C,h1,h2⟩:=h.cv;have ht: ∀j,j<9->(w.cell? ⟨r,1+f*9+j,none⟩).isSome=true:=fun j hj=>by rw[h.cell _ (by omega)];rfl
 have hs:(wF (n:Int) g).toList.length=9:=rfl;obtain⟨C',k1,k2⟩:=dR r (wF (n:Int) g).toList (1+f*9) w C h1;refine⟨⟨C',k1,by omega⟩,fun x hx=>?_,h.cq.same (lu r _ _ _ _ h.ne),h.ne⟩;by_cases c:1+f*9<=x/\x<1+f*9+9
 ·obtain⟨j,rfl,hj⟩: ∃j,x=1+f*9+j/\j<9:=⟨x-(1+f*9),by omega,by omega⟩;rw[aS r (wF (n:Int) g).toList (1+f*9) w (fun i hi=>ht i (by omega)) j (by omega),<-aW (by omega),aM,kU _ g j hj];unfold lX Mv.u6;rw[aI (show¬1+f*9+j=0 by omega),show(1+f*9+j-1)/9=f by omega,show(1+f*9+j-1)%9=j by omega];simp
 ·rw[aA r _ (1+f*9) w ⟨r,x,none⟩ (fun _ _=>by rw[hs];show x<_\/_<=x;omega),h.cell x hx];unfold lX Mv.u6;by_cases c0:x=0
  ·rw[aJ c0,aJ c0]
  ·rw[aI c0,aI c0];simp[show(x-1)/9≠f by omega]
end
def jK (r:Nat)(m:Me)(o:Nat):Value:=if o=0 then .pointer (some ⟨r,0,none⟩)else if(o-1)%2=0 then .int .i64 (m.is ((o-1)/2):Int)else .int .i64 ((m.fr ((o-1)/2):Int)-1)
structure cA (w:bD)(b r:Nat)(m:Me):Prop where
 cv: ∃C,w.heap[b]? =some (.cells C 186 (0,0))/\C.size=33
 cell: ∀o,o<33->w.cell? ⟨b,o,none⟩=some (jK r m o)
section
variable {w w' : bD} {b r : Nat} {m m' : Me}
theorem cA.drew (h:cA w b r m):cA w.drew b r m:=⟨h.cv,h.cell⟩
theorem cA.frozen (h:cA w b r m)(o:Nat):w.frozen? ⟨b,o,none⟩=false:=by obtain⟨C,h1,_⟩:=h.cv;exact bf h1 o
theorem cA.lt (h:cA w b r m):b<w.heap.size:=by obtain⟨C,h1,_⟩:=h.cv;exact(aX.1 h1).1
theorem cA.same (h:cA w b r m)(e:w'.heap[b]? =w.heap[b]?):cA w' b r m:=⟨by rw[e];exact h.cv,fun o ho=>(aV e).trans (h.cell o ho)⟩
theorem cA.below (h:cA w b r m)(k:Below w.heap.size w w'):cA w' b r m:=h.same (k.block b h.lt)
theorem cA.congr (h:cA w b r m)(e: ∀n,n<16->m'.is n=m.is n/\m'.fr n=m.fr n):cA w b r m':=⟨h.cv,fun o ho=>by
 rw[h.cell o ho];unfold jK;by_cases c:o=0
 ·rw[aJ c,aJ c]
 ·rw[aI c,aI c,(e _ (by omega)).1,(e _ (by omega)).2]⟩
theorem cA.qZ (h:cA w b r m):w.cell? ⟨b,0,none⟩=some (.pointer (some ⟨r,0,none⟩)):=h.cell 0 (by omega)
theorem cA.Qd (h:cA w b r m)(i:Nat)(hi:i<16):w.cell? ⟨b,1+i*2,none⟩=some (.int .i64 (m.is i:Int)):=by
 rw[h.cell _ (by omega),jK,aI (by omega),aJ (by omega),show(1+i*2-1)/2=i by omega]
theorem cA.uB (h:cA w b r m)(i:Nat)(hi:i<16):w.cell? ⟨b,1+i*2+1,none⟩=some (.int .i64 ((m.fr i:Int)-1)):=by
 rw[h.cell _ (by omega),jK,aI (by omega),aI (by omega),show(1+i*2+1-1)/2=i by omega]
theorem cA.set (h:cA w b r m)(o:Nat)(ho:o<33)(v:Value)(hv: ∀i,i<33->jK r m' i=if i=o then v else jK r m i):cA (w.setCell ⟨b,o,none⟩ v) b r m':=by
 obtain⟨C,h1,h2⟩:=h.cv;refine⟨⟨_,bC h1 _ v,by simpa using h2⟩,fun i hi=>?_⟩;rw[hv i hi];by_cases e:i=o
 ·subst e;rw[cL h1 _ v (by omega),aJ rfl]
 ·rw[cC h1 _ _ v (bQ e),aI e];exact h.cell i hi
theorem cA.Lb (h:cA w b r m)(i v:Nat)(hi:i<16):cA (w.setCell ⟨b,1+i*2,none⟩ (.int .i64 (v:Int))) b r {m with is:=iX m.is i v}:=by
 refine h.set (1+i*2) (by omega) _ (fun x hx=>?_);unfold jK iX;by_cases c0:x=0
 ·rw[aJ c0,aJ c0,aI (by omega)]
 ·rw[aI c0,aI c0];by_cases c:(x-1)%2=0
  ·rw[aJ c,aJ c];by_cases e:x=1+i*2
   ·rw[aJ e];simp[show(x-1)/2=i by omega]
   ·rw[aI e];simp[show(x-1)/2≠i by omega]
  ·rw[aI c,aI c,aI (by omega)]
theorem cA.zu (h:cA w b r m)(i v:Nat)(hi:i<16)(u:Int)(hu:u=(v:Int)-1):cA (w.setCell ⟨b,1+i*2+1,none⟩ (.int .i64 u)) b r {m with fr:=iX m.fr i v}:=by
 subst hu;refine h.set (1+i*2+1) (by omega) _ (fun x hx=>?_);unfold jK iX;by_cases c0:x=0
 ·rw[aJ c0,aJ c0,aI (by omega)]
 ·rw[aI c0,aI c0];by_cases c:(x-1)%2=0
  ·rw[aJ c,aJ c,aI (by omega)]
  ·rw[aI c,aI c];by_cases e:x=1+i*2+1
   ·rw[aJ e];simp[show(x-1)/2=i by omega]
   ·rw[aI e];simp[show(x-1)/2≠i by omega]
end
structure UB (w:bD)(b r q:Nat)(m:Me)(k:Bk):Prop where
 me:cA w b r m
 bk:cT w r q k
 br:b≠r
 bq:b≠q
section
variable {b r q : Nat} {u v w : bD}
theorem cT.jW {k:Bk}(h:cT u r q k)(f:af b u v)(h1:b≠r)(h2:b≠q):cT v r q k:=h.same (f.block r h.lt (bQ h1)) (f.block q h.AO (bQ h2))
theorem cA.two {m:Me}(h:cA u b r m)(f:gZ r q u v)(h1:b≠r)(h2:b≠q):cA v b r m:=h.same (f.block b h.lt h1 h2)
theorem UB.below {m:Me}{k:Bk}(h:UB u b r q m k)(f:Below u.heap.size u v):UB v b r q m k:=⟨h.me.below f,h.bk.below f,h.br,h.bq⟩
theorem UB.drew {m:Me}{k:Bk}(h:UB u b r q m k):UB u.drew b r q m k:=⟨h.me.drew,h.bk.drew,h.br,h.bq⟩
theorem eU.drew (h:eU b r q u v):eU b r q u v.drew:=⟨h.os,h.tape,h.output,h.size,h.block⟩
theorem eU.below (h:Below u.heap.size u v):eU b r q u v:=⟨h.os,h.tape,h.output,h.size,fun k hk _ _ _=>h.block k hk⟩
end
def zG:Array Value:=((List.range 577).map fun i=>if i=0 then Value.pointer none else if(i-1)%9=0 then Value.int .i64 0 else .int .u8 0).toArray
theorem Pn:Tryz.zeroCells219=zG:=by kernel_rfl
theorem Py (i:Nat)(h:i<577):zG[i]? =some (if i=0 then Value.pointer none else if(i-1)%9=0 then Value.int .i64 0 else .int .u8 0):=by simp[zG,h]
theorem Px {w:bD}{r q:Nat}(h:w.heap[r]? =some (.cells (zG.setIfInBounds 0 (.pointer (some ⟨q,0,none⟩))) 219 (0,0)))(hp:dn w q Bd.b0)(hne:q≠r):cT w r q Mv.Ab:=by
 refine⟨⟨_,h,by simp[zG]⟩,fun o ho=>?_,hp,hne⟩;rw[au h];unfold lX;by_cases c:o=0
 ·subst c;rw[aE (by simp[zG]),aJ rfl]
 ·rw[aU (by omega),Py o ho,aI c,aI c];split<;>rfl
theorem Ba (w:bD):Calls Tryz.prog 86 #[] w fun e w'=> ∃r,e= .returned (.pointer (some ⟨r,0,none⟩))/\cT w' r w.heap.size Mv.Ab/\Below w.heap.size w w'/\w.heap.size<r:=by
 go_in
 go_wp2_with fail
 refine(Kz _).mono ?_;rintro e w1 ⟨rfl,hk,hb,hs⟩;have FIN:Hid (cT (w1.alloc (.cells (Tryz.zeroCells219.setIfInBounds 0 (.pointer (some ⟨w.heap.size,0,none⟩))) 219)) w1.heap.size w.heap.size Mv.Ab/\Below w.heap.size w (w1.alloc (.cells (Tryz.zeroCells219.setIfInBounds 0 (.pointer (some ⟨w.heap.size,0,none⟩))) 219))/\w.heap.size<w1.heap.size):=hZ (by
  rw[Pn];have bb:Below w1.heap.size w1 (w1.alloc (.cells (zG.setIfInBounds 0 (.pointer (some ⟨w.heap.size,0,none⟩))) 219)):=(aQ _ _).alloc (aL _) _;exact⟨Px (heap_alloc_new w1 _) (hk.same (bb.block _ hs)) (by omega),hb.alloc (by omega) _,hs⟩)
 clear hk hb hs;go_wp2
 go_ret
 exact⟨_,rfl,FIN.out⟩
theorem vW (r q f:Nat)(k:Bk)(w:bD)(h:cT w r q k)(hf:f<64)(hI:Bd.Inv k.cq)(h1:1<=k.refs f)(h2:k.refs f<2^60):
  Calls Tryz.prog 228 #[.pointer (some ⟨r,0,none⟩), .int .i64 f] w fun e w'=>e= .returned (.tuple #[])/\cT w' r q (Mv.je k f)/\gZ r q w w':=by
 have HI:=hZ hI;have c1:=h.vU f hf;have cf:=h.frozen;have fI:(f:Int)<64:=by omega
 obtain⟨n,hn⟩: ∃n,k.refs f=n+1:=⟨k.refs f-1,by omega⟩;have S1:Hid (cT ((w.setCell ⟨r,1+f*9,none⟩ (.int .i64 (n:Int))).drew) r q {k with refs:=fun g=>if g=f then n else k.refs g}/\gZ r q w ((w.setCell ⟨r,1+f*9,none⟩ (.int .i64 (n:Int))).drew)):=hZ ⟨(h.qb f n hf).drew,((gZ.refl r q w).left ((af.refl r w).setCell _ _)).drew⟩;have HD:Hid (Mv.je k f={k with refs:=fun g=>if g=f then n else k.refs g,cq:=if n=0 then Bd.jN k.cq f else k.cq}):=hZ (by
  unfold Mv.je;rw[hn,show n+1-1=n from rfl];cases n<;>rfl)
 rw[hn]at c1 h2;have hw:IntKind.i64.wrap (((n+1:Nat):Int)-1)=(n:Int):=by rw[aN _ ⟨by omega,by omega⟩];omega
 clear h hI h1 hn;go_in
 go_wp2_with fail
 go_region
 generalize hW1:World.drew _=W1;have S2:Hid (cT W1 r q {k with refs:=fun g=>if g=f then n else k.refs g}/\gZ r q w W1):=hZ (by rw[<-hW1];exact S1.out);have d1:W1.cell? ⟨r,1+f*9,none⟩=some (.int .i64 (n:Int)):=by
  have:=S2.out.1.vU f hf;rw[this];show some (Value.int .i64 (((if f=f then n else k.refs f):Nat):Int))=_;rw[aJ rfl]
 have d0:=S2.out.1.cP;clear hW1 c1 cf S1;by_cases e0:n=0
 ·subst e0;have d1':W1.cell? ⟨r,1+f*9,none⟩=some (.int .i64 0):=d1;clear d1;go_wp2_with fail
  refine(It q f k.cq _ S2.out.1.cq HI.out).mono ?_;rintro e w2 ⟨rfl,kp,F⟩;have S3:Hid (cT w2 r q (Mv.je k f)/\gZ r q w w2):=hZ ⟨by rw[HD.out];exact S2.out.1.BH F kp,S2.out.2.right F⟩;clear kp F;go_wp2_with fail
  go_end0
  exact⟨rfl,S3.out⟩
 ·have e0':((n:Int)==0)=false:=by simp;omega
  have S3:Hid (cT W1 r q (Mv.je k f)/\gZ r q w W1):=hZ ⟨by rw[HD.out,aI e0];exact S2.out.1,S2.out.2⟩;go_wp2_with fail
  go_end0
  exact⟨rfl,S3.out⟩
def Mv.Fa (k:Bk)(g:Nat->Int)(e:Int)(f:Nat)(k':Bk):Prop:= ∃p',Bd.oE k.cq 0 e f p'/\k'=if e=0 then Mv.u6 {k with cq:=p'} f 1 g else{k with cq:=p'}
theorem yC (r q:Nat)(g:Nat->Int)(k:Bk)(w:bD)(h:cT w r q k)(hI:Bd.Inv k.cq)(hN:Bd.NB k.cq 64):
  Calls Tryz.prog 273 #[.pointer (some ⟨r,0,none⟩), .agg (Lv g)] w fun e w'=> ∃(f:Nat) (E:Int) (k':Bk),e= .returned (.tuple #[.int .i64 f,aq E])/\Mv.Fa k g E f k'/\cT w' r q k'/\gZ r q w w':=by
 have HI:=hZ (aK hI hN);have HF:Hid (∀C,cT (w.alloc (.cells C 214)) r q k/\Below w.heap.size w (w.alloc (.cells C 214))):=hZ (fun C=>⟨h.below ((aQ _ _).alloc (aL _) _),(aQ _ _).alloc (aL _) _⟩);have HL:=hZ (aK h.lt h.AO);clear h hI hN;go_in
 go_upto_region 1 with fail
 refine bw (fun W=>cT W r q k/\Below w.heap.size w W/\W.heap[w.heap.size]? =some (.cells (Lv g) 214 (0,0))) ⟨(HF.out _).1,(HF.out _).2,heap_alloc_new w _⟩ ?_;rintro W1 ⟨h1,b1,x1⟩;have NE:Hid (w.heap.size≠r/\w.heap.size≠q):=hZ (by have:=HL.out;omega);have H1:=hZ (aK h1 (aK b1 x1));obtain⟨bx,hbx⟩:=nJ (w.heap.size);have HS:=hZ hbx;rw[hbx]at H1 NE;rw[hbx];clear hbx;have c0:=h1.cP;clear h1 b1 x1 HF;go_wp2_with fail
 refine(Gy q 0 k.cq _ H1.out.1.cq HI.out.1 HI.out.2).mono ?_;rintro e w1 ⟨f,E,p',rfl,ht,kp,F⟩;have hf:=xk ht;have h1:Hid (cT w1 r q {k with cq:=p'}):=hZ (H1.out.1.BH F kp);have HB:Hid (gZ r q w w1):=hZ ⟨F.os.trans H1.out.2.1.os,F.tape.trans H1.out.2.1.tape,F.output.trans H1.out.2.1.output,aH H1.out.2.1.size F.size,fun j hj _ h3=>(F.block j (aD hj H1.out.2.1.size) h3).trans (H1.out.2.1.block j (by have:=HS.out;omega))⟩;have HT:=hZ ht;have x2:w1.heap[bx]? =some (.cells (Lv g) 214 (0,0)):=(F.block bx (aX.1 H1.out.2.2).1 NE.out.2).trans H1.out.2.2;by_cases e0:E=0
 ·subst e0;have fI:(f:Int)<64:=by omega
  have l0:w1.cell? ⟨bx,0,none⟩=some (.int .u8 (g 0)):=bA x2 0 _ (nF g 0 (by omega));have l1:=bA x2 1 _ (nF g 1 (by omega));have l2:=bA x2 2 _ (nF g 2 (by omega));have l3:=bA x2 3 _ (nF g 3 (by omega));have l4:=bA x2 4 _ (nF g 4 (by omega));have l5:=bA x2 5 _ (nF g 5 (by omega));have l6:=bA x2 6 _ (nF g 6 (by omega));have l7:=bA x2 7 _ (nF g 7 (by omega));have s0:=h1.out.vU f hf;have s1:w1.cell? ⟨r,1+f*9+1,none⟩=some (.int .u8 (k.cX f 0)):=h1.out.cB f 0 hf (by omega);have s2:w1.cell? ⟨r,1+f*9+2,none⟩=some (.int .u8 (k.cX f 1)):=h1.out.cB f 1 hf (by omega);have s3:w1.cell? ⟨r,1+f*9+3,none⟩=some (.int .u8 (k.cX f 2)):=h1.out.cB f 2 hf (by omega);have s4:w1.cell? ⟨r,1+f*9+4,none⟩=some (.int .u8 (k.cX f 3)):=h1.out.cB f 3 hf (by omega);have s5:w1.cell? ⟨r,1+f*9+5,none⟩=some (.int .u8 (k.cX f 4)):=h1.out.cB f 4 hf (by omega);have s6:w1.cell? ⟨r,1+f*9+6,none⟩=some (.int .u8 (k.cX f 5)):=h1.out.cB f 5 hf (by omega);have s7:w1.cell? ⟨r,1+f*9+7,none⟩=some (.int .u8 (k.cX f 6)):=h1.out.cB f 6 hf (by omega);have s8:w1.cell? ⟨r,1+f*9+8,none⟩=some (.int .u8 (k.cX f 7)):=h1.out.cB f 7 hf (by omega);have fz:=h1.out.frozen;rw[aa];clear ht kp F x2 c0;go_wp2_with fail
  go_region
  generalize hW:World.drew _=W2;have S2:Hid (cT W2 r q (Mv.u6 {k with cq:=p'} f 1 g)/\af r w1 W2):=hZ (by
   rw[<-hW];have a:cT (w1.setCells r (1+f*9) (wF ((1:Nat):Int) g).toList).drew r q (Mv.u6 {k with cq:=p'} f 1 g):=(h1.out.I5 f 1 hf g).drew;have b:af r w1 (w1.setCells r (1+f*9) (wF ((1:Nat):Int) g).toList).drew:=(af.setCells _ _ (af.refl r w1)).drew;exact⟨a,b⟩)
  clear l0 s0 l1 s1 l2 s2 l3 s3 l4 s4 l5 s5 l6 s6 l7 s7 s8 fz hW;go_wp2
  go_ret2
  exact⟨f,0,_,rfl,⟨p',HT.out,by rw[aJ rfl]⟩,S2.out.1,HB.out.left S2.out.2⟩
 ·rw[aj e0];have r0:f=0:=by
   rcases ht with⟨_,_,c,_⟩|⟨_,_,_,c,_⟩|⟨_,_,c,_⟩
   ·exact c
   ·exact c
   ·exact aZ c e0
  have HE:=hZ e0;subst r0;clear ht kp F x2 c0 e0;go_wp2
  go_ret2
  exact⟨0,E,_,by rw[aj HE.out];rfl,⟨p',HT.out,by rw[aI HE.out]⟩,h1.out,HB.out⟩
section
attribute [local go_sem] Ac
theorem mJ (b r:Nat)(z:Int)(wr:Bool)(m:Me)(w:bD)(h:cA w b r m):
  Calls Tryz.prog 182 #[.pointer (some ⟨b,0,none⟩), .int .i64 z, .bool wr] w fun e w'=>e= .returned (.bool (Mv.jA m z wr))/\Below w.heap.size w w':=by
 have BL:Hid (∀o,Below w.heap.size w (w.alloc o)):=hZ (fun o=>(aQ _ _).alloc (aL _) o);by_cases k:z<0\/127<z
 ·have HE:Hid (Mv.jA m z wr=false):=hZ (aJ k);by_cases h0:z<0
  ·clear k h;go_in
   go_wp2
   go_ret
   exact⟨bN HE.out.symm,aQ _ _⟩
  ·have h1:decide (z<0)=false:=aT h0;have h2:128<=z:=by omega
   clear k h0 h;go_in
   go_wp2
   go_ret
   exact⟨bN HE.out.symm,aQ _ _⟩
 ·obtain⟨x,rfl⟩:=aG (show 0<=z by omega);have h2:decide (128<=(x:Int))=false:=by simp;omega
  have c1:=h.Qd (x/8) (by omega);have c2:=h.uB (x/8) (by omega);have h8:(x:Int)/8<16:=by omega
  have h80:(0:Int)<=(x:Int)/8:=by omega
  have HE:Hid (Mv.jA m x wr=(decide (m.is (x/8)=2)||(decide (m.is (x/8)=1)&& !wr))):=hZ (by unfold Mv.jA;rw[aI k,hU]);obtain⟨u,hu⟩:=nJ (m.is (x/8));rw[hu]at c1 HE;clear k h hu;by_cases e2:u=2
  ·subst e2;go_in
   go_wp2
   go_ret
   exact⟨bN (by rw[HE.out];rfl),BL.out _⟩
  ·have e2':((u:Int)==2)=false:=by simp;omega
   by_cases e1:u=1
   ·subst e1;cases wr
    ·go_in
     go_wp2
     go_ret
     exact⟨bN (by rw[HE.out];rfl),BL.out _⟩
    ·go_in
     go_wp2
     go_ret
     exact⟨bN (by rw[HE.out];rfl),BL.out _⟩
   ·have e1':((u:Int)==1)=false:=by simp;omega
    go_in
    go_wp2
    go_ret
    exact⟨bN (by rw[HE.out,aT e2,aT e1];rfl),BL.out _⟩
theorem wo (b r:Nat)(z:Int)(m:Me)(w:bD)(h:cA w b r m):
  Calls Tryz.prog 183 #[.pointer (some ⟨b,0,none⟩), .int .i64 z] w fun e w'=>e= .returned (.bool (Mv.mh m z))/\Below w.heap.size w w':=by
 have HF:=hZ h;cases hm:Mv.jA m z false
 ·have HE:Hid (Mv.mh m z=false/\Mv.jA m z false=false):=hZ ⟨by unfold Mv.mh;rw[hm];rfl,hm⟩;clear h hm;go_in
  go_wp2_with fail
  refine(mJ b r z false m _ HF.out).mono ?_;rintro e w1 ⟨rfl,hb⟩;have HB:=hZ hb;clear hb;rw[HE.out.2];go_wp2
  go_ret
  exact⟨bN HE.out.1.symm,HB.out⟩
 ·have hz: ¬(z<0\/127<z):=fun c=>by unfold Mv.jA at hm;rw[aJ c]at hm;cases hm
  obtain⟨x,rfl⟩:=aG (show 0<=z by omega);have h8:(x:Int)/8<16:=by omega
  have h80:(0:Int)<=(x:Int)/8:=by omega
  have HX:Hid (x/8<16):=hZ (by omega);have HE:Hid (Mv.mh m x=decide (m.fr (x/8)=0)/\Mv.jA m x false=true):=hZ ⟨by unfold Mv.mh;rw[hm,hU];rfl,hm⟩;clear h hm hz;go_in
  go_wp2_with fail
  refine(mJ b r x false m _ HF.out).mono ?_;rintro e w1 ⟨rfl,hb⟩;have c1:=(HF.out.below hb).uB (x/8) HX.out;have HB:=hZ hb;clear hb;rw[HE.out.2];obtain⟨u,hu⟩:=nJ (m.fr (x/8));rw[hu]at c1 HE;clear hu;by_cases e0:u=0
  ·subst e0;have c1':w1.cell? ⟨b,1+x/8*2+1,none⟩=some (.int .i64 (-1)):=c1;clear c1;go_wp2
   go_ret
   exact⟨bN (by rw[HE.out.1];rfl),HB.out⟩
  ·have e0':((u:Int)-1== -1)=false:=by simp;omega
   go_wp2
   go_ret
   exact⟨bN (by rw[HE.out.1,aT e0]),HB.out⟩
end
def rowP (m:Me):List Value:=(List.range 32).map fun o=>if o%2=0 then Value.int .i64 (m.is (o/2):Int)else .int .i64 ((m.fr (o/2):Int)-1)
theorem Bl (m:Me):(rowP m).length=32:=by simp[rowP]
theorem cA.range {w:bD}{b r:Nat}{m:Me}(h:cA w b r m):w.rangeAt b 1 (rowP m):=fun j v hv=>by
 have hj:j<32:=by have:=(aY.1 hv).1;rwa [Bl]at this
 simp[rowP,hj]at hv;rw[h.cell _ (by omega),<-hv];unfold jK;rw[aI (by omega),show 1+j-1=j by omega]
theorem Nv (m:Me)(x:Nat)(h:x<16):(rowP m).toArray.extract (x*2) (x*2+2)=#[.int .i64 (m.is x:Int), .int .i64 ((m.fr x:Int)-1)]:=by
 have hs:(rowP m).toArray.size=32:=by simp[rowP]
 apply bL;intro i;rw[Array.getElem?_extract];by_cases hi:i<2
 ·rw[aJ (by rw[hs];omega)];have e:(rowP m).toArray[x*2+i]? =some (if(x*2+i)%2=0 then Value.int .i64 (m.is ((x*2+i)/2):Int)else .int .i64 ((m.fr ((x*2+i)/2):Int)-1)):=by
   simp[rowP,show x*2+i<32 by omega]
  rw[e,show(x*2+i)/2=x by omega]
  match i,hi with
  |0,_=>rw[aJ (by omega)];rfl
  |1,_=>rw[aI (by omega)];rfl
 ·rw[aI (by rw[hs];omega),aR (by simp;omega)]
theorem wv (m:Me)(x:Nat)(h:x<16)(w:bD):Sem.run Tryz.prog (Instr.index 184 (Value.agg (rowP m).toArray) (Value.int IntKind.i64 x)) w= .ok (.agg #[.int .i64 (m.is x:Int), .int .i64 ((m.fr x:Int)-1)]) w:=by
 have hu:Tryz.prog.underlying 184=some (.array 16 183):=by kernel_rfl
 have hx:=Nv m x h;have h1:(x:Int)<16:=by omega
 obtain⟨A,hA⟩:=nJ ((rowP m).toArray);rw[hA]at hx|-;simp[Instr.index,Sem.run_bind,run_underlying hu,go_sem,hx];intro c;omega
theorem yU (m:Me):(Tryz.prog.info? 184).map (·.size)=some (rowP m).length:=by rw[Bl];kernel_rfl
theorem zm (b r:Nat)(m:Me)(w:bD)(h:cA w b r m):
  Calls Tryz.prog 64 #[.pointer (some ⟨b,0,none⟩)] w fun e w'=>e= .returned (.int .i64 (Mv.gB m 16:Int))/\Below w.heap.size w w':=by
 have hsz:=hZ (yU m);have HR:=hZ h.range;clear h;go_in
 go_wp2_with (refine wpList_load_mid rfl 184 _ rfl b 1 rfl (rowP m) (.array 16 183) HR.out (by kernel_rfl) rfl hsz.out ?_)
 go_loopw [3,10] (fun s i wr=> ∃(k:Nat),i= .int .i64 k/\s= .int .i64 (Mv.gB m k:Int)/\k<=16/\Hid (Below w.heap.size w wr)) (fun _ i _=>16-(intOf i).toNat)
 case atStart=>exact⟨0,rfl,rfl,by omega,aQ _ _⟩
 case round=>
  obtain⟨k,rfl,rfl,hk,T⟩:=hrel;by_cases hlt:k<16
  ·have hltI:(k:Int)<16:=by omega
   have hix:=wv m k hlt;have LS:Hid (Mv.gB m (k+1)=Mv.gB m k+if m.fr k=0 then 0 else 1):=hZ rfl;have BL:Hid (∀o,Below w.heap.size w (wr.alloc o)):=hZ (fun o=>T.out.alloc T.out.size o);have lb:=qp m k;generalize m.is k=u0 at*;generalize m.fr k=u at*;by_cases e1:u=0
   ·have LE:Hid (Mv.gB m (k+1)=Mv.gB m k):=hZ (by rw[LS.out,aJ e1];rfl);subst e1;clear LS;go_wp2
    go_roundw
    case rel=>exact⟨k+1,by go_num,by rw[LE.out],by omega,BL.out _⟩
    case measure=>simp[intOf];omega
   ·have LE:Hid (Mv.gB m (k+1)=Mv.gB m k+1):=hZ (by rw[LS.out,aI e1]);have e1':((u:Int)-1== -1)=false:=by simp;omega
    generalize Mv.gB m k=lk at*;clear LS e1;go_wp2
    go_roundw
    case rel=>exact⟨k+1,by go_num,by rw[LE.out];go_num,by omega,BL.out _⟩
    case measure=>simp[intOf];omega
  ·have hk64:k=16:=by omega
   subst hk64;go_wp2
   go_ret
   exact⟨rfl,T.out⟩
structure pA (m:Me)(k:Bk):Prop where
 inv:Bd.Inv k.cq
 nb:Bd.NB k.cq 64
 le: ∀i,i<16->m.fr i<=64
 held: ∀i,i<16->m.fr i≠0->1<=k.refs (m.fr i-1)/\k.refs (m.fr i-1)<2^59
 hold: ∀f,f<64->1<=k.refs f->k.cq.tk f=true
def Mv.I3 (m:Me)(k:Bk)(n:Nat)(wr:Bool)(E:Int)(g:Nat)(m':Me)(k':Bk):Prop:=
 (m.fr n≠0/\(wr=false\/k.refs (m.fr n-1)=1)/\E=0/\g=m.fr n-1/\m'=m/\k'=k)\/
 (¬(m.fr n≠0/\(wr=false\/k.refs (m.fr n-1)=1))/\ ∃k1,Mv.sy k E g k1/\
  ((E≠0/\m'=m/\k'=k1)\/(E=0/\m'={m with fr:=iX m.fr n (g+1)}/\k'=if m.fr n=0 then k1 else Mv.je (Mv.yX k1 (m.fr n-1) g) (m.fr n-1))))
theorem Ib {k k':Bk}{e:Int}{f:Nat}(h:Mv.Fa k (fun _=>0) e f k'):Mv.sy k e f k':=by
 obtain⟨p',h1,h2⟩:=h;refine⟨p',h1,?_⟩;rw[h2];rfl
theorem Kt {k k':Bk}{e:Int}{f v:Nat}(h:Mv.Fa k (k.cX v) e f k')(hv:k.cq.tk v=true): ∃k1,Mv.sy k e f k1/\((e≠0/\k'=k1)\/(e=0/\k'=Mv.yX k1 v f/\v≠f)):=by
 obtain⟨p',h1,h2⟩:=h;by_cases e0:e=0
 ·rw[aJ e0]at h2;have ne:v≠f:=fun c=>by
   rcases h1 with⟨_,c1,_⟩|⟨_,_,c1,_⟩|⟨_,hB,_,_⟩
   ·omega
   ·omega
   ·rw[c,hB.tk]at hv;cases hv
  refine⟨Mv.Da k p' f,⟨p',h1,by rw[aJ e0]⟩, .inr ⟨e0,?_,ne⟩⟩;rw[h2];unfold Mv.yX Mv.Da Mv.u6;congr 1;funext a i;by_cases c:a=f
  ·simp[c,ne]
  ·simp[c]
 ·rw[aI e0]at h2;exact⟨k',⟨p',h1,by rw[aI e0];exact h2⟩, .inl ⟨e0,rfl⟩⟩
def Fj (b r q n:Nat)(wr:Bool)(m:Me)(k:Bk)(w:bD)(e:Ending)(w':bD):Prop:=
 ∃(E:Int) (g:Nat) (m':Me) (k':Bk),e= .returned (aq E)/\Mv.I3 m k n wr E g m' k'/\UB w' b r q m' k'/\eU b r q w w'
theorem Et (b r q n:Nat)(wr:Bool)(m:Me)(k:Bk)(w:bD)(h:UB w b r q m k)(G:pA m k)(hn:n<16)(hv:m.fr n=0):
  Calls Tryz.prog 240 #[.pointer (some ⟨b,0,none⟩), .pointer (some ⟨b,1+n*2,none⟩), .bool wr] w (Fj b r q n wr m k w):=by
 have HF:=hZ (aK h (aK G hv));have c0:=h.me.qZ;have c1:=h.me.uB n hn;rw[hv]at c1;have c1':w.cell? ⟨b,1+n*2+1,none⟩=some (.int .i64 (-1)):=c1;have HN:Hid (¬(m.fr n≠0/\(wr=false\/k.refs (m.fr n-1)=1))):=hZ (fun c=>c.1 hv);clear h G hv c1;go_in
 go_wp2_with fail
 refine(yC r q (fun _=>0) k _ HF.out.1.bk HF.out.2.1.inv HF.out.2.1.nb).mono ?_;rintro e w1 ⟨g,E,k1,rfl,ht,hk,F⟩;have HM:Hid (UB w1 b r q m k1/\eU b r q w w1):=hZ ⟨⟨HF.out.1.me.two F HF.out.1.br HF.out.1.bq,hk,HF.out.1.br,HF.out.1.bq⟩,eU.AP F⟩;have HT:=hZ (Ib ht);clear ht hk F c0 c1';by_cases e0:E=0
 ·subst e0;rw[aa];have d1:=HM.out.1.me.uB n hn;have df:=HM.out.1.me.frozen;have S2:Hid (UB (w1.setCell ⟨b,1+n*2+1,none⟩ (.int .i64 (g:Int))) b r q {m with fr:=iX m.fr n (g+1)} k1/\eU b r q w (w1.setCell ⟨b,1+n*2+1,none⟩ (.int .i64 (g:Int)))):=hZ (by
   have f:af b w1 (w1.setCell ⟨b,1+n*2+1,none⟩ (.int .i64 (g:Int))):=(af.refl b w1).setCell _ _;exact⟨⟨HM.out.1.me.zu n (g+1) hn _ (by omega),HM.out.1.bk.jW f HM.out.1.br HM.out.1.bq,HM.out.1.br,HM.out.1.bq⟩,HM.out.2.trans (eU.mem f)⟩)
  go_wp2
  go_ret
  exact⟨0,g,_,_,rfl, .inr ⟨HN.out,k1,HT.out, .inr ⟨rfl,rfl,by rw[aJ HF.out.2.2]⟩⟩,S2.out.1,S2.out.2⟩
 ·rw[aj e0];have HE:=hZ e0;clear e0;go_wp2
  go_ret
  exact⟨E,g,_,_,by rw[aj HE.out];rfl, .inr ⟨HN.out,k1,HT.out, .inl ⟨HE.out,rfl,rfl⟩⟩,HM.out.1,HM.out.2⟩
theorem Ej (b r q n v:Nat)(wr:Bool)(m:Me)(k:Bk)(w:bD)(h:UB w b r q m k)(G:pA m k)(hn:n<16)(hv:m.fr n=v+1):
  Calls Tryz.prog 240 #[.pointer (some ⟨b,0,none⟩), .pointer (some ⟨b,1+n*2,none⟩), .bool wr] w (Fj b r q n wr m k w):=by
 have HF:=hZ (aK h (aK G hv));have c0:=h.me.qZ;have c1:=h.me.uB n hn;rw[hv,show((v+1:Nat):Int)-1=(v:Int)by omega]at c1;have v64:v<64:=by have:=G.le n hn;omega
 have vI:(v:Int)<64:=by omega
 have v1:((v:Int)== -1)=false:=by simp
 have l0:=h.bk.vU v v64;have l1:w.cell? ⟨r,1+v*9+1,none⟩=some (.int .u8 (k.cX v 0)):=h.bk.cB v 0 v64 (by omega);have l2:w.cell? ⟨r,1+v*9+2,none⟩=some (.int .u8 (k.cX v 1)):=h.bk.cB v 1 v64 (by omega);have l3:w.cell? ⟨r,1+v*9+3,none⟩=some (.int .u8 (k.cX v 2)):=h.bk.cB v 2 v64 (by omega);have l4:w.cell? ⟨r,1+v*9+4,none⟩=some (.int .u8 (k.cX v 3)):=h.bk.cB v 3 v64 (by omega);have l5:w.cell? ⟨r,1+v*9+5,none⟩=some (.int .u8 (k.cX v 4)):=h.bk.cB v 4 v64 (by omega);have l6:w.cell? ⟨r,1+v*9+6,none⟩=some (.int .u8 (k.cX v 5)):=h.bk.cB v 5 v64 (by omega);have l7:w.cell? ⟨r,1+v*9+7,none⟩=some (.int .u8 (k.cX v 6)):=h.bk.cB v 6 v64 (by omega);have l8:w.cell? ⟨r,1+v*9+8,none⟩=some (.int .u8 (k.cX v 7)):=h.bk.cB v 7 v64 (by omega);have hbs:b<w.heap.size:=h.me.lt;have hrs:r<w.heap.size:=h.bk.lt;have hbn:b≠w.heap.size:=by omega
 have hrn:r≠w.heap.size:=by omega
 clear h G hv;go_in
 go_wp2_with fail
 go_region
 generalize hW:World.drew _=W2;have S2:Hid (UB W2 b r q m k/\eU b r q w W2/\W2.heap[w.heap.size]? =some (.cells (wF (k.refs v:Int) (k.cX v)) 216 (0,0))/\w.heap.size≠q):=hZ (by
  rw[<-hW];have bb:Below w.heap.size w (w.alloc (.cells (wF (k.refs v:Int) (k.cX v)) 216)):=(aQ _ _).alloc (aL _) _;exact⟨(HF.out.1.below bb).drew,(eU.below bb).drew,heap_alloc_new w _,by have:=HF.out.1.bk.AO;omega⟩)
 clear hW c0 c1 l0 l1 l2 l3 l4 l5 l6 l7 l8 hbs hrs;obtain⟨bo,hbo⟩:=nJ (w.heap.size);rw[hbo]at S2 hbn hrn|-;have HBO:=hZ (aK hbo (aK hbn hrn));clear hbo hbn hrn;have o0:W2.cell? ⟨bo,0,none⟩=some (.int .i64 (k.refs v:Int)):=bA S2.out.2.2.1 0 _ (kU _ _ 0 (by omega));have KEEP:Hid ((wr=false\/k.refs v=1)->Fj b r q n wr m k w (.returned (aq 0)) W2):=hZ (fun c=>⟨0,v,m,k,rfl, .inl ⟨by rw[HF.out.2.2];omega,by rw[HF.out.2.2,aP];exact c,rfl,by rw[HF.out.2.2,aP],rfl,rfl⟩,S2.out.1,S2.out.2.1⟩);cases wr
 ·have KP:=hZ (KEEP.out (.inl rfl));clear KEEP;go_wp2
  go_ret
  exact KP.out
 ·by_cases r1:k.refs v=1
  ·rw[r1]at o0;have o0':W2.cell? ⟨bo,0,none⟩=some (.int .i64 1):=o0;have KP:=hZ (KEEP.out (.inr r1));clear o0 r1 KEEP;go_wp2
   go_ret
   exact KP.out
  ·have r1':((k.refs v:Int)==1)=false:=by simp;omega
   have HN:Hid (¬(m.fr n≠0/\(true=false\/k.refs (m.fr n-1)=1))):=hZ (by
    rw[HF.out.2.2,aP];rintro⟨_,c|c⟩
    ·cases c
    ·exact r1 c)
   have d0:=S2.out.1.me.qZ;have o1:W2.cell? ⟨bo,1,none⟩=some (.int .u8 (k.cX v 0)):=bA S2.out.2.2.1 1 _ (kU _ _ 1 (by omega));have o2:W2.cell? ⟨bo,2,none⟩=some (.int .u8 (k.cX v 1)):=bA S2.out.2.2.1 2 _ (kU _ _ 2 (by omega));have o3:W2.cell? ⟨bo,3,none⟩=some (.int .u8 (k.cX v 2)):=bA S2.out.2.2.1 3 _ (kU _ _ 3 (by omega));have o4:W2.cell? ⟨bo,4,none⟩=some (.int .u8 (k.cX v 3)):=bA S2.out.2.2.1 4 _ (kU _ _ 4 (by omega));have o5:W2.cell? ⟨bo,5,none⟩=some (.int .u8 (k.cX v 4)):=bA S2.out.2.2.1 5 _ (kU _ _ 5 (by omega));have o6:W2.cell? ⟨bo,6,none⟩=some (.int .u8 (k.cX v 5)):=bA S2.out.2.2.1 6 _ (kU _ _ 6 (by omega));have o7:W2.cell? ⟨bo,7,none⟩=some (.int .u8 (k.cX v 6)):=bA S2.out.2.2.1 7 _ (kU _ _ 7 (by omega));have o8:W2.cell? ⟨bo,8,none⟩=some (.int .u8 (k.cX v 7)):=bA S2.out.2.2.1 8 _ (kU _ _ 8 (by omega));have TK:=hZ (fun W (hW:cT W r q k)=>yC r q (k.cX v) k W hW HF.out.2.1.inv HF.out.2.1.nb);generalize k.refs v=rv at o0 r1';clear r1 KEEP;go_wp2_with fail
   go_region_with ((go_at_call 273;refine(TK.out _ (by first|exact S2.out.1.bk.drew|exact S2.out.1.bk)).mono ?_;rintro e w3 ⟨g,E,k1,rfl,ht,hk,F⟩;have H3:Hid (Mv.Fa k (k.cX v) E g k1/\cT w3 r q k1/\gZ r q W2 w3):=hZ ⟨ht,hk,(by first|exact F|exact((gZ.refl r q W2).drew).trans F)⟩;clear ht hk F))
   all_goals
    clear d0 o0 o1 o2 o3 o4 o5 o6 o7 o8 r1' TK;have HM:Hid (UB w3 b r q m k1/\eU b r q w w3):=hZ ⟨⟨S2.out.1.me.two H3.out.2.2 S2.out.1.br S2.out.1.bq,H3.out.2.1,S2.out.1.br,S2.out.1.bq⟩,S2.out.2.1.trans (eU.AP H3.out.2.2)⟩;have c0:=HM.out.1.me.qZ;have c1:=HM.out.1.me.uB n hn;rw[HF.out.2.2,show((v+1:Nat):Int)-1=(v:Int)by omega]at c1;have tkv:k.cq.tk v=true:=HF.out.2.1.hold v v64 (by have:=HF.out.2.1.held n hn (by rw[HF.out.2.2];omega);rw[HF.out.2.2,aP]at this;exact this.1);obtain⟨kk,hkk,hc⟩:=Kt H3.out.1 tkv;have HK:=hZ (aK hkk hc);clear tkv hkk hc;by_cases e0:E=0
    ·subst e0;have LV:Hid (Bd.Inv k1.cq/\1<=k1.refs v/\k1.refs v<2^60):=hZ (by
      obtain⟨p',h1,h2⟩:=H3.out.1;have hi:=HF.out.2.1.inv.take HF.out.2.1.nb h1;have hh:=HF.out.2.1.held n hn (by rw[HF.out.2.2];omega);rw[HF.out.2.2,aP]at hh;rw[aJ rfl]at h2;subst h2;refine⟨hi.1,?_⟩;show 1<=(if v=g then 1 else k.refs v)/\(if v=g then 1 else k.refs v)<2^60;split<;>omega)
     rw[aa];go_wp2_with fail
     go_region_with ((go_at_call 228;refine(vW r q v k1 _ (by first|exact HM.out.1.bk.drew|exact HM.out.1.bk) v64 LV.out.1 LV.out.2.1 LV.out.2.2).mono ?_;rintro e w4 ⟨rfl,hk4,F4⟩;have H4:Hid (cT w4 r q (Mv.je k1 v)/\gZ r q w3 w4):=hZ ⟨hk4,(by first|exact F4|exact((gZ.refl r q w3).drew).trans F4)⟩;clear hk4 F4))
     all_goals
      clear c0 c1;have S3:Hid (UB w4 b r q m (Mv.je k1 v)/\eU b r q w w4):=hZ ⟨⟨HM.out.1.me.two H4.out.2 S2.out.1.br S2.out.1.bq,H4.out.1,S2.out.1.br,S2.out.1.bq⟩,HM.out.2.trans (eU.AP H4.out.2)⟩;have d1:=S3.out.1.me.uB n hn;have df:=S3.out.1.me.frozen;have S4:Hid (UB (w4.setCell ⟨b,1+n*2+1,none⟩ (.int .i64 (g:Int))) b r q {m with fr:=iX m.fr n (g+1)} (Mv.je k1 v)/\eU b r q w (w4.setCell ⟨b,1+n*2+1,none⟩ (.int .i64 (g:Int)))):=hZ (by
       have f:af b w4 (w4.setCell ⟨b,1+n*2+1,none⟩ (.int .i64 (g:Int))):=(af.refl b w4).setCell _ _;exact⟨⟨S3.out.1.me.zu n (g+1) hn _ (by omega),S3.out.1.bk.jW f S3.out.1.br S3.out.1.bq,S3.out.1.br,S3.out.1.bq⟩,S3.out.2.trans (eU.mem f)⟩)
      go_wp2
      go_ret
      refine⟨0,g,_,_,rfl, .inr ⟨HN.out,kk,HK.out.1, .inr ⟨rfl,rfl,?_⟩⟩,S4.out.1,S4.out.2⟩;rcases HK.out.2 with⟨c,_⟩|⟨_,c,_⟩
      ·exact aZ rfl c
      ·rw[HF.out.2.2,aI (by omega),aP,c]
    ·rw[aj e0];have HE:=hZ e0;clear e0;go_wp2
     go_ret
     refine⟨E,g,_,_,by rw[aj HE.out];rfl, .inr ⟨HN.out,kk,HK.out.1, .inl ⟨HE.out,rfl,?_⟩⟩,HM.out.1,HM.out.2⟩;rcases HK.out.2 with⟨_,c⟩|⟨c,_⟩
     ·exact c
     ·exact aZ c HE.out
theorem B8 (b r q n:Nat)(wr:Bool)(m:Me)(k:Bk)(w:bD)(h:UB w b r q m k)(G:pA m k)(hn:n<16):
  Calls Tryz.prog 240 #[.pointer (some ⟨b,0,none⟩), .pointer (some ⟨b,1+n*2,none⟩), .bool wr] w (Fj b r q n wr m k w):=by
 by_cases c:m.fr n=0
 ·exact Et b r q n wr m k w h G hn c
 ·exact Ej b r q n (m.fr n-1) wr m k w h G hn (by omega)
theorem Mq {m m':Me}{k k':Bk}{x:Nat}{wr:Bool}{E:Int}{g:Nat}(h:Mv.I3 m k (x/8) wr E g m' k')(hm:Mv.jA m x wr=true):Mv.nP m k x wr E g m' k':=by
 unfold Mv.nP;rw[hU];rcases h with⟨a,b,c,d,e,f⟩|⟨a,k1,t,c⟩
 ·exact .inr (.inl ⟨hm,a,b,c,d,e,f⟩)
 ·exact .inr (.inr ⟨hm,a,k1,t,c⟩)
theorem Hq {m m':Me}{k k':Bk}{n:Nat}{E:Int}{wr:Bool}{g:Nat}(G:pA m k)(hn:n<16)(h:Mv.I3 m k n wr E g m' k'):g<64/\((E=0/\m'.fr n=g+1)\/E=4):=by
 rcases h with⟨a,b,rfl,rfl,rfl,_⟩|⟨_,k1,⟨p',t,_⟩,c⟩
 ·have:=G.le n hn;exact⟨by omega, .inl ⟨rfl,by omega⟩⟩
 ·have g64:=xk t;refine⟨g64,?_⟩;rcases c with⟨e0,_⟩|⟨e0,rfl,_⟩
  ·rcases t with⟨c,_⟩|⟨_,_,c,_⟩|⟨_,_,c,_⟩
   ·omega
   ·exact .inr c
   ·exact aZ c e0
  ·exact .inl ⟨e0,by show(if n=n then g+1 else m.fr n)=g+1;rw[aJ rfl]⟩
def Qs (b r q:Nat)(z:Int)(wr:Bool)(m:Me)(k:Bk)(w:bD)(e:Ending)(w':bD):Prop:=
 ∃(E:Int) (g:Nat) (m':Me) (k':Bk),e= .returned (.tuple #[if E=0 then .pointer (some ⟨r,1+g*9+1+z.toNat%8,none⟩)else .pointer none,aq E])/\Mv.nP m k z wr E g m' k'/\UB w' b r q m' k'/\eU b r q w w'/\g<64/\(E=0\/E=4\/E=10)
section
attribute [local go_sem] Ac OL
theorem vE (b r q:Nat)(z:Int)(wr:Bool)(m:Me)(k:Bk)(w:bD)(h:UB w b r q m k)(G:pA m k):
  Calls Tryz.prog 185 #[.pointer (some ⟨b,0,none⟩), .int .i64 z, .bool wr] w (Qs b r q z wr m k w):=by
 have HF:=hZ (aK h G);cases hm:Mv.jA m z wr
 ·have HM:=hZ hm;clear h G hm;go_in
  go_wp2_with fail
  refine(mJ b r z wr m _ HF.out.1.me).mono ?_;rintro e w1 ⟨rfl,hb⟩;have HB:=hZ hb;clear hb;rw[HM.out];go_wp2
  go_ret2
  exact⟨10,0,m,k,rfl, .inl ⟨HM.out,rfl,rfl,rfl,rfl⟩,HF.out.1.below HB.out,eU.below HB.out,by omega, .inr (.inr rfl)⟩
 ·obtain⟨x,rfl,hx⟩:=GZ hm;have HM:=hZ hm;have h8:(x:Int)/8<16:=by omega
  have h80:(0:Int)<=(x:Int)/8:=by omega
  have h9:(x:Int)%8<8:=by omega
  have h90:(0:Int)<=(x:Int)%8:=by omega
  have HX:Hid (x/8<16):=hZ (by omega);clear h G hm hx;go_in
  go_wp2_with fail
  refine(mJ b r x wr m _ HF.out.1.me).mono ?_;rintro e w1 ⟨rfl,hb⟩;have HB:=hZ (aK (HF.out.1.below hb) (eU.below (b:=b) (r:=r) (q:=q) hb));clear hb;rw[HM.out];go_wp2_with fail
  refine(B8 b r q (x/8) wr m k _ HB.out.1 HF.out.2 HX.out).mono ?_;rintro e w2 ⟨E,g,m',k',rfl,ht,hu,F⟩;have TE:=Hq HF.out.2 HX.out ht;have HT:Hid (Mv.nP m k x wr E g m' k'/\UB w2 b r q m' k'/\eU b r q w w2):=hZ ⟨Mq ht HM.out,hu,HB.out.2.trans F⟩;clear ht F;rcases TE with⟨g64,⟨rfl,hg⟩|rfl⟩
  ·have c0:=hu.me.qZ;have c1:=hu.me.uB (x/8) HX.out;rw[hg,show((g+1:Nat):Int)-1=(g:Int)by omega]at c1;have gI:(g:Int)<64:=by omega
   rw[aa];clear hu hg;go_wp2_with fail
   go_region
   go_wp2
   go_ret2
   exact⟨0,g,m',k',by rw[aJ rfl,hU];rfl,HT.out.1,HT.out.2.1.drew,HT.out.2.2.drew,g64, .inl rfl⟩
  ·rw[aj (by decide)];clear hu;go_wp2
   go_ret2
   exact⟨4,g,m',k',rfl,HT.out.1,HT.out.2.1,HT.out.2.2,g64, .inr (.inl rfl)⟩
end
theorem FA (b r q:Nat)(z:Int)(m:Me)(k:Bk)(w:bD)(h:UB w b r q m k)(G:pA m k):
  Calls Tryz.prog 108 #[.pointer (some ⟨b,0,none⟩), .int .i64 z] w fun e w'=> ∃(E:Int) (g:Nat) (m':Me) (k':Bk),e= .returned (.tuple #[.int .u8 (if E=0 then k'.cX g (z.toNat%8)else 0),aq E])/\Mv.nP m k z false E g m' k'/\UB w' b r q m' k'/\eU b r q w w'/\(E=0\/E=4\/E=10):=by
 have HF:=hZ (aK h G);clear h G;go_in
 go_wp2_with fail
 refine(vE b r q z false m k _ HF.out.1 HF.out.2).mono ?_;rintro e w1 ⟨E,g,m',k',rfl,ht,hu,F,g64,hE⟩;have HT:=hZ (aK ht (aK hu F));clear ht F;rcases hE with rfl|rfl|rfl
 ·have c2:=hu.bk.cB g (z.toNat%8) g64 (by omega);rw[aJ rfl,aa];clear hu;go_wp2
  go_ret2
  exact⟨0,g,m',k',by rw[aJ rfl];rfl,HT.out.1,HT.out.2.1,HT.out.2.2, .inl rfl⟩
 ·rw[aI (by decide),aj (by decide)];clear hu;go_wp2
  go_ret2
  exact⟨4,g,m',k',by rw[aI (by decide)];rfl,HT.out.1,HT.out.2.1,HT.out.2.2, .inr (.inl rfl)⟩
 ·rw[aI (by decide),aj (by decide)];clear hu;go_wp2
  go_ret2
  exact⟨10,g,m',k',by rw[aI (by decide)];rfl,HT.out.1,HT.out.2.1,HT.out.2.2, .inr (.inr rfl)⟩
theorem Eg (b r q:Nat)(z u:Int)(m:Me)(k:Bk)(w:bD)(h:UB w b r q m k)(G:pA m k):
  Calls Tryz.prog 110 #[.pointer (some ⟨b,0,none⟩), .int .i64 z, .int .u8 u] w fun e w'=> ∃(E:Int) (g:Nat) (m':Me) (k':Bk),e= .returned (aq E)/\Mv.nP m k z true E g m' k'/\UB w' b r q m' (if E=0 then Mv.FN k' g (z.toNat%8) u else k')/\eU b r q w w'/\(E=0\/E=4\/E=10):=by
 have HF:=hZ (aK h G);clear h G;go_in
 go_wp2_with fail
 refine(vE b r q z true m k _ HF.out.1 HF.out.2).mono ?_;rintro e w1 ⟨E,g,m',k',rfl,ht,hu,F,g64,hE⟩;have HT:=hZ (aK ht (aK hu F));clear ht F;rcases hE with rfl|rfl|rfl
 ·have c2:=hu.bk.cB g (z.toNat%8) g64 (by omega);have cf:=hu.bk.frozen;have S1:Hid (UB (w1.setCell ⟨r,1+g*9+1+z.toNat%8,none⟩ (.int .u8 u)) b r q m' (Mv.FN k' g (z.toNat%8) u)/\eU b r q w (w1.setCell ⟨r,1+g*9+1+z.toNat%8,none⟩ (.int .u8 u))):=hZ (by
   have f:af r w1 (w1.setCell ⟨r,1+g*9+1+z.toNat%8,none⟩ (.int .u8 u)):=(af.refl r w1).setCell _ _;exact⟨⟨hu.me.same (f.block b hu.me.lt hu.br),hu.bk.QH g (z.toNat%8) u g64 (by omega),hu.br,hu.bq⟩,HT.out.2.2.trans ⟨f.os,f.tape,f.output,f.size,fun j hj _ h2 _=>f.block j hj h2⟩⟩)
  rw[aJ rfl,aa];clear hu;go_wp2
  go_ret
  exact⟨0,g,m',k',rfl,HT.out.1,by rw[aJ rfl];exact S1.out.1,S1.out.2, .inl rfl⟩
 ·rw[aI (by decide),aj (by decide)];clear hu;go_wp2
  go_ret
  exact⟨4,g,m',k',rfl,HT.out.1,by rw[aI (by decide)];exact HT.out.2.1,HT.out.2.2, .inr (.inl rfl)⟩
 ·rw[aI (by decide),aj (by decide)];clear hu;go_wp2
  go_ret
  exact⟨10,g,m',k',rfl,HT.out.1,by rw[aI (by decide)];exact HT.out.2.1,HT.out.2.2, .inr (.inr rfl)⟩
